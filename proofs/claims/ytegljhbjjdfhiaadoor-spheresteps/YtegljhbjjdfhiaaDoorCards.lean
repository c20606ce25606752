/-
  DERIVED. GIVEN WITH THE SEED: THE CARDS: each row of YtegljhbjjdfhiaaDoorRows.lean that lists a variable, with what it lists TIED to the program's text (the seventh form; the later family's looks); each row that meets fmt, with fmt's text TOLD by the authors' own Lean function (tested against real Go, not proved from fmt's source: count such statements apart). THE CARD IS WHAT COUNTS. Prove the row's statement (the work); the ties are given (YtegljhbjjdfhiaaDoorTie.lean); close each card by the builder's one call (the guide's Derived/Test/ToyasCard.lean, 'card_holds'). Laid BY PROGRAM, IN A SANDBOX (cutbox-door.mjs). By AI agents, Wed Nov 11 2026. No macro, syntax, notation, axiom, sorry.
-/
import Derived.Test.YtegljhbjjdfhiaaDoorRows
import GoSem.ClaimSeven
namespace Go.Proofs.YtegljhbjjdfhiaaDoor
namespace Rows

/-- THE TIED CARD OF 'plaitlaw12.SphereCounts'. -/
def sphereCountsCard : Claim7 := { stood := { row := sphereCountsRow, standIns := [], harness := (true, "36d1fc7130ac06979c3cc093f4561d6a1996096634a8599c725a08983918ddcb"), looks := true }, kinds := [], alts := [], laidByText := true, laidKinds := [.handle], laidTests := true, laidLooks := .later }
def SphereCountsCardSaid : Prop := Claim7.holds Tryd.pinned (.plain (OpenSpec.ofChange sphereCountsSpec)) sphereCountsCard

/-- THE TIED CARD OF 'plaitlaw12.SphereSteps'. -/
def sphereStepsCard : Claim7 := { stood := { row := sphereStepsRow, standIns := [], harness := (true, "36d1fc7130ac06979c3cc093f4561d6a1996096634a8599c725a08983918ddcb"), looks := true }, kinds := [], alts := [], laidByText := true, laidKinds := [.handle], laidTests := true, laidLooks := .later }
def SphereStepsCardSaid : Prop := Claim7.holds Tryd.pinned (.plain (OpenSpec.ofChange sphereStepsSpec)) sphereStepsCard

/-- THE SECOND FORM's CARD OF 'plaitlaw12.SphereCounts'. -/
def sphereCountsUptoCard : Claim7 := { stood := { row := sphereCountsUptoRow, standIns := [], harness := (true, "36d1fc7130ac06979c3cc093f4561d6a1996096634a8599c725a08983918ddcb"), looks := true }, kinds := [], alts := [], laidByText := true, laidKinds := [.handle], laidTests := true, laidLooks := .later }
def SphereCountsUptoCardSaid : Prop := Claim7.holds Tryd.pinned (.plain (OpenSpec.upto sphereCountsSpec)) sphereCountsUptoCard

/-- THE SECOND FORM's CARD OF 'plaitlaw12.SphereSteps'. -/
def sphereStepsUptoCard : Claim7 := { stood := { row := sphereStepsUptoRow, standIns := [], harness := (true, "36d1fc7130ac06979c3cc093f4561d6a1996096634a8599c725a08983918ddcb"), looks := true }, kinds := [], alts := [], laidByText := true, laidKinds := [.handle], laidTests := true, laidLooks := .later }
def SphereStepsUptoCardSaid : Prop := Claim7.holds Tryd.pinned (.plain (OpenSpec.upto sphereStepsSpec)) sphereStepsUptoCard
end Rows
end Go.Proofs.YtegljhbjjdfhiaaDoor
