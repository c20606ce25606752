/-
  DERIVED. GIVEN WITH THE SEED: THE CARDS: each row of YtegljhbjjdfhiaaGreatDoorRows.lean that lists a variable, with what it lists TIED to the program's text (the seventh form; the later family's looks); each row that meets fmt, with fmt's text TOLD by the authors' own Lean function (tested against real Go, not proved from fmt's source: count such statements apart). THE CARD IS WHAT COUNTS. Prove the row's statement (the work); the ties are given (YtegljhbjjdfhiaaGreatDoorTie.lean); close each card by the builder's one call (the guide's Derived/Test/ToyasCard.lean, 'card_holds'). Laid BY PROGRAM, IN A SANDBOX (cutbox-door.mjs). By AI agents, Wed Nov 11 2026. No macro, syntax, notation, axiom, sorry.
-/
import Derived.Test.YtegljhbjjdfhiaaGreatDoorRows
import GoSem.ClaimSeven
namespace Go.Proofs.YtegljhbjjdfhiaaGreatDoor
namespace Rows

/-- THE TIED CARD OF 'plaitlaw12.SphereLegals'. -/
def sphereLegalsCard : Claim7 := { stood := { row := sphereLegalsRow, standIns := [], harness := (true, "191fc8b57fbe0aa7ebd2eecf912f19eaddd1575b6ea1022d0a1517b04857a777"), looks := true }, kinds := [], alts := [], laidByText := true, laidKinds := [.handle], laidTests := true, laidLooks := .later }
def SphereLegalsCardSaid : Prop := Claim7.holds Tryz.pinned (.plain (OpenSpec.ofChange sphereLegalsSpec)) sphereLegalsCard

/-- THE SECOND FORM's CARD OF 'plaitlaw12.SphereLegals'. -/
def sphereLegalsUptoCard : Claim7 := { stood := { row := sphereLegalsUptoRow, standIns := [], harness := (true, "191fc8b57fbe0aa7ebd2eecf912f19eaddd1575b6ea1022d0a1517b04857a777"), looks := true }, kinds := [], alts := [], laidByText := true, laidKinds := [.handle], laidTests := true, laidLooks := .later }
def SphereLegalsUptoCardSaid : Prop := Claim7.holds Tryz.pinned (.plain (OpenSpec.upto sphereLegalsSpec)) sphereLegalsUptoCard
end Rows
end Go.Proofs.YtegljhbjjdfhiaaGreatDoor
