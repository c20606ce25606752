/-
  DERIVED. GIVEN WITH THE SEED: THE CARDS: each row of YtboafgimjadboabGreatDoorRows.lean that lists a variable, with what it lists TIED to the program's text (the seventh form; the later family's looks); each row that meets fmt, with fmt's text TOLD by the authors' own Lean function (tested against real Go, not proved from fmt's source: count such statements apart). THE CARD IS WHAT COUNTS. Prove the row's statement (the work); the ties are given (YtboafgimjadboabGreatDoorTie.lean); close each card by the builder's one call (the guide's Derived/Test/ToyasCard.lean, 'card_holds'). Laid BY PROGRAM, IN A SANDBOX (cutbox-door.mjs). By AI agents, Wed Nov 11 2026. No macro, syntax, notation, axiom, sorry.
-/
import Derived.Test.YtboafgimjadboabGreatDoorRows
import GoSem.ClaimSeven
namespace Go.Proofs.YtboafgimjadboabGreatDoor
namespace Rows

/-- THE TIED CARD OF 'plaitlaw17.ModelAges'. -/
def modelAgesCard : Claim7 := { stood := { row := modelAgesRow, standIns := [], harness := (true, "d08640e09f144b5b59d716506a6feccc709dd299977f35d5c2727a294702fd6e"), looks := true }, kinds := [], alts := [], laidByText := true, laidKinds := [.data, .handle], laidTests := true, laidLooks := .later }
def ModelAgesCardSaid : Prop := Claim7.holds Tryz.pinned (.plain (OpenSpec.ofChange modelAgesSpec)) modelAgesCard

/-- THE SECOND FORM's CARD OF 'plaitlaw17.ModelAges'. -/
def modelAgesUptoCard : Claim7 := { stood := { row := modelAgesUptoRow, standIns := [], harness := (true, "d08640e09f144b5b59d716506a6feccc709dd299977f35d5c2727a294702fd6e"), looks := true }, kinds := [], alts := [], laidByText := true, laidKinds := [.data, .handle], laidTests := true, laidLooks := .later }
def ModelAgesUptoCardSaid : Prop := Claim7.holds Tryz.pinned (.plain (OpenSpec.upto modelAgesSpec)) modelAgesUptoCard
end Rows
end Go.Proofs.YtboafgimjadboabGreatDoor
