/-
  DERIVED. GIVEN WITH THE SEED: THE CARDS: each row of YtjngdecpomogbabDoorRows.lean that lists a variable, with what it lists TIED to the program's text (the seventh form; the later family's looks); each row that meets fmt, with fmt's text TOLD by the authors' own Lean function (tested against real Go, not proved from fmt's source: count such statements apart). THE CARD IS WHAT COUNTS. Prove the row's statement (the work); the ties are given (YtjngdecpomogbabDoorTie.lean); close each card by the builder's one call (the guide's Derived/Test/ToyasCard.lean, 'card_holds'). Laid BY PROGRAM, IN A SANDBOX (cutbox-door.mjs). By AI agents, Wed Nov 11 2026. No macro, syntax, notation, axiom, sorry.
-/
import Derived.Test.YtjngdecpomogbabDoorRows
import GoSem.ClaimSeven
namespace Go.Proofs.YtjngdecpomogbabDoor
namespace Rows

/-- THE TIED CARD OF 'plaitlaw08.PermThrice'. -/
def permThriceCard : Claim7 := { stood := { row := permThriceRow, standIns := [], harness := (true, "d6246c4f0d0c34e33445fcc7aa32a92fdc4dd6db78e2a101c43f083965b6367e"), looks := true }, kinds := [], alts := [], laidByText := true, laidKinds := [.handle], laidTests := true, laidLooks := .later }
def PermThriceCardSaid : Prop := Claim7.holds Tryd.pinned (.plain (OpenSpec.ofChange permThriceSpec)) permThriceCard

/-- THE SECOND FORM's CARD OF 'plaitlaw08.PermThrice'. -/
def permThriceUptoCard : Claim7 := { stood := { row := permThriceUptoRow, standIns := [], harness := (true, "d6246c4f0d0c34e33445fcc7aa32a92fdc4dd6db78e2a101c43f083965b6367e"), looks := true }, kinds := [], alts := [], laidByText := true, laidKinds := [.handle], laidTests := true, laidLooks := .later }
def PermThriceUptoCardSaid : Prop := Claim7.holds Tryd.pinned (.plain (OpenSpec.upto permThriceSpec)) permThriceUptoCard
end Rows
end Go.Proofs.YtjngdecpomogbabDoor
