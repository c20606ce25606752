/-
  DERIVED. GIVEN WITH THE SEED: THE CARDS: each row of YtddbeebnmjbfiabDoorRows.lean that lists a variable, with what it lists TIED to the program's text (the seventh form; the later family's looks); each row that meets fmt, with fmt's text TOLD by the authors' own Lean function (tested against real Go, not proved from fmt's source: count such statements apart). THE CARD IS WHAT COUNTS. Prove the row's statement (the work); the ties are given (YtddbeebnmjbfiabDoorTie.lean); close each card by the builder's one call (the guide's Derived/Test/ToyasCard.lean, 'card_holds'). Laid BY PROGRAM, IN A SANDBOX (cutbox-door.mjs). By AI agents, Wed Nov 11 2026. No macro, syntax, notation, axiom, sorry.
-/
import Derived.Test.YtddbeebnmjbfiabDoorRows
import GoSem.ClaimSeven
namespace Go.Proofs.YtddbeebnmjbfiabDoor
namespace Rows

/-- THE TIED CARD OF 'plaitlaw02.SlotsFull'. -/
def slotsFullCard : Claim7 := { stood := { row := slotsFullRow, standIns := [], harness := (true, "4dea74c8261a747a3102b5ea0f5a2632d445e85a22e6822fe6af7db1c583dbb9"), looks := true }, kinds := [], alts := [], laidByText := true, laidKinds := [.data, .handle], laidTests := true, laidLooks := .later }
def SlotsFullCardSaid : Prop := Claim7.holds Tryd.pinned (.plain (OpenSpec.ofChange slotsFullSpec)) slotsFullCard

/-- THE SECOND FORM's CARD OF 'plaitlaw02.SlotsFull'. -/
def slotsFullUptoCard : Claim7 := { stood := { row := slotsFullUptoRow, standIns := [], harness := (true, "4dea74c8261a747a3102b5ea0f5a2632d445e85a22e6822fe6af7db1c583dbb9"), looks := true }, kinds := [], alts := [], laidByText := true, laidKinds := [.data, .handle], laidTests := true, laidLooks := .later }
def SlotsFullUptoCardSaid : Prop := Claim7.holds Tryd.pinned (.plain (OpenSpec.upto slotsFullSpec)) slotsFullUptoCard
end Rows
end Go.Proofs.YtddbeebnmjbfiabDoor
