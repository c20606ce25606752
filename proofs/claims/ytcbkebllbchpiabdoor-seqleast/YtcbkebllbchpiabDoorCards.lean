/-
  DERIVED. GIVEN WITH THE SEED: THE CARDS: each row of YtcbkebllbchpiabDoorRows.lean that lists a variable, with what it lists TIED to the program's text (the seventh form; the later family's looks); each row that meets fmt, with fmt's text TOLD by the authors' own Lean function (tested against real Go, not proved from fmt's source: count such statements apart). THE CARD IS WHAT COUNTS. Prove the row's statement (the work); the ties are given (YtcbkebllbchpiabDoorTie.lean); close each card by the builder's one call (the guide's Derived/Test/ToyasCard.lean, 'card_holds'). Laid BY PROGRAM, IN A SANDBOX (cutbox-door.mjs). By AI agents, Wed Nov 11 2026. No macro, syntax, notation, axiom, sorry.
-/
import Derived.Test.YtcbkebllbchpiabDoorRows
import GoSem.ClaimSeven
namespace Go.Proofs.YtcbkebllbchpiabDoor
namespace Rows

/-- THE TIED CARD OF 'plaitlaw04.SeqLeast'. -/
def seqLeastCard : Claim7 := { stood := { row := seqLeastRow, standIns := [], harness := (true, "a065a256e137cf17ef7fff92eee718d29912747678f0313e0b489f5f346dcbfa"), looks := true }, kinds := [], alts := [], laidByText := true, laidKinds := [.handle], laidTests := true, laidLooks := .later }
def SeqLeastCardSaid : Prop := Claim7.holds Tryd.pinned (.plain (OpenSpec.ofChange seqLeastSpec)) seqLeastCard

/-- THE SECOND FORM's CARD OF 'plaitlaw04.SeqLeast'. -/
def seqLeastUptoCard : Claim7 := { stood := { row := seqLeastUptoRow, standIns := [], harness := (true, "a065a256e137cf17ef7fff92eee718d29912747678f0313e0b489f5f346dcbfa"), looks := true }, kinds := [], alts := [], laidByText := true, laidKinds := [.handle], laidTests := true, laidLooks := .later }
def SeqLeastUptoCardSaid : Prop := Claim7.holds Tryd.pinned (.plain (OpenSpec.upto seqLeastSpec)) seqLeastUptoCard
end Rows
end Go.Proofs.YtcbkebllbchpiabDoor
