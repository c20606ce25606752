/-
  DERIVED. GIVEN WITH THE SEED: THE CARDS: each row of YtkopcfpghklbbaaDoorRows.lean that lists a variable, with what it lists TIED to the program's text (the seventh form; the later family's looks); each row that meets fmt, with fmt's text TOLD by the authors' own Lean function (tested against real Go, not proved from fmt's source: count such statements apart). THE CARD IS WHAT COUNTS. Prove the row's statement (the work); the ties are given (YtkopcfpghklbbaaDoorTie.lean); close each card by the builder's one call (the guide's Derived/Test/ToyasCard.lean, 'card_holds'). Laid BY PROGRAM, IN A SANDBOX (cutbox-door.mjs). By AI agents, Wed Nov 11 2026. No macro, syntax, notation, axiom, sorry.
-/
import Derived.Test.YtkopcfpghklbbaaDoorRows
import GoSem.ClaimSeven
namespace Go.Proofs.YtkopcfpghklbbaaDoor
namespace Rows

/-- THE TIED CARD OF 'plaitlaw20.AnswerEncodes'. -/
def answerEncodesCard : Claim7 := { stood := { row := answerEncodesRow, standIns := [], harness := (true, "de3fb94c73b860a918f5919b27e3ce5fc15467156fcefd305005e6bc737596e4"), looks := true }, kinds := [], alts := [], laidByText := true, laidKinds := [.data, .data, .data, .handle], laidTests := true, laidLooks := .later }
def AnswerEncodesCardSaid : Prop := Claim7.holds Tryd.pinned (.plain (OpenSpec.ofChange answerEncodesSpec)) answerEncodesCard

/-- THE TIED CARD OF 'plaitlaw20.AnswerDecodes'. -/
def answerDecodesCard : Claim7 := { stood := { row := answerDecodesRow, standIns := [], harness := (true, "de3fb94c73b860a918f5919b27e3ce5fc15467156fcefd305005e6bc737596e4"), looks := true }, kinds := [], alts := [], laidByText := true, laidKinds := [.data, .data, .data, .handle], laidTests := true, laidLooks := .later }
def AnswerDecodesCardSaid : Prop := Claim7.holds Tryd.pinned (.plain (OpenSpec.ofChange answerDecodesSpec)) answerDecodesCard

/-- THE TIED CARD OF 'plaitlaw20.AnswerBack'. -/
def answerBackCard : Claim7 := { stood := { row := answerBackRow, standIns := [], harness := (true, "de3fb94c73b860a918f5919b27e3ce5fc15467156fcefd305005e6bc737596e4"), looks := true }, kinds := [], alts := [], laidByText := true, laidKinds := [.data, .data, .data, .handle], laidTests := true, laidLooks := .later }
def AnswerBackCardSaid : Prop := Claim7.holds Tryd.pinned (.plain (OpenSpec.ofChange answerBackSpec)) answerBackCard

/-- THE TIED CARD OF 'plaitlaw20.AnswerErrors'. -/
def answerErrorsCard : Claim7 := { stood := { row := answerErrorsRow, standIns := [], harness := (true, "de3fb94c73b860a918f5919b27e3ce5fc15467156fcefd305005e6bc737596e4"), looks := true }, kinds := [], alts := [], laidByText := true, laidKinds := [.data, .data, .data], laidTests := true, laidLooks := .later }
def AnswerErrorsCardSaid : Prop := Claim7.holds Tryd.pinned (.plain (OpenSpec.ofChange answerErrorsSpec)) answerErrorsCard

/-- THE TIED CARD OF 'plaitlaw20.AnswerFlags'. -/
def answerFlagsCard : Claim7 := { stood := { row := answerFlagsRow, standIns := [], harness := (true, "de3fb94c73b860a918f5919b27e3ce5fc15467156fcefd305005e6bc737596e4"), looks := true }, kinds := [], alts := [], laidByText := true, laidKinds := [.data, .data, .data, .handle], laidTests := true, laidLooks := .later }
def AnswerFlagsCardSaid : Prop := Claim7.holds Tryd.pinned (.plain (OpenSpec.ofChange answerFlagsSpec)) answerFlagsCard

/-- THE SECOND FORM's CARD OF 'plaitlaw20.AnswerEncodes'. -/
def answerEncodesUptoCard : Claim7 := { stood := { row := answerEncodesUptoRow, standIns := [], harness := (true, "de3fb94c73b860a918f5919b27e3ce5fc15467156fcefd305005e6bc737596e4"), looks := true }, kinds := [], alts := [], laidByText := true, laidKinds := [.data, .data, .data, .handle], laidTests := true, laidLooks := .later }
def AnswerEncodesUptoCardSaid : Prop := Claim7.holds Tryd.pinned (.plain (OpenSpec.upto answerEncodesSpec)) answerEncodesUptoCard

/-- THE SECOND FORM's CARD OF 'plaitlaw20.AnswerDecodes'. -/
def answerDecodesUptoCard : Claim7 := { stood := { row := answerDecodesUptoRow, standIns := [], harness := (true, "de3fb94c73b860a918f5919b27e3ce5fc15467156fcefd305005e6bc737596e4"), looks := true }, kinds := [], alts := [], laidByText := true, laidKinds := [.data, .data, .data, .handle], laidTests := true, laidLooks := .later }
def AnswerDecodesUptoCardSaid : Prop := Claim7.holds Tryd.pinned (.plain (OpenSpec.upto answerDecodesSpec)) answerDecodesUptoCard

/-- THE SECOND FORM's CARD OF 'plaitlaw20.AnswerBack'. -/
def answerBackUptoCard : Claim7 := { stood := { row := answerBackUptoRow, standIns := [], harness := (true, "de3fb94c73b860a918f5919b27e3ce5fc15467156fcefd305005e6bc737596e4"), looks := true }, kinds := [], alts := [], laidByText := true, laidKinds := [.data, .data, .data, .handle], laidTests := true, laidLooks := .later }
def AnswerBackUptoCardSaid : Prop := Claim7.holds Tryd.pinned (.plain (OpenSpec.upto answerBackSpec)) answerBackUptoCard

/-- THE SECOND FORM's CARD OF 'plaitlaw20.AnswerErrors'. -/
def answerErrorsUptoCard : Claim7 := { stood := { row := answerErrorsUptoRow, standIns := [], harness := (true, "de3fb94c73b860a918f5919b27e3ce5fc15467156fcefd305005e6bc737596e4"), looks := true }, kinds := [], alts := [], laidByText := true, laidKinds := [.data, .data, .data], laidTests := true, laidLooks := .later }
def AnswerErrorsUptoCardSaid : Prop := Claim7.holds Tryd.pinned (.plain (OpenSpec.upto answerErrorsSpec)) answerErrorsUptoCard

/-- THE SECOND FORM's CARD OF 'plaitlaw20.AnswerFlags'. -/
def answerFlagsUptoCard : Claim7 := { stood := { row := answerFlagsUptoRow, standIns := [], harness := (true, "de3fb94c73b860a918f5919b27e3ce5fc15467156fcefd305005e6bc737596e4"), looks := true }, kinds := [], alts := [], laidByText := true, laidKinds := [.data, .data, .data, .handle], laidTests := true, laidLooks := .later }
def AnswerFlagsUptoCardSaid : Prop := Claim7.holds Tryd.pinned (.plain (OpenSpec.upto answerFlagsSpec)) answerFlagsUptoCard
end Rows
end Go.Proofs.YtkopcfpghklbbaaDoor
