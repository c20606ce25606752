/-
  DERIVED. GIVEN WITH THE SEED: THE CARDS: each row of YtbdcddkiioehcaaDoorRows.lean that lists a variable, with what it lists TIED to the program's text (the seventh form; the later family's looks); each row that meets fmt, with fmt's text TOLD by the authors' own Lean function (tested against real Go, not proved from fmt's source: count such statements apart). THE CARD IS WHAT COUNTS. Prove the row's statement (the work); the ties are given (YtbdcddkiioehcaaDoorTie.lean); close each card by the builder's one call (the guide's Derived/Test/ToyasCard.lean, 'card_holds'). Laid BY PROGRAM, IN A SANDBOX (cutbox-door.mjs). By AI agents, Wed Nov 11 2026. No macro, syntax, notation, axiom, sorry.
-/
import Derived.Test.YtbdcddkiioehcaaDoorRows
import GoSem.ClaimSeven
namespace Go.Proofs.YtbdcddkiioehcaaDoor
namespace Rows

/-- THE TIED CARD OF 'plaitlaw06.CutRuns'. -/
def cutRunsCard : Claim7 := { stood := { row := cutRunsRow, standIns := [], harness := (true, "b629564efd27fbc28b6ad70e6aee9bb99f13a0ac98876bff2b8f545c6506f8f2"), looks := true }, kinds := [], alts := [], laidByText := true, laidKinds := [.handle], laidTests := true, laidLooks := .later }
def CutRunsCardSaid : Prop := Claim7.holds Tryd.pinned (.plain (OpenSpec.ofChange cutRunsSpec)) cutRunsCard

/-- THE TIED CARD OF 'plaitlaw06.CutNew'. -/
def cutNewCard : Claim7 := { stood := { row := cutNewRow, standIns := [], harness := (true, "b629564efd27fbc28b6ad70e6aee9bb99f13a0ac98876bff2b8f545c6506f8f2"), looks := true }, kinds := [], alts := [], laidByText := true, laidKinds := [.handle], laidTests := true, laidLooks := .later }
def CutNewCardSaid : Prop := Claim7.holds Tryd.pinned (.plain (OpenSpec.ofChange cutNewSpec)) cutNewCard

/-- THE TIED CARD OF 'plaitlaw06.CutTurned'. -/
def cutTurnedCard : Claim7 := { stood := { row := cutTurnedRow, standIns := [], harness := (true, "b629564efd27fbc28b6ad70e6aee9bb99f13a0ac98876bff2b8f545c6506f8f2"), looks := true }, kinds := [], alts := [], laidByText := true, laidKinds := [.handle], laidTests := true, laidLooks := .later }
def CutTurnedCardSaid : Prop := Claim7.holds Tryd.pinned (.plain (OpenSpec.ofChange cutTurnedSpec)) cutTurnedCard

/-- THE TIED CARD OF 'plaitlaw06.CutBack'. -/
def cutBackCard : Claim7 := { stood := { row := cutBackRow, standIns := [], harness := (true, "b629564efd27fbc28b6ad70e6aee9bb99f13a0ac98876bff2b8f545c6506f8f2"), looks := true }, kinds := [], alts := [], laidByText := true, laidKinds := [.handle], laidTests := true, laidLooks := .later }
def CutBackCardSaid : Prop := Claim7.holds Tryd.pinned (.plain (OpenSpec.ofChange cutBackSpec)) cutBackCard

/-- THE TIED CARD OF 'plaitlaw06.CutSums'. -/
def cutSumsCard : Claim7 := { stood := { row := cutSumsRow, standIns := [], harness := (true, "b629564efd27fbc28b6ad70e6aee9bb99f13a0ac98876bff2b8f545c6506f8f2"), looks := true }, kinds := [], alts := [], laidByText := true, laidKinds := [.handle], laidTests := true, laidLooks := .later }
def CutSumsCardSaid : Prop := Claim7.holds Tryd.pinned (.plain (OpenSpec.ofChange cutSumsSpec)) cutSumsCard

/-- THE TIED CARD OF 'plaitlaw06.CutLinks'. -/
def cutLinksCard : Claim7 := { stood := { row := cutLinksRow, standIns := [], harness := (true, "b629564efd27fbc28b6ad70e6aee9bb99f13a0ac98876bff2b8f545c6506f8f2"), looks := true }, kinds := [], alts := [], laidByText := true, laidKinds := [.handle], laidTests := true, laidLooks := .later }
def CutLinksCardSaid : Prop := Claim7.holds Tryd.pinned (.plain (OpenSpec.ofChange cutLinksSpec)) cutLinksCard

/-- THE SECOND FORM's CARD OF 'plaitlaw06.CutRuns'. -/
def cutRunsUptoCard : Claim7 := { stood := { row := cutRunsUptoRow, standIns := [], harness := (true, "b629564efd27fbc28b6ad70e6aee9bb99f13a0ac98876bff2b8f545c6506f8f2"), looks := true }, kinds := [], alts := [], laidByText := true, laidKinds := [.handle], laidTests := true, laidLooks := .later }
def CutRunsUptoCardSaid : Prop := Claim7.holds Tryd.pinned (.plain (OpenSpec.upto cutRunsSpec)) cutRunsUptoCard

/-- THE SECOND FORM's CARD OF 'plaitlaw06.CutNew'. -/
def cutNewUptoCard : Claim7 := { stood := { row := cutNewUptoRow, standIns := [], harness := (true, "b629564efd27fbc28b6ad70e6aee9bb99f13a0ac98876bff2b8f545c6506f8f2"), looks := true }, kinds := [], alts := [], laidByText := true, laidKinds := [.handle], laidTests := true, laidLooks := .later }
def CutNewUptoCardSaid : Prop := Claim7.holds Tryd.pinned (.plain (OpenSpec.upto cutNewSpec)) cutNewUptoCard

/-- THE SECOND FORM's CARD OF 'plaitlaw06.CutTurned'. -/
def cutTurnedUptoCard : Claim7 := { stood := { row := cutTurnedUptoRow, standIns := [], harness := (true, "b629564efd27fbc28b6ad70e6aee9bb99f13a0ac98876bff2b8f545c6506f8f2"), looks := true }, kinds := [], alts := [], laidByText := true, laidKinds := [.handle], laidTests := true, laidLooks := .later }
def CutTurnedUptoCardSaid : Prop := Claim7.holds Tryd.pinned (.plain (OpenSpec.upto cutTurnedSpec)) cutTurnedUptoCard

/-- THE SECOND FORM's CARD OF 'plaitlaw06.CutBack'. -/
def cutBackUptoCard : Claim7 := { stood := { row := cutBackUptoRow, standIns := [], harness := (true, "b629564efd27fbc28b6ad70e6aee9bb99f13a0ac98876bff2b8f545c6506f8f2"), looks := true }, kinds := [], alts := [], laidByText := true, laidKinds := [.handle], laidTests := true, laidLooks := .later }
def CutBackUptoCardSaid : Prop := Claim7.holds Tryd.pinned (.plain (OpenSpec.upto cutBackSpec)) cutBackUptoCard

/-- THE SECOND FORM's CARD OF 'plaitlaw06.CutSums'. -/
def cutSumsUptoCard : Claim7 := { stood := { row := cutSumsUptoRow, standIns := [], harness := (true, "b629564efd27fbc28b6ad70e6aee9bb99f13a0ac98876bff2b8f545c6506f8f2"), looks := true }, kinds := [], alts := [], laidByText := true, laidKinds := [.handle], laidTests := true, laidLooks := .later }
def CutSumsUptoCardSaid : Prop := Claim7.holds Tryd.pinned (.plain (OpenSpec.upto cutSumsSpec)) cutSumsUptoCard

/-- THE SECOND FORM's CARD OF 'plaitlaw06.CutLinks'. -/
def cutLinksUptoCard : Claim7 := { stood := { row := cutLinksUptoRow, standIns := [], harness := (true, "b629564efd27fbc28b6ad70e6aee9bb99f13a0ac98876bff2b8f545c6506f8f2"), looks := true }, kinds := [], alts := [], laidByText := true, laidKinds := [.handle], laidTests := true, laidLooks := .later }
def CutLinksUptoCardSaid : Prop := Claim7.holds Tryd.pinned (.plain (OpenSpec.upto cutLinksSpec)) cutLinksUptoCard
end Rows
end Go.Proofs.YtbdcddkiioehcaaDoor
