/-
  DERIVED. GIVEN WITH THE SEED: THE CARDS: each row of YtdlggnibgnflnaaDoorRows.lean that lists a variable, with what it lists TIED to the program's text (the seventh form; the later family's looks); each row that meets fmt, with fmt's text TOLD by the authors' own Lean function (tested against real Go, not proved from fmt's source: count such statements apart). THE CARD IS WHAT COUNTS. Prove the row's statement (the work); the ties are given (YtdlggnibgnflnaaDoorTie.lean); close each card by the builder's one call (the guide's Derived/Test/ToyasCard.lean, 'card_holds'). Laid BY PROGRAM, IN A SANDBOX (cutbox-door.mjs). By AI agents, Wed Nov 11 2026. No macro, syntax, notation, axiom, sorry.
-/
import Derived.Test.YtdlggnibgnflnaaDoorRows
import GoSem.ClaimSeven
namespace Go.Proofs.YtdlggnibgnflnaaDoor
namespace Rows

/-- THE TIED CARD OF 'plaitlaw10.TurnRuns'. -/
def turnRunsCard : Claim7 := { stood := { row := turnRunsRow, standIns := [], harness := (true, "4f019c0f883336a9cd734b8a51a58b24f8456a5b70532c281ffcb2c635c0cb0e"), looks := true }, kinds := [], alts := [], laidByText := true, laidKinds := [.handle], laidTests := true, laidLooks := .later }
def TurnRunsCardSaid : Prop := Claim7.holds Tryd.pinned (.plain (OpenSpec.ofChange turnRunsSpec)) turnRunsCard

/-- THE TIED CARD OF 'plaitlaw10.TurnChecks'. -/
def turnChecksCard : Claim7 := { stood := { row := turnChecksRow, standIns := [], harness := (true, "4f019c0f883336a9cd734b8a51a58b24f8456a5b70532c281ffcb2c635c0cb0e"), looks := true }, kinds := [], alts := [], laidByText := true, laidKinds := [.handle], laidTests := true, laidLooks := .later }
def TurnChecksCardSaid : Prop := Claim7.holds Tryd.pinned (.plain (OpenSpec.ofChange turnChecksSpec)) turnChecksCard

/-- THE TIED CARD OF 'plaitlaw10.TurnNew'. -/
def turnNewCard : Claim7 := { stood := { row := turnNewRow, standIns := [], harness := (true, "4f019c0f883336a9cd734b8a51a58b24f8456a5b70532c281ffcb2c635c0cb0e"), looks := true }, kinds := [], alts := [], laidByText := true, laidKinds := [.handle], laidTests := true, laidLooks := .later }
def TurnNewCardSaid : Prop := Claim7.holds Tryd.pinned (.plain (OpenSpec.ofChange turnNewSpec)) turnNewCard

/-- THE TIED CARD OF 'plaitlaw10.TurnBack'. -/
def turnBackCard : Claim7 := { stood := { row := turnBackRow, standIns := [], harness := (true, "4f019c0f883336a9cd734b8a51a58b24f8456a5b70532c281ffcb2c635c0cb0e"), looks := true }, kinds := [], alts := [], laidByText := true, laidKinds := [.handle], laidTests := true, laidLooks := .later }
def TurnBackCardSaid : Prop := Claim7.holds Tryd.pinned (.plain (OpenSpec.ofChange turnBackSpec)) turnBackCard

/-- THE TIED CARD OF 'plaitlaw10.TurnLoads'. -/
def turnLoadsCard : Claim7 := { stood := { row := turnLoadsRow, standIns := [], harness := (true, "4f019c0f883336a9cd734b8a51a58b24f8456a5b70532c281ffcb2c635c0cb0e"), looks := true }, kinds := [], alts := [], laidByText := true, laidKinds := [.handle], laidTests := true, laidLooks := .later }
def TurnLoadsCardSaid : Prop := Claim7.holds Tryd.pinned (.plain (OpenSpec.ofChange turnLoadsSpec)) turnLoadsCard

/-- THE TIED CARD OF 'plaitlaw10.TurnSums'. -/
def turnSumsCard : Claim7 := { stood := { row := turnSumsRow, standIns := [], harness := (true, "4f019c0f883336a9cd734b8a51a58b24f8456a5b70532c281ffcb2c635c0cb0e"), looks := true }, kinds := [], alts := [], laidByText := true, laidKinds := [.handle], laidTests := true, laidLooks := .later }
def TurnSumsCardSaid : Prop := Claim7.holds Tryd.pinned (.plain (OpenSpec.ofChange turnSumsSpec)) turnSumsCard

/-- THE SECOND FORM's CARD OF 'plaitlaw10.TurnRuns'. -/
def turnRunsUptoCard : Claim7 := { stood := { row := turnRunsUptoRow, standIns := [], harness := (true, "4f019c0f883336a9cd734b8a51a58b24f8456a5b70532c281ffcb2c635c0cb0e"), looks := true }, kinds := [], alts := [], laidByText := true, laidKinds := [.handle], laidTests := true, laidLooks := .later }
def TurnRunsUptoCardSaid : Prop := Claim7.holds Tryd.pinned (.plain (OpenSpec.upto turnRunsSpec)) turnRunsUptoCard

/-- THE SECOND FORM's CARD OF 'plaitlaw10.TurnChecks'. -/
def turnChecksUptoCard : Claim7 := { stood := { row := turnChecksUptoRow, standIns := [], harness := (true, "4f019c0f883336a9cd734b8a51a58b24f8456a5b70532c281ffcb2c635c0cb0e"), looks := true }, kinds := [], alts := [], laidByText := true, laidKinds := [.handle], laidTests := true, laidLooks := .later }
def TurnChecksUptoCardSaid : Prop := Claim7.holds Tryd.pinned (.plain (OpenSpec.upto turnChecksSpec)) turnChecksUptoCard

/-- THE SECOND FORM's CARD OF 'plaitlaw10.TurnNew'. -/
def turnNewUptoCard : Claim7 := { stood := { row := turnNewUptoRow, standIns := [], harness := (true, "4f019c0f883336a9cd734b8a51a58b24f8456a5b70532c281ffcb2c635c0cb0e"), looks := true }, kinds := [], alts := [], laidByText := true, laidKinds := [.handle], laidTests := true, laidLooks := .later }
def TurnNewUptoCardSaid : Prop := Claim7.holds Tryd.pinned (.plain (OpenSpec.upto turnNewSpec)) turnNewUptoCard

/-- THE SECOND FORM's CARD OF 'plaitlaw10.TurnBack'. -/
def turnBackUptoCard : Claim7 := { stood := { row := turnBackUptoRow, standIns := [], harness := (true, "4f019c0f883336a9cd734b8a51a58b24f8456a5b70532c281ffcb2c635c0cb0e"), looks := true }, kinds := [], alts := [], laidByText := true, laidKinds := [.handle], laidTests := true, laidLooks := .later }
def TurnBackUptoCardSaid : Prop := Claim7.holds Tryd.pinned (.plain (OpenSpec.upto turnBackSpec)) turnBackUptoCard

/-- THE SECOND FORM's CARD OF 'plaitlaw10.TurnLoads'. -/
def turnLoadsUptoCard : Claim7 := { stood := { row := turnLoadsUptoRow, standIns := [], harness := (true, "4f019c0f883336a9cd734b8a51a58b24f8456a5b70532c281ffcb2c635c0cb0e"), looks := true }, kinds := [], alts := [], laidByText := true, laidKinds := [.handle], laidTests := true, laidLooks := .later }
def TurnLoadsUptoCardSaid : Prop := Claim7.holds Tryd.pinned (.plain (OpenSpec.upto turnLoadsSpec)) turnLoadsUptoCard

/-- THE SECOND FORM's CARD OF 'plaitlaw10.TurnSums'. -/
def turnSumsUptoCard : Claim7 := { stood := { row := turnSumsUptoRow, standIns := [], harness := (true, "4f019c0f883336a9cd734b8a51a58b24f8456a5b70532c281ffcb2c635c0cb0e"), looks := true }, kinds := [], alts := [], laidByText := true, laidKinds := [.handle], laidTests := true, laidLooks := .later }
def TurnSumsUptoCardSaid : Prop := Claim7.holds Tryd.pinned (.plain (OpenSpec.upto turnSumsSpec)) turnSumsUptoCard
end Rows
end Go.Proofs.YtdlggnibgnflnaaDoor
