/-
  DERIVED. GIVEN WITH THE SEED: THE CARDS: each row of YtnkgpjjlgbggcaaDoorRows.lean that lists a variable, with what it lists TIED to the program's text (the seventh form; the later family's looks); each row that meets fmt, with fmt's text TOLD by the authors' own Lean function (tested against real Go, not proved from fmt's source: count such statements apart). THE CARD IS WHAT COUNTS. Prove the row's statement (the work); the ties are given (YtnkgpjjlgbggcaaDoorTie.lean); close each card by the builder's one call (the guide's Derived/Test/ToyasCard.lean, 'card_holds'). Laid BY PROGRAM, IN A SANDBOX (cutbox-door.mjs). By AI agents, Wed Nov 11 2026. No macro, syntax, notation, axiom, sorry.
-/
import Derived.Test.YtnkgpjjlgbggcaaDoorRows
import GoSem.ClaimSeven
namespace Go.Proofs.YtnkgpjjlgbggcaaDoor
namespace Rows

/-- THE TIED CARD OF 'plaitlaw06.CutRuns'. -/
def cutRunsCard : Claim7 := { stood := { row := cutRunsRow, standIns := [], harness := (true, "46a44d3fdab27d5ad61bfc0bcfdb0c8306bf43a7e1c5e45a405cf83832a2bf8f"), looks := true }, kinds := [], alts := [], laidByText := true, laidKinds := [.handle], laidTests := true, laidLooks := .later }
def CutRunsCardSaid : Prop := Claim7.holds Tryd.pinned (.plain (OpenSpec.ofChange cutRunsSpec)) cutRunsCard

/-- THE SECOND FORM's CARD OF 'plaitlaw06.CutRuns'. -/
def cutRunsUptoCard : Claim7 := { stood := { row := cutRunsUptoRow, standIns := [], harness := (true, "46a44d3fdab27d5ad61bfc0bcfdb0c8306bf43a7e1c5e45a405cf83832a2bf8f"), looks := true }, kinds := [], alts := [], laidByText := true, laidKinds := [.handle], laidTests := true, laidLooks := .later }
def CutRunsUptoCardSaid : Prop := Claim7.holds Tryd.pinned (.plain (OpenSpec.upto cutRunsSpec)) cutRunsUptoCard
end Rows
end Go.Proofs.YtnkgpjjlgbggcaaDoor
