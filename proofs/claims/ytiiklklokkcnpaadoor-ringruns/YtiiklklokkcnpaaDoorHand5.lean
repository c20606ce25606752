/- The handle of errors.As stays. -/
import Derived.Test.YtiiklklokkcnpaaDoorSure4
import Derived.Test.YtiiklklokkcnpaaDoorErrAs
namespace Go.Proofs.YtiiklklokkcnpaaDoor
open Go.RowKit
set_option linter.unusedVariables false

theorem Handle.belowB {w w' : World} {B : Nat} (h : Handle w) (hb : Below B w w') (h0 : 0 < B) : Handle w' := by
  unfold Handle at *
  rw [hb.cell (p := ⟨0, 0, none⟩) h0]
  exact h

theorem FS.handle {lo fb n : Nat} {w wr : World} {v : Nat → Int} {seq : Nat → List Nat} (h : FS lo w fb n v seq wr) (hg : Handle w) (hlo : lo = w.heap.size) : Handle wr := hg.belowB h.below (by rw [hlo]; exact World.block_lt_of_cell? w _ hg)

end Go.Proofs.YtiiklklokkcnpaaDoor
