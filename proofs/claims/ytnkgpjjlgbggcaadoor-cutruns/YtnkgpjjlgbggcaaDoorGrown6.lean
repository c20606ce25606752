/- 'grown', walked: a Forest by some acts, and the values. -/
import Derived.Test.YtnkgpjjlgbggcaaDoorLaws6
namespace Go.Proofs.YtnkgpjjlgbggcaaDoor
open Go.RowKit
set_option linter.unusedVariables false

theorem infoI64 : (Tryd.prog.info? 2).map (fun i => (i.zero, i.size, i.bytes)) = some (some (.int .i64 0), 1, 8) := by kernel_rfl

set_option maxRecDepth 100000 in
theorem make_vals (M : Nat) (hM : M ≤ 8388700) (w : World) :
    (Instr.makeSlice 30 (.int .i64 (M : Int)) (.int .i64 (M : Int))).run Tryd.prog w = .ok (.slice (some ⟨w.heap.size, 0, none⟩) M M) (w.alloc (.cells (Array.replicate M (.int .i64 0)) 2)) := by
  obtain ⟨i0, hi, hz0, hz1, hz2⟩ := info_parts infoI64
  have h := run_make (P := Tryd.prog) w 30 2 i0 _ Tryd.underlying30 hi hz0 .i64 .i64 M M (by omega) (Int.le_refl _) (by rw [hz2]; omega) (by omega)
  rw [h]
  simp only [Int.toNat_natCast, hz1]
  congr 3
  apply Array.ext
  · simp [madeCells]
  · intro j h1 h2
    simp [madeCells, Value.cells, Nat.mod_one]

theorem vb_new (w : World) (K : Nat) : VB (w.alloc (.cells (Array.replicate K (.int .i64 0)) 2)) w.heap.size K zero := by
  unfold VB
  rw [heap_alloc_new]
  congr 2
  apply Array.ext
  · simp [vals]
  · intro j h1 h2
    simp [vals, zero]



end Go.Proofs.YtnkgpjjlgbggcaaDoor
