/- 'sure' of the laws. -/
import Derived.Test.YtiiklklokkcnpaaDoorMerge5
import Derived.Test.YtiiklklokkcnpaaDoorWalk5
namespace Go.Proofs.YtiiklklokkcnpaaDoor
open Go.RowKit
set_option linter.unusedVariables false

theorem lit2 (w : World) (a b : Int) : Ns (w.alloc (.cells #[.int .i64 a, .int .i64 b] 3)) (.slice (some ⟨w.heap.size, 0, none⟩) 2 2) [a, b] := by
  refine ⟨_, 2, rfl, (fun e => by cases e), by simp, fun c ha j z hz => ?_⟩
  cases ha
  rw [show (⟨w.heap.size, 0, none⟩ : Addr).add j = ⟨w.heap.size, j, none⟩ from by unfold Addr.add; split <;> simp_all]
  unfold World.cell?
  rw [heap_alloc_new]
  have hj := (List.getElem?_eq_some_iff.1 hz).1
  match j, hj, hz with
  | 0, _, hz => cases hz; rfl
  | 1, _, hz => cases hz; rfl

theorem lit1 (w : World) (a : Int) : Ns (w.alloc (.cells #[.int .i64 a] 3)) (.slice (some ⟨w.heap.size, 0, none⟩) 1 1) [a] := by
  refine ⟨_, 1, rfl, (fun e => by cases e), by simp, fun c ha j z hz => ?_⟩
  cases ha
  rw [show (⟨w.heap.size, 0, none⟩ : Addr).add j = ⟨w.heap.size, j, none⟩ from by unfold Addr.add; split <;> simp_all]
  unfold World.cell?
  rw [heap_alloc_new]
  have hj := (List.getElem?_eq_some_iff.1 hz).1
  match j, hj, hz with
  | 0, _, hz => cases hz; rfl

set_option maxRecDepth 100000 in
set_option maxHeartbeats 2000000 in
theorem sure_ok (w : World) : Calls Tryd.prog 21 #[] w fun e w' => e = .returned (.bool true) ∧ Below w.heap.size w w' := by
  go_enter Tryd.func21, Tryd.ntmps21
  go_wp2_with fail
  refine (gnew_ok 3 w (by decide) (by decide)).mono ?_
  rintro e w1 ⟨rb, fb, rfl, h1⟩
  have h1 := hid h1
  go_wp2_with fail
  refine (h1.out.merge 0 1 (by decide) (by decide) (by decide)).mono ?_
  rintro e w2 ⟨rfl, h2, k2⟩
  have h2 := hid h2
  clear h1 k2
  go_wp2_with fail
  refine (h2.out.merge 0 2 (by decide) (by decide) (by decide)).mono ?_
  rintro e w3 ⟨rfl, h3, k3⟩
  have h3 := hid h3
  clear h2 k3
  go_wp2_with fail
  refine (h3.out.split 0 2 (by decide) (by decide) (by decide) (by decide)).mono ?_
  rintro e w4 ⟨rfl, h4, k4⟩
  have h4 := hid h4
  clear h3 k4
  go_wp2_with fail
  refine (h4.out.walk 1 (by decide)).mono ?_
  rintro e w5 ⟨u, rfl, hr, h5, k5⟩
  have h5 := hid h5
  have hr : Hid (Rw w5 u [2, 1]) := hid hr
  clear h4 k5
  have hlit := hid (lit2 w5 1 0)
  have hrn : Hid (Ns (w5.alloc (.cells #[.int .i64 1, .int .i64 0] 3)) u [1, 0]) := hid ((hr.out.below ((Below.refl _ _).alloc (Nat.le_refl _) _)).ns (by decide))
  have h6 := hid (h5.out.alloc (.cells #[.int .i64 1, .int .i64 0] 3))
  clear hr h5
  go_wp2_with fail
  refine (ints_ok _ _ _ _ hrn.out hlit.out).mono ?_
  rintro e w6 ⟨rfl, b6⟩
  have h7 := hid (h6.out.more b6)
  clear hrn hlit h6 b6
  go_wp2_with fail
  go_ret
  exact ⟨rfl, h7.out.fs.below⟩

end Go.Proofs.YtiiklklokkcnpaaDoor
