/- The calls of edges at a Key, and the laws' own 'sure'. -/
import Derived.Test.YtmjbmhkiedeioaaDoorEd13
namespace Go.Proofs.YtmjbmhkiedeioaaDoor
open Go.RowKit
set_option linter.unusedVariables false

theorem i32_in {n : Int} (h : (Lit.int .i32 n).wf = true) : -2147483648 ≤ n ∧ n ≤ 2147483647 := by
  have h' : (decide ((-2147483648 : Int) ≤ n) && decide (n ≤ 2147483647)) = true := h
  simpa using h'
theorem i64_in {n : Int} (h : (Lit.int .i64 n).wf = true) : -9223372036854775808 ≤ n ∧ n ≤ 9223372036854775807 := by
  have h' : (decide ((-9223372036854775808 : Int) ≤ n) && decide (n ≤ 9223372036854775807)) = true := h
  simpa using h'

theorem ky_lo {v s : Int} (h1 : -2147483648 ≤ v) (h3 : 0 ≤ s) : -2251799813685248 ≤ ky v s := by unfold ky; omega
theorem ky_hi {v s : Int} (h2 : v ≤ 2147483647) (h4 : s < 1048576) : ky v s ≤ 2251799813685247 := by unfold ky; omega

theorem weight_key (v s : Int) (w : World) (h1 : -2147483648 ≤ v) (h2 : v ≤ 2147483647) (h3 : 0 ≤ s) (h4 : s < 1048576) : Calls Tryd.prog 9 #[.int .i64 (ky v s)] w fun x w' => x = .returned (.int .i32 v) ∧ w = w' := by
  have a := ky_lo h1 h3
  have b := ky_hi h2 h4
  have h := weight_ok (ky v s) w (by omega) (by omega)
  rw [whole_key h3 h4, wrap32_in h1 h2] at h
  exact h
theorem slot_key (v s : Int) (w : World) (h1 : -2147483648 ≤ v) (h2 : v ≤ 2147483647) (h3 : 0 ≤ s) (h4 : s < 1048576) : Calls Tryd.prog 10 #[.int .i64 (ky v s)] w fun x w' => x = .returned (.int .i64 s) ∧ w = w' := by
  have a := ky_lo h1 h3
  have b := ky_hi h2 h4
  have h := slot_ok (ky v s) w (by omega) (by omega)
  rw [rest_key h3 h4] at h
  exact h
theorem valid_key (v s : Int) (w : World) (h1 : -2147483648 ≤ v) (h2 : v ≤ 2147483647) (h3 : 0 ≤ s) (h4 : s < 1048576) : Calls Tryd.prog 11 #[.int .i64 (ky v s)] w fun x w' => x = .returned (.bool true) ∧ w = w' := by
  have a := ky_lo h1 h3
  have b := ky_hi h2 h4
  have h := valid_ok (ky v s) w (by omega) (by omega)
  rw [whole_key h3 h4, wrap32_in h1 h2, beq_self_eq_true] at h
  exact h
theorem valid_not (k : Int) (w : World) (h1 : -9223372036854775808 ≤ k) (h2 : k ≤ 9223372036854775807) (h : k < -2251799813685248 ∨ 2251799813685247 < k) : Calls Tryd.prog 11 #[.int .i64 k] w fun x w' => x = .returned (.bool false) ∧ w = w' := by
  have g := valid_ok k w h1 h2
  rw [wrap32_out (by omega)] at g
  exact g

set_option maxRecDepth 100000 in
set_option maxHeartbeats 1000000 in
theorem sure_ok (w : World) : Calls Tryd.prog 12 #[] w fun x w' => x = .returned (.bool true) ∧ w = w' := by
  have hk := hid (key_ok (-1) 5 w (by decide) (by decide) (by decide) (by decide))
  have hl := hid (least_ok w)
  have hm := hid (most_ok w)
  go_enter Tryd.func12, Tryd.ntmps12
  go_wp2_with fail
  refine hk.out.mono ?_
  rintro x w1 ⟨rfl, rfl⟩
  rw [show ky (-1) 5 = -1048571 by decide]
  go_wp2_with fail
  refine hl.out.mono ?_
  rintro x w1 ⟨rfl, rfl⟩
  go_wp2_with fail
  refine hm.out.mono ?_
  rintro x w1 ⟨rfl, rfl⟩
  go_wp2_with fail
  go_ret
  exact ⟨rfl, rfl⟩
end Go.Proofs.YtmjbmhkiedeioaaDoor
