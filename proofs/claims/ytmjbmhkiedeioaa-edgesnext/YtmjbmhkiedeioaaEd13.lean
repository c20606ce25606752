/- The calls of edges, walked: each answers the whole number that the document names. -/
import Derived.Test.YtmjbmhkiedeioaaRows
import Derived.WalkKit
import Derived.OpenShut
namespace Go.Proofs.Ytmjbmhkiedeioaa
open Go.RowKit
set_option linter.unusedVariables false

def Hid (p : Prop) : Prop := p
theorem hid {p : Prop} (h : p) : Hid p := h
theorem Hid.out {p : Prop} (h : Hid p) : p := h

/-- Division that cuts towards 0, by division that cuts downwards. -/
theorem quo_of (k : Int) : (k.tmod 1048576 < 0 ∧ k.tdiv 1048576 = k / 1048576 + 1 ∧ k.tmod 1048576 + 1048576 = k % 1048576) ∨ (0 ≤ k.tmod 1048576 ∧ k.tdiv 1048576 = k / 1048576 ∧ k.tmod 1048576 = k % 1048576) := by
  have e1 := @Int.tdiv_eq_ediv k 1048576
  have e2 := Int.mul_tdiv_add_tmod k 1048576
  have e3 : Int.sign 1048576 = 1 := by decide
  rw [e3] at e1
  by_cases h : 0 ≤ k ∨ (1048576 : Int) ∣ k
  · rw [if_pos h] at e1
    right
    omega
  · rw [if_neg h] at e1
    left
    omega

set_option maxRecDepth 100000 in
set_option maxHeartbeats 1000000 in
theorem whole_ok (k : Int) (w : World) (h1 : -9223372036854775808 ≤ k) (h2 : k ≤ 9223372036854775807) : Calls Try.prog 12 #[.int .i64 k] w fun x w' => x = .returned (.int .i64 (k / 1048576)) ∧ w = w' := by
  have hq := hid (quo_of k)
  go_enter Try.func12, Try.ntmps12
  go_wp2_with fail
  all_goals go_ret
  all_goals rename_i h
  all_goals rcases hq.out with ⟨a, b, c⟩ | ⟨a, b, c⟩
  all_goals first | (exfalso; omega) | skip
  · rw [IntWalk.wrap64_in _ ⟨by omega, by omega⟩, b, show k / 1048576 + 1 - 1 = k / 1048576 by omega]; exact ⟨rfl, rfl⟩
  · rw [b]; exact ⟨rfl, rfl⟩

set_option maxRecDepth 100000 in
set_option maxHeartbeats 1000000 in
theorem weight_ok (k : Int) (w : World) (h1 : -9223372036854775808 ≤ k) (h2 : k ≤ 9223372036854775807) : Calls Try.prog 6 #[.int .i64 k] w fun x w' => x = .returned (.int .i32 (wrap32 (k / 1048576))) ∧ w = w' := by
  have ht := hid (whole_ok k w h1 h2)
  go_enter Try.func6, Try.ntmps6
  go_wp2_with fail
  refine ht.out.mono ?_
  rintro x w1 ⟨rfl, rfl⟩
  go_wp2_with fail
  go_ret
  exact ⟨rfl, rfl⟩

set_option maxRecDepth 100000 in
set_option maxHeartbeats 1000000 in
theorem slot_ok (k : Int) (w : World) (h1 : -9223372036854775808 ≤ k) (h2 : k ≤ 9223372036854775807) : Calls Try.prog 7 #[.int .i64 k] w fun x w' => x = .returned (.int .i64 (k % 1048576)) ∧ w = w' := by
  have ht := hid (whole_ok k w h1 h2)
  go_enter Try.func7, Try.ntmps7
  go_wp2_with fail
  refine ht.out.mono ?_
  rintro x w1 ⟨rfl, rfl⟩
  go_wp2_with fail
  go_ret
  refine ⟨?_, rfl⟩
  rw [show k % 1048576 = k - k / 1048576 * 1048576 by omega]
  rfl

set_option maxRecDepth 100000 in
set_option maxHeartbeats 1000000 in
theorem valid_ok (k : Int) (w : World) (h1 : -9223372036854775808 ≤ k) (h2 : k ≤ 9223372036854775807) : Calls Try.prog 8 #[.int .i64 k] w fun x w' => x = .returned (.bool (k / 1048576 == wrap32 (k / 1048576))) ∧ w = w' := by
  have ht := hid (whole_ok k w h1 h2)
  have hw := hid (weight_ok k w h1 h2)
  go_enter Try.func8, Try.ntmps8
  go_wp2_with fail
  refine ht.out.mono ?_
  rintro x w1 ⟨rfl, rfl⟩
  go_wp2_with fail
  refine hw.out.mono ?_
  rintro x w1 ⟨rfl, rfl⟩
  go_wp2_with fail
  go_ret
  rw [IntWalk.wrap64_in (wrap32 (k / 1048576)) ⟨by unfold wrap32; omega, by unfold wrap32; omega⟩]
  exact ⟨rfl, rfl⟩

set_option maxRecDepth 100000 in
set_option maxHeartbeats 1000000 in
theorem least_ok (w : World) : Calls Try.prog 9 #[] w fun x w' => x = .returned (.int .i64 (-9223372036854775808)) ∧ w = w' := by
  go_enter Try.func9, Try.ntmps9
  go_wp2_with fail
  go_ret
  exact ⟨rfl, rfl⟩

set_option maxRecDepth 100000 in
set_option maxHeartbeats 1000000 in
theorem most_ok (w : World) : Calls Try.prog 10 #[] w fun x w' => x = .returned (.int .i64 9223372036854775807) ∧ w = w' := by
  go_enter Try.func10, Try.ntmps10
  go_wp2_with fail
  go_ret
  exact ⟨rfl, rfl⟩

/-- What Key answers. -/
def ky (v s : Int) : Int := v * 1048576 + s

set_option maxRecDepth 100000 in
set_option maxHeartbeats 1000000 in
theorem key_ok (v s : Int) (w : World) (h1 : -2147483648 ≤ v) (h2 : v ≤ 2147483647) (h3 : 0 ≤ s) (h4 : s < 1048576) : Calls Try.prog 5 #[.int .i32 v, .int .i64 s] w fun x w' => x = .returned (.tuple #[.int .i64 (ky v s), .nilIface]) ∧ w = w' := by
  have t1 : decide (s < 0) = false := decide_eq_false (by omega)
  have t2 : decide (s ≥ 1048576) = false := decide_eq_false (by omega)
  go_enter Try.func5, Try.ntmps5
  go_wp2_with fail
  go_ret2
  exact ⟨rfl, rfl⟩

set_option maxRecDepth 100000 in
set_option maxHeartbeats 1000000 in
theorem key_bad (v s : Int) (w : World) (h : s < 0 ∨ 1048576 ≤ s) : Calls Try.prog 5 #[.int .i32 v, .int .i64 s] w fun x w' => x = .returned (.tuple #[.int .i64 0, .iface 35 (.int .i64 12)]) ∧ w = w' := by
  replace h := hid h
  go_enter Try.func5, Try.ntmps5
  go_wp2_with fail
  all_goals first | (go_ret2; exact ⟨rfl, rfl⟩) | (exfalso; have := h.out; omega) | trace_state

theorem whole_key {v s : Int} (h3 : 0 ≤ s) (h4 : s < 1048576) : ky v s / 1048576 = v := by unfold ky; omega
theorem rest_key {v s : Int} (h3 : 0 ≤ s) (h4 : s < 1048576) : ky v s % 1048576 = s := by unfold ky; omega
theorem wrap32_in {v : Int} (h1 : -2147483648 ≤ v) (h2 : v ≤ 2147483647) : wrap32 v = v := by unfold wrap32; omega
theorem wrap32_out {v : Int} (h : v < -2147483648 ∨ 2147483647 < v) : (v == wrap32 v) = false := by
  rw [beq_eq_false_iff_ne]; unfold wrap32; omega
end Go.Proofs.Ytmjbmhkiedeioaa
