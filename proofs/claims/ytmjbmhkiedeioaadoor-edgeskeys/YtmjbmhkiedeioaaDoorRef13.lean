/- The document's own calls, walked. -/
import Derived.Test.YtmjbmhkiedeioaaDoorSure13
import Derived.Test.YtmjbmhkiedeioaaDoorErrAs
namespace Go.Proofs.YtmjbmhkiedeioaaDoor
open Go.RowKit
set_option linter.unusedVariables false

set_option maxRecDepth 100000 in
set_option maxHeartbeats 1000000 in
theorem rkey_ok (v s : Int) (w : World) (h1 : -2147483648 ≤ v) (h2 : v ≤ 2147483647) (h3 : 0 ≤ s) (h4 : s < 1048576) : Calls Tryd.prog 6 #[.int .i32 v, .int .i64 s] w fun x w' => x = .returned (.tuple #[.int .i64 (ky v s), .int .i64 0]) ∧ w = w' := by
  have t1 : decide (s < 0) = false := decide_eq_false (by omega)
  have t2 : decide (s > 1048575) = false := decide_eq_false (by omega)
  go_enter Tryd.func6, Tryd.ntmps6
  go_wp2_with fail
  go_ret2
  exact ⟨rfl, rfl⟩

set_option maxRecDepth 100000 in
set_option maxHeartbeats 1000000 in
theorem rkey_bad (v s : Int) (w : World) (h : s < 0 ∨ 1048576 ≤ s) : Calls Tryd.prog 6 #[.int .i32 v, .int .i64 s] w fun x w' => x = .returned (.tuple #[.int .i64 0, .int .i64 12]) ∧ w = w' := by
  replace h := hid h
  go_enter Tryd.func6, Tryd.ntmps6
  go_wp2_with fail
  all_goals first | (go_ret2; exact ⟨rfl, rfl⟩) | (exfalso; have := h.out; omega)

set_option maxRecDepth 100000 in
set_option maxHeartbeats 1000000 in
theorem rparts_ok (k : Int) (w : World) (h1 : -9223372036854775808 ≤ k) (h2 : k ≤ 9223372036854775807) : Calls Tryd.prog 7 #[.int .i64 k] w fun x w' => x = .returned (.tuple #[.int .i64 (k / 1048576), .int .i64 (k % 1048576)]) ∧ w = w' := by
  have hq := hid (quo_of k)
  go_enter Tryd.func7, Tryd.ntmps7
  go_wp2_with fail
  all_goals go_ret2
  all_goals rename_i h
  all_goals rcases hq.out with ⟨a, b, c⟩ | ⟨a, b, c⟩
  all_goals first | (exfalso; omega) | skip
  · rw [IntWalk.wrap64_in (k.tdiv 1048576 - 1) ⟨by omega, by omega⟩, IntWalk.wrap64_in (k.tmod 1048576 + 1048576) ⟨by omega, by omega⟩, b, c, show k / 1048576 + 1 - 1 = k / 1048576 by omega]; exact ⟨rfl, rfl⟩
  · rw [b, c]; exact ⟨rfl, rfl⟩

end Go.Proofs.YtmjbmhkiedeioaaDoor
