/- 'New', walked. -/
import Derived.Test.YtpelpcplagfdiaaDoorState4
import Derived.Handy
namespace Go.Proofs.YtpelpcplagfdiaaDoor
open Go.RowKit
set_option linter.unusedVariables false

def T0 : Tb := fun x => if x = 0 then ndN else nd0
def one : Nat → List Nat := fun x => [x]
def zero : Nat → Int := fun _ => 0

theorem gd_new : Gd 1 T0 zero (fun x => if x = 0 then [] else [x]) one := by
  have hk : ∀ x s, (T0 x).k s = 0 := fun x s => by unfold T0; split <;> cases s <;> rfl
  have hu : ∀ x, (T0 x).up = 0 := fun x => by unfold T0; split <;> rfl
  refine ⟨⟨rfl, rfl, fun x hx s => ?_, fun x _ s h => absurd (hk x s) h, fun x _ h => absurd (hu x) h, fun x => ?_, fun x hx => ?_, fun x => ?_, fun x hx _ => ?_, fun x _ h => absurd (hu x) h⟩, fun x hx => ?_, Nat.le_refl _, by decide⟩
  · rw [if_neg hx, hk, hk]
    have : (T0 x).t = false := by unfold T0; split <;> rfl
    rw [this]
    cases s <;> rfl
  · split <;> simp
  · unfold T0; rw [if_neg hx]; rfl
  · by_cases h : x = 0
    · subst h
      exact ⟨rfl, by show (0 : Int) = wrap64 0; unfold wrap64; omega, rfl, rfl⟩
    · unfold T0
      rw [if_neg h, if_neg h]
      exact ⟨rfl, by simp [sumV, zero, wrap64, nd0], by simp [lowV, zero, nd0]; omega, by simp [highV, zero, nd0]; omega⟩
  · rw [if_neg hx]; rfl
  · unfold T0; rw [if_neg (by omega)]

set_option maxRecDepth 100000 in
set_option maxHeartbeats 1000000 in
theorem nothing_ok (w : World) : Calls Tryd.prog 18 #[] w fun e w' => e = .returned (.agg #[.int .i64 0, .int .i64 0, .int .i64 9223372036854775807, .int .i64 (-9223372036854775808), .int .i32 (-1), .int .i32 0, .int .i32 0, .int .i32 0, .bool false]) ∧ Below w.heap.size w w' := by
  go_enter Tryd.func18, Tryd.ntmps18
  go_wp2_with fail
  go_returns
  exact ⟨rfl, (Below.refl _ _).alloc (Nat.le_refl _) _⟩

set_option maxRecDepth 100000 in
set_option maxHeartbeats 1000000 in
theorem new_bad (n : Int) (w : World) (hn : n < 1 ∨ 8388608 < n) : Calls Tryd.prog 4 #[.int .i64 n] w fun e w' => e = .returned (.tuple #[.pointer none, .iface 50 (.int .i64 1)]) ∧ w = w' := by
  by_cases h1 : n < 1
  · have t1 : decide (n < 1) = true := decide_eq_true h1
    go_enter Tryd.func4, Tryd.ntmps4
    go_wp2_with fail
    go_ret2
    exact ⟨rfl, rfl⟩
  · have t1 : decide (n < 1) = false := decide_eq_false h1
    have t2 : decide (8388608 < n) = true := decide_eq_true (by omega)
    go_enter Tryd.func4, Tryd.ntmps4
    go_wp2_with fail
    go_ret2
    exact ⟨rfl, rfl⟩

set_option maxRecDepth 100000 in
set_option maxHeartbeats 1000000 in
theorem new_ok (n : Nat) (w : World) (h1 : 1 ≤ n) (h2 : n ≤ 8388608) : Calls Tryd.prog 4 #[.int .i64 (n : Int)] w fun e w' => ∃ fb, e = .returned (.tuple #[.pointer (some ⟨fb, 0, none⟩), .nilIface]) ∧ FS w.heap.size w fb n zero one w' := by
  have t1 : decide ((n : Int) < 1) = false := decide_eq_false (by omega)
  have t2 : decide (8388608 < (n : Int)) = false := decide_eq_false (by omega)
  go_enter Tryd.func4, Tryd.ntmps4
  go_wp2_with fail
  refine (nothing_ok _).mono ?_
  rintro e w1 ⟨rfl, b1⟩
  go_wp2_with fail
  first | go_ret2 | go_returns
  have hn1 := heap_alloc_new w1 (.cells #[.int .i64 0, .int .i64 0, .int .i64 9223372036854775807, .int .i64 (-9223372036854775808), .int .i32 (-1), .int .i32 0, .int .i32 0, .int .i32 0, .bool false] 53)
  have hb2 := b1.alloc b1.size (.cells #[.int .i64 0, .int .i64 0, .int .i64 9223372036854775807, .int .i64 (-9223372036854775808), .int .i32 (-1), .int .i32 0, .int .i32 0, .int .i32 0, .bool false] 53)
  have hsz := b1.size
  have hn2 := heap_alloc_new (w1.alloc (.cells #[.int .i64 0, .int .i64 0, .int .i64 9223372036854775807, .int .i64 (-9223372036854775808), .int .i32 (-1), .int .i32 0, .int .i32 0, .int .i32 0, .bool false] 53)) (.cells #[.int .i64 (n : Int), .slice (some ⟨w1.heap.size, 0, none⟩) 1 1] 57)
  have hs2 : (w1.alloc (.cells #[.int .i64 0, .int .i64 0, .int .i64 9223372036854775807, .int .i64 (-9223372036854775808), .int .i32 (-1), .int .i32 0, .int .i32 0, .int .i32 0, .bool false] 53)).heap.size = w1.heap.size + 1 := by simp
  rw [hs2] at hn2
  refine ⟨w1.heap.size + 1, rfl, ⟨w1.heap.size, 1, T0, _, ⟨hn2, ?_, by decide⟩, gd_new, by omega, hsz⟩, by omega, hb2.alloc (by simp; omega) _, h1, h2, Nat.le_refl _⟩
  rw [Below.heap_alloc _ _ _ (by simp)]
  exact hn1

end Go.Proofs.YtpelpcplagfdiaaDoor
