/- EdgesOrder, walked. -/
import Derived.Test.YtmjbmhkiedeioaaSure13
namespace Go.Proofs.Ytmjbmhkiedeioaa
open Go.RowKit
set_option linter.unusedVariables false

theorem mod_in (z : Int) : ∃ a : Int, wrap64 ((IntKind.u64.wrap z).tmod 1048576) = a ∧ 0 ≤ a ∧ a < 1048576 := by
  have e : (IntKind.u64.wrap z).tmod 1048576 = z % 18446744073709551616 % 1048576 := by
    rw [IntKind.wrap_u64, Int.tmod_eq_emod_of_nonneg (by omega)]
  rw [e, IntWalk.wrap64_in _ ⟨by omega, by omega⟩]
  exact ⟨_, rfl, by omega, by omega⟩

/-- Two weights and two slots, and how the keys stand then. -/
def Cm (v u a b : Int) (p1 p2 p3 p4 p5 p6 : Bool) : Prop :=
  decide (v < u) = p1 ∧ (v == u) = p2 ∧ decide (a < b) = p3 ∧ (a == b) = p4 ∧ decide (ky v a < ky u b) = p5 ∧ (ky v a == ky u b) = p6

theorem cm_of (v u a b : Int) (h1 : 0 ≤ a) (h2 : a < 1048576) (h3 : 0 ≤ b) (h4 : b < 1048576) :
    (∃ p3 p4, Cm v u a b true false p3 p4 true false) ∨ (∃ p3 p4, Cm v u a b false false p3 p4 false false) ∨ Cm v u a b false true true false true false ∨ Cm v u a b false true false false false false ∨ Cm v u a b false true false true false true := by
  unfold Cm
  simp only [decide_eq_true_eq, decide_eq_false_iff_not, beq_eq_false_iff_ne, beq_iff_eq, ne_eq]
  unfold ky
  rcases Int.lt_trichotomy v u with h | h | h
  · exact .inl ⟨_, _, by omega, by omega, rfl, rfl, by omega, by omega⟩
  · subst h
    rcases Int.lt_trichotomy a b with g | g | g
    · right; right; left; omega
    · right; right; right; right; omega
    · right; right; right; left; omega
  · exact .inr (.inl ⟨_, _, by omega, by omega, rfl, rfl, by omega, by omega⟩)

set_option maxRecDepth 100000 in
set_option maxHeartbeats 4000000 in
theorem order_law (v u z0 z1 : Int) (w : World) (h1 : -2147483648 ≤ v) (h2 : v ≤ 2147483647) (h3 : -2147483648 ≤ u) (h4 : u ≤ 2147483647) :
    Calls Try.prog 3 #[.int .i32 v, .int .i32 u, .agg #[.int .i64 z0, .int .i64 z1]] w fun x w' => x = .returned (.bool true) ∧ Below w.heap.size w w' := by
  obtain ⟨a, ha, a1, a2⟩ := mod_in z0
  obtain ⟨b, hb, b1, b2⟩ := mod_in z1
  have k1 := hid (fun y => key_ok v a y h1 h2 a1 a2)
  have k2 := hid (fun y => key_ok u b y h3 h4 b1 b2)
  have w1 := hid (fun y => weight_key v a y h1 h2 a1 a2)
  have s1 := hid (fun y => slot_key v a y h1 h2 a1 a2)
  have v1 := hid (fun y => valid_key v a y h1 h2 a1 a2)
  have l1 := hid (fun y => least_ok y)
  have m1 := hid (fun y => most_ok y)
  have v2 := hid (fun y => valid_not (-9223372036854775808) y (by decide) (by decide) (by decide))
  have v3 := hid (fun y => valid_not 9223372036854775807 y (by decide) (by decide) (by decide))
  have su := hid (fun y => sure_ok y)
  have t1 : decide (ky v a ≤ -9223372036854775808) = false := decide_eq_false (by have := ky_lo h1 a1; omega)
  have t2 : decide (ky v a ≥ 9223372036854775807) = false := decide_eq_false (by have := ky_hi h2 a2; omega)
  have bb : Hid (Below w.heap.size w (w.alloc (.cells #[.int .i64 z0, .int .i64 z1] 22)).drew) := hid (((Below.refl _ _).alloc (Nat.le_refl _) _).drew)
  have hc := hid (cm_of v u a b a1 a2 b1 b2)
  clear h1 h2 h3 h4 a1 a2 b1 b2
  go_enter Try.func3, Try.ntmps3
  go_wp2_with fail
  go_region
  rw [ha, hb]
  generalize (w.alloc (.cells #[.int .i64 z0, .int .i64 z1] 22)).drew = w2 at bb ⊢
  clear ha hb
  rcases hc.out with ⟨p3, p4, c1, c2, c3, c4, c5, c6⟩ | ⟨p3, p4, c1, c2, c3, c4, c5, c6⟩ | ⟨c1, c2, c3, c4, c5, c6⟩ | ⟨c1, c2, c3, c4, c5, c6⟩ | ⟨c1, c2, c3, c4, c5, c6⟩
  all_goals
    clear hc
    go_wp2_with fail
    refine (k1.out _).mono ?_
    rintro x y ⟨rfl, rfl⟩
    go_wp2_with fail
    refine (k2.out _).mono ?_
    rintro x y ⟨rfl, rfl⟩
    go_wp2_with fail
    refine (w1.out _).mono ?_
    rintro x y ⟨rfl, rfl⟩
    go_wp2_with fail
    refine (s1.out _).mono ?_
    rintro x y ⟨rfl, rfl⟩
    go_wp2_with fail
    refine (v1.out _).mono ?_
    rintro x y ⟨rfl, rfl⟩
    go_wp2_with fail
    refine (l1.out _).mono ?_
    rintro x y ⟨rfl, rfl⟩
    go_wp2_with fail
    refine (m1.out _).mono ?_
    rintro x y ⟨rfl, rfl⟩
    go_wp2_with fail
    refine (l1.out _).mono ?_
    rintro x y ⟨rfl, rfl⟩
    go_wp2_with fail
    refine (v2.out _).mono ?_
    rintro x y ⟨rfl, rfl⟩
    go_wp2_with fail
    refine (m1.out _).mono ?_
    rintro x y ⟨rfl, rfl⟩
    go_wp2_with fail
    refine (v3.out _).mono ?_
    rintro x y ⟨rfl, rfl⟩
    go_wp2_with fail
    refine (su.out _).mono ?_
    rintro x y ⟨rfl, rfl⟩
    go_wp2_with fail
    go_ret
    exact ⟨rfl, bb.out⟩
end Go.Proofs.Ytmjbmhkiedeioaa
