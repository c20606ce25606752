/- EdgesNext, walked. -/
import Derived.Test.YtmjbmhkiedeioaaSure13
namespace Go.Proofs.Ytmjbmhkiedeioaa
open Go.RowKit
set_option linter.unusedVariables false

theorem mod_in (z : Int) : ∃ a : Int, wrap64 ((IntKind.u64.wrap z).tmod 1048576) = a ∧ 0 ≤ a ∧ a < 1048576 := by
  have e : (IntKind.u64.wrap z).tmod 1048576 = z % 18446744073709551616 % 1048576 := by
    rw [IntKind.wrap_u64, Int.tmod_eq_emod_of_nonneg (by omega)]
  rw [e, IntWalk.wrap64_in _ ⟨by omega, by omega⟩]
  exact ⟨_, rfl, by omega, by omega⟩

set_option maxRecDepth 100000 in
set_option maxHeartbeats 4000000 in
theorem next_law (v z : Int) (w : World) (h1 : -2147483648 ≤ v) (h2 : v ≤ 2147483647) :
    Calls Try.prog 4 #[.int .i32 v, .int .i64 z] w fun x w' => x = .returned (.bool true) ∧ Below w.heap.size w w' := by
  obtain ⟨a, ha, a1, a2⟩ := mod_in z
  have k1 := hid (fun y => key_ok v a y h1 h2 a1 a2)
  have su := hid (fun y => sure_ok y)
  by_cases hs : a < 1048575
  · have e1 : wrap64 (ky v a + 1) = ky v (a + 1) := by
      have g1 := ky_lo h1 a1
      have g2 := ky_hi h2 a2
      rw [IntWalk.wrap64_in _ ⟨by omega, by omega⟩]; unfold ky; omega
    have e2 : wrap64 (a + 1) = a + 1 := IntWalk.wrap64_in _ ⟨by omega, by omega⟩
    have t1 : decide (a < 1048575) = true := decide_eq_true hs
    have k2 := hid (fun y => key_ok v (a + 1) y h1 h2 (by omega) (by omega))
    have w1 := hid (fun y => weight_key v (a + 1) y h1 h2 (by omega) (by omega))
    have s1 := hid (fun y => slot_key v (a + 1) y h1 h2 (by omega) (by omega))
    clear h1 h2 a1 a2 hs
    go_enter Try.func4, Try.ntmps4
    go_wp2_with fail
    try rw [ha]
    clear ha
    refine (k1.out _).mono ?_
    rintro x y ⟨rfl, rfl⟩
    go_wp2_with fail
    rw [e1]
    clear e1
    refine (k2.out _).mono ?_
    rintro x y ⟨rfl, rfl⟩
    go_wp2_with fail
    refine (w1.out _).mono ?_
    rintro x y ⟨rfl, rfl⟩
    go_wp2_with fail
    refine (s1.out _).mono ?_
    rintro x y ⟨rfl, rfl⟩
    go_wp2_with fail
    refine (su.out _).mono ?_
    rintro x y ⟨rfl, rfl⟩
    go_wp2_with fail
    go_ret
    exact ⟨rfl, Below.refl _ _⟩
  · obtain rfl : a = 1048575 := by omega
    clear hs a1 a2
    by_cases hv : v = 2147483647
    · subst hv
      have e1 : wrap64 (ky 2147483647 1048575 + 1) = 2251799813685248 := by
        unfold ky
        rw [IntWalk.wrap64_in _ ⟨by decide, by decide⟩]
        rfl
      have v2 := hid (fun y => valid_not 2251799813685248 y (by decide) (by decide) (by decide))
      clear h1 h2
      go_enter Try.func4, Try.ntmps4
      go_wp2_with fail
      try rw [ha]
      clear ha
      refine (k1.out _).mono ?_
      rintro x y ⟨rfl, rfl⟩
      go_wp2_with fail
      try rw [e1]
      clear e1
      refine (v2.out _).mono ?_
      rintro x y ⟨rfl, rfl⟩
      go_wp2_with fail
      refine (su.out _).mono ?_
      rintro x y ⟨rfl, rfl⟩
      go_wp2_with fail
      go_ret
      exact ⟨rfl, Below.refl _ _⟩
    · have e1 : wrap64 (ky v 1048575 + 1) = ky (v + 1) 0 := by
        rw [IntWalk.wrap64_in _ ⟨by unfold ky; omega, by unfold ky; omega⟩]; unfold ky; omega
      have e2 : wrap32 (v + 1) = v + 1 := wrap32_in (by omega) (by omega)
      have t1 : (v == 2147483647) = false := beq_eq_false_iff_ne.2 hv
      have k2 := hid (fun y => key_ok (v + 1) 0 y (by omega) (by omega) (by omega) (by omega))
      have w1 := hid (fun y => weight_key (v + 1) 0 y (by omega) (by omega) (by omega) (by omega))
      have s1 := hid (fun y => slot_key (v + 1) 0 y (by omega) (by omega) (by omega) (by omega))
      clear h1 h2 hv
      go_enter Try.func4, Try.ntmps4
      go_wp2_with fail
      try rw [ha]
      clear ha
      refine (k1.out _).mono ?_
      rintro x y ⟨rfl, rfl⟩
      go_wp2_with fail
      rw [e1]
      try rw [e2]
      clear e1
      refine (k2.out _).mono ?_
      rintro x y ⟨rfl, rfl⟩
      go_wp2_with fail
      refine (w1.out _).mono ?_
      rintro x y ⟨rfl, rfl⟩
      go_wp2_with fail
      refine (s1.out _).mono ?_
      rintro x y ⟨rfl, rfl⟩
      go_wp2_with fail
      refine (su.out _).mono ?_
      rintro x y ⟨rfl, rfl⟩
      go_wp2_with fail
      go_ret
      exact ⟨rfl, Below.refl _ _⟩
end Go.Proofs.Ytmjbmhkiedeioaa
