/- EdgesFar, walked. -/
import Derived.Test.YtmjbmhkiedeioaaDoorSure13
import Derived.Test.YtmjbmhkiedeioaaDoorErrAs
namespace Go.Proofs.YtmjbmhkiedeioaaDoor
open Go.RowKit
set_option linter.unusedVariables false

set_option maxRecDepth 100000 in
set_option maxHeartbeats 4000000 in
theorem far_law (v s : Int) (w : World) (h1 : -2147483648 ≤ v) (h2 : v ≤ 2147483647) (hg : Handle w) :
    Calls Tryd.prog 4 #[.int .i32 v, .int .i64 s] w fun x w' => x = .returned (.bool true) ∧ Below w.heap.size w w' := by
  have su := hid (fun y => sure_ok y)
  replace hg := hid hg
  by_cases hs : s < 0 ∨ 1048576 ≤ s
  · have k1 := hid (fun y => key_bad v s y hs)
    clear h1 h2
    have hc : (decide (s < 0) = true) ∨ (decide (s < 0) = false ∧ decide (s ≥ 1048576) = true ∧ decide (1048576 ≤ s) = true) := by
      by_cases h : s < 0
      · exact .inl (decide_eq_true h)
      · exact .inr ⟨decide_eq_false h, decide_eq_true (by omega), decide_eq_true (by omega)⟩
    clear hs
    rcases hc with c1 | ⟨c1, c2, c3⟩
    all_goals
      go_enter Tryd.func4, Tryd.ntmps4
      go_wp2_with fail
      refine (k1.out _).mono ?_
      rintro x y ⟨rfl, rfl⟩
      go_wp2_with fail
      refine (num_err 12 w hg.out).mono ?_
      rintro x w1 ⟨rfl, b1⟩
      replace b1 := hid b1
      go_wp2_with fail
      refine (su.out _).mono ?_
      rintro x y ⟨rfl, rfl⟩
      go_wp2_with fail
      go_ret
      exact ⟨rfl, b1.out⟩
  · have k1 := hid (fun y => key_ok v s y h1 h2 (by omega) (by omega))
    have c1 : decide (s < 0) = false := decide_eq_false (by omega)
    have c2 : decide (s ≥ 1048576) = false := decide_eq_false (by omega)
    have lo := ky_lo (s := s) h1 (by omega)
    have hi := ky_hi (s := s) h2 (by omega)
    have e1 : ky (-2147483648) 0 = -2251799813685248 := rfl
    have e2 : ky 2147483647 1048575 = 2251799813685247 := rfl
    have c3 : decide (-2251799813685248 ≤ ky v s) = true := decide_eq_true lo
    have c4 : decide (ky v s ≤ 2251799813685247) = true := decide_eq_true hi
    have k2 := hid (fun y => key_ok (-2147483648) 0 y (by decide) (by decide) (by decide) (by decide))
    have k3 := hid (fun y => key_ok 2147483647 1048575 y (by decide) (by decide) (by decide) (by decide))
    have v1 := hid (fun y => valid_key (-2147483648) 0 y (by decide) (by decide) (by decide) (by decide))
    have v2 := hid (fun y => valid_key 2147483647 1048575 y (by decide) (by decide) (by decide) (by decide))
    rw [e1] at k2 v1
    rw [e2] at k3 v2
    have v3 := hid (fun y => valid_not (-2251799813685249) y (by decide) (by decide) (by decide))
    have v4 := hid (fun y => valid_not 2251799813685248 y (by decide) (by decide) (by decide))
    clear hs h1 h2 lo hi e1 e2
    go_enter Tryd.func4, Tryd.ntmps4
    go_wp2_with fail
    refine (k1.out _).mono ?_
    rintro x y ⟨rfl, rfl⟩
    go_wp2_with fail
    refine (k2.out _).mono ?_
    rintro x y ⟨rfl, rfl⟩
    go_wp2_with fail
    refine (k3.out _).mono ?_
    rintro x y ⟨rfl, rfl⟩
    go_wp2_with fail
    refine (v1.out _).mono ?_
    rintro x y ⟨rfl, rfl⟩
    go_wp2_with fail
    refine (v2.out _).mono ?_
    rintro x y ⟨rfl, rfl⟩
    go_wp2_with fail
    refine (v3.out _).mono ?_
    rintro x y ⟨rfl, rfl⟩
    go_wp2_with fail
    refine (v4.out _).mono ?_
    rintro x y ⟨rfl, rfl⟩
    go_wp2_with fail
    refine (su.out _).mono ?_
    rintro x y ⟨rfl, rfl⟩
    go_wp2_with fail
    go_ret
    exact ⟨rfl, Below.refl _ _⟩
end Go.Proofs.YtmjbmhkiedeioaaDoor
