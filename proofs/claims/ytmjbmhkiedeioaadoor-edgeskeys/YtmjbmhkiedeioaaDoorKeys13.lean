/- EdgesKeys, walked. -/
import Derived.Test.YtmjbmhkiedeioaaDoorRef13
namespace Go.Proofs.YtmjbmhkiedeioaaDoor
open Go.RowKit
set_option linter.unusedVariables false

/-- Whether it is a key, and how its quotient stands then. -/
def Vk (q : Int) (p1 p2 p : Bool) : Prop := decide (q ≥ -2147483648) = p1 ∧ decide (-2147483648 ≤ q) = p1 ∧ decide (q ≤ 2147483647) = p2 ∧ (q == wrap32 q) = p

theorem vk_of (q : Int) : Vk q true true true ∨ Vk q false true false ∨ Vk q true false false := by
  unfold Vk
  simp only [decide_eq_true_eq, decide_eq_false_iff_not, beq_eq_false_iff_ne, beq_iff_eq, ne_eq]
  unfold wrap32
  omega

set_option maxRecDepth 100000 in
set_option maxHeartbeats 4000000 in
theorem keys_law (v s k : Int) (w : World) (h1 : -2147483648 ≤ v) (h2 : v ≤ 2147483647) (h3 : -9223372036854775808 ≤ k) (h4 : k ≤ 9223372036854775807) (hg : Handle w) :
    Calls Tryd.prog 3 #[.int .i32 v, .int .i64 s, .int .i64 k] w fun x w' => x = .returned (.bool true) ∧ Below w.heap.size w w' := by
  have hp := hid (fun y => rparts_ok k y h3 h4)
  have w1 := hid (fun y => weight_ok k y h3 h4)
  have s1 := hid (fun y => slot_ok k y h3 h4)
  have v1 := hid (fun y => valid_ok k y h3 h4)
  have su := hid (fun y => sure_ok y)
  have vk := hid (vk_of (k / 1048576))
  clear h3 h4
  replace hg := hid hg
  generalize k / 1048576 = q at *
  generalize k % 1048576 = r at *
  by_cases hs : s < 0 ∨ 1048576 ≤ s
  · have k1 := hid (fun y => key_bad v s y hs)
    have k2 := hid (fun y => rkey_bad v s y hs)
    clear hs h1 h2
    rcases vk.out with ⟨c1, c0, c2, c3⟩ | ⟨c1, c0, c2, c3⟩ | ⟨c1, c0, c2, c3⟩
    all_goals
      clear vk
      rw [c3] at v1
      clear c3
      go_enter Tryd.func3, Tryd.ntmps3
      go_wp2_with fail
      refine (k1.out _).mono ?_
      rintro x y ⟨rfl, rfl⟩
      go_wp2_with fail
      refine (k2.out _).mono ?_
      rintro x y ⟨rfl, rfl⟩
      go_wp2_with fail
      refine (hp.out _).mono ?_
      rintro x y ⟨rfl, rfl⟩
      go_wp2_with fail
      refine (num_err 12 w hg.out).mono ?_
      rintro x wn ⟨rfl, b1⟩
      replace b1 := hid b1
      go_wp2_with fail
      refine (w1.out _).mono ?_
      rintro x y ⟨rfl, rfl⟩
      go_wp2_with fail
      refine (s1.out _).mono ?_
      rintro x y ⟨rfl, rfl⟩
      go_wp2_with fail
      refine (v1.out _).mono ?_
      rintro x y ⟨rfl, rfl⟩
      go_wp2_with fail
      refine (su.out _).mono ?_
      rintro x y ⟨rfl, rfl⟩
      go_wp2_with fail
      go_ret
      exact ⟨rfl, b1.out⟩
  · have k1 := hid (fun y => key_ok v s y h1 h2 (by omega) (by omega))
    have k2 := hid (fun y => rkey_ok v s y h1 h2 (by omega) (by omega))
    clear hs h1 h2
    rcases vk.out with ⟨c1, c0, c2, c3⟩ | ⟨c1, c0, c2, c3⟩ | ⟨c1, c0, c2, c3⟩
    all_goals
      clear vk
      rw [c3] at v1
      clear c3
      go_enter Tryd.func3, Tryd.ntmps3
      go_wp2_with fail
      refine (k1.out _).mono ?_
      rintro x y ⟨rfl, rfl⟩
      go_wp2_with fail
      refine (k2.out _).mono ?_
      rintro x y ⟨rfl, rfl⟩
      go_wp2_with fail
      refine (hp.out _).mono ?_
      rintro x y ⟨rfl, rfl⟩
      go_wp2_with fail
      refine (num_nil w).mono ?_
      rintro x wn ⟨rfl, b1⟩
      replace b1 := hid b1
      go_wp2_with fail
      refine (w1.out _).mono ?_
      rintro x y ⟨rfl, rfl⟩
      go_wp2_with fail
      refine (s1.out _).mono ?_
      rintro x y ⟨rfl, rfl⟩
      go_wp2_with fail
      refine (v1.out _).mono ?_
      rintro x y ⟨rfl, rfl⟩
      go_wp2_with fail
      refine (su.out _).mono ?_
      rintro x y ⟨rfl, rfl⟩
      go_wp2_with fail
      go_ret
      exact ⟨rfl, b1.out⟩
end Go.Proofs.YtmjbmhkiedeioaaDoor
