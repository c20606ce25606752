/- 'TurnNew', walked. -/
import Derived.Test.YtdlggnibgnflnaaDoorLibL10
import Derived.Test.YtdlggnibgnflnaaDoorDoW10
namespace Go.Proofs.YtdlggnibgnflnaaDoor
open Go.RowKit
set_option linter.unusedVariables false

set_option maxRecDepth 100000 in
set_option maxHeartbeats 2000000 in
theorem new_big (v e : Int) (w : World) (hg : Handle w) (h : 1 ≤ v ∧ v ≤ 1048576 ∧ 1 ≤ e ∧ e ≤ 1048576) (hs : 3000 < v ∨ 3000 < e) :
    Calls Tryd.prog 5 #[.int .i64 v, .int .i64 e] w fun x w' => x = .returned (.bool true) ∧ Below w.heap.size w w' := by
  have hnum := hid (fun y hy => num_any (.iface 65 (.int .i64 1)) 1 y hy (.inr ⟨rfl, by decide⟩))
  replace hg := hid hg
  have t1 : decide (v ≥ 1) = true := decide_eq_true (by omega)
  have t1' : decide (1 ≤ v) = true := decide_eq_true (by omega)
  have t2 : decide (v ≤ 1048576) = true := decide_eq_true (by omega)
  have t3 : decide (1 ≤ e) = true := decide_eq_true (by omega)
  have t4 : decide (e ≤ 1048576) = true := decide_eq_true (by omega)
  by_cases h1 : 3000 < v
  · have t5 : decide (3000 < v) = true := decide_eq_true h1
    clear h h1 hs
    have c0 : Hid (Below w.heap.size w w) := Below.refl _ _
    go_enter Tryd.func5, Tryd.ntmps5
    go_wp2_with fail
    refine (next_nil 0 w).mono ?_
    rintro x w1 ⟨rfl, bq⟩
    have c1 : Hid (Below w.heap.size w w1) := bq
    clear bq
    go_wp2_with fail
    refine (round_nil 0 w1).mono ?_
    rintro x w2 ⟨rfl, bq⟩
    have c2 : Hid (Below w.heap.size w w2) := c1.out.trans (bq.mono c1.out.size)
    clear bq
    go_wp2_with fail
    refine (degree_nil 0 w2).mono ?_
    rintro x w3 ⟨rfl, bq⟩
    have c3 : Hid (Below w.heap.size w w3) := c2.out.trans (bq.mono c2.out.size)
    clear bq
    go_wp2_with fail
    refine (sizes_nil w3).mono ?_
    rintro x w3' ⟨rfl, rfl⟩
    go_wp2_with fail
    refine (hnum.out w3 (hg.out.below c3.out)).mono ?_
    rintro x w4 ⟨rfl, bq⟩
    have c4 : Hid (Below w.heap.size w w4) := c3.out.trans (bq.mono c3.out.size)
    clear bq
    go_wp2_with fail
    refine (hnum.out w4 (hg.out.below c4.out)).mono ?_
    rintro x w5 ⟨rfl, bq⟩
    have c5 : Hid (Below w.heap.size w w5) := c4.out.trans (bq.mono c4.out.size)
    clear bq
    go_wp2_with fail
    refine (hnum.out w5 (hg.out.below c5.out)).mono ?_
    rintro x w6 ⟨rfl, bq⟩
    have c6 : Hid (Below w.heap.size w w6) := c5.out.trans (bq.mono c5.out.size)
    clear bq
    go_wp2_with fail
    refine (lay_nil 0 0 0 0 0 w6).mono ?_
    rintro x w7 ⟨rfl, bq⟩
    have c7 : Hid (Below w.heap.size w w7) := c6.out.trans (bq.mono c6.out.size)
    clear bq
    go_wp2_with fail
    refine (hnum.out w7 (hg.out.below c7.out)).mono ?_
    rintro x w8 ⟨rfl, bq⟩
    have c8 : Hid (Below w.heap.size w w8) := c7.out.trans (bq.mono c7.out.size)
    clear bq
    go_wp2_with fail
    refine (lift_nil 0 w8).mono ?_
    rintro x w8' ⟨rfl, rfl⟩
    go_wp2_with fail
    refine (hnum.out w8 (hg.out.below c8.out)).mono ?_
    rintro x w9 ⟨rfl, bq⟩
    have c9 : Hid (Below w.heap.size w w9) := c8.out.trans (bq.mono c8.out.size)
    clear bq
    go_wp2_with fail
    refine (check_nil 0 0 w9).mono ?_
    rintro x w10 ⟨rfl, bq⟩
    have c10 : Hid (Below w.heap.size w w10) := c9.out.trans (bq.mono c9.out.size)
    clear bq
    go_wp2_with fail
    refine (hnum.out w10 (hg.out.below c10.out)).mono ?_
    rintro x w11 ⟨rfl, bq⟩
    have c11 : Hid (Below w.heap.size w w11) := c10.out.trans (bq.mono c10.out.size)
    clear bq
    go_wp2_with fail
    refine (has_nil 0 w11).mono ?_
    rintro x w11' ⟨rfl, rfl⟩
    go_wp2_with fail
    refine (sure_ok w11).mono ?_
    rintro x w12 ⟨rfl, bq⟩
    have c12 : Hid (Below w.heap.size w w12) := c11.out.trans (bq.mono c11.out.size)
    clear bq
    go_wp2_with fail
    go_ret
    exact ⟨by first | rfl | simp, c12.out⟩
  · have t5 : decide (3000 < v) = false := decide_eq_false h1
    have t6 : decide (3000 < e) = true := decide_eq_true (by omega)
    clear h h1 hs
    have c0 : Hid (Below w.heap.size w w) := Below.refl _ _
    go_enter Tryd.func5, Tryd.ntmps5
    go_wp2_with fail
    refine (next_nil 0 w).mono ?_
    rintro x w1 ⟨rfl, bq⟩
    have c1 : Hid (Below w.heap.size w w1) := bq
    clear bq
    go_wp2_with fail
    refine (round_nil 0 w1).mono ?_
    rintro x w2 ⟨rfl, bq⟩
    have c2 : Hid (Below w.heap.size w w2) := c1.out.trans (bq.mono c1.out.size)
    clear bq
    go_wp2_with fail
    refine (degree_nil 0 w2).mono ?_
    rintro x w3 ⟨rfl, bq⟩
    have c3 : Hid (Below w.heap.size w w3) := c2.out.trans (bq.mono c2.out.size)
    clear bq
    go_wp2_with fail
    refine (sizes_nil w3).mono ?_
    rintro x w3' ⟨rfl, rfl⟩
    go_wp2_with fail
    refine (hnum.out w3 (hg.out.below c3.out)).mono ?_
    rintro x w4 ⟨rfl, bq⟩
    have c4 : Hid (Below w.heap.size w w4) := c3.out.trans (bq.mono c3.out.size)
    clear bq
    go_wp2_with fail
    refine (hnum.out w4 (hg.out.below c4.out)).mono ?_
    rintro x w5 ⟨rfl, bq⟩
    have c5 : Hid (Below w.heap.size w w5) := c4.out.trans (bq.mono c4.out.size)
    clear bq
    go_wp2_with fail
    refine (hnum.out w5 (hg.out.below c5.out)).mono ?_
    rintro x w6 ⟨rfl, bq⟩
    have c6 : Hid (Below w.heap.size w w6) := c5.out.trans (bq.mono c5.out.size)
    clear bq
    go_wp2_with fail
    refine (lay_nil 0 0 0 0 0 w6).mono ?_
    rintro x w7 ⟨rfl, bq⟩
    have c7 : Hid (Below w.heap.size w w7) := c6.out.trans (bq.mono c6.out.size)
    clear bq
    go_wp2_with fail
    refine (hnum.out w7 (hg.out.below c7.out)).mono ?_
    rintro x w8 ⟨rfl, bq⟩
    have c8 : Hid (Below w.heap.size w w8) := c7.out.trans (bq.mono c7.out.size)
    clear bq
    go_wp2_with fail
    refine (lift_nil 0 w8).mono ?_
    rintro x w8' ⟨rfl, rfl⟩
    go_wp2_with fail
    refine (hnum.out w8 (hg.out.below c8.out)).mono ?_
    rintro x w9 ⟨rfl, bq⟩
    have c9 : Hid (Below w.heap.size w w9) := c8.out.trans (bq.mono c8.out.size)
    clear bq
    go_wp2_with fail
    refine (check_nil 0 0 w9).mono ?_
    rintro x w10 ⟨rfl, bq⟩
    have c10 : Hid (Below w.heap.size w w10) := c9.out.trans (bq.mono c9.out.size)
    clear bq
    go_wp2_with fail
    refine (hnum.out w10 (hg.out.below c10.out)).mono ?_
    rintro x w11 ⟨rfl, bq⟩
    have c11 : Hid (Below w.heap.size w w11) := c10.out.trans (bq.mono c10.out.size)
    clear bq
    go_wp2_with fail
    refine (has_nil 0 w11).mono ?_
    rintro x w11' ⟨rfl, rfl⟩
    go_wp2_with fail
    refine (sure_ok w11).mono ?_
    rintro x w12 ⟨rfl, bq⟩
    have c12 : Hid (Below w.heap.size w w12) := c11.out.trans (bq.mono c11.out.size)
    clear bq
    go_wp2_with fail
    go_ret
    exact ⟨by first | rfl | simp, c12.out⟩

set_option maxRecDepth 100000 in
set_option maxHeartbeats 2000000 in
theorem new_small (v e : Int) (w : World) (hg : Handle w) (h : 1 ≤ v ∧ v ≤ 1048576 ∧ 1 ≤ e ∧ e ≤ 1048576) (hs : ¬ (3000 < v ∨ 3000 < e)) :
    Calls Tryd.prog 5 #[.int .i64 v, .int .i64 e] w fun x w' => x = .returned (.bool true) ∧ Below w.heap.size w w' := by
  have hnum := hid (fun y hy => num_any (.iface 65 (.int .i64 1)) 1 y hy (.inr ⟨rfl, by decide⟩))
  replace hg := hid hg
  obtain ⟨V, rfl⟩ : ∃ V : Nat, v = (V : Int) := ⟨v.toNat, by omega⟩
  obtain ⟨E, rfl⟩ : ∃ E : Nat, e = (E : Int) := ⟨e.toNat, by omega⟩
  have hnew := hid (fun y => new_ok V E y (by omega) (by omega) (by omega) (by omega))
  have t1' : decide (1 ≤ (V : Int)) = true := decide_eq_true (by omega)
  have t1'' : decide (1 ≤ V) = true := decide_eq_true (by omega)
  have t2 : decide ((V : Int) ≤ 1048576) = true := decide_eq_true (by omega)
  have t3 : decide (1 ≤ (E : Int)) = true := decide_eq_true (by omega)
  have t3' : decide (1 ≤ E) = true := decide_eq_true (by omega)
  have t4 : decide ((E : Int) ≤ 1048576) = true := decide_eq_true (by omega)
  have t5 : decide (3000 < (V : Int)) = false := decide_eq_false (by omega)
  have t6 : decide (3000 < (E : Int)) = false := decide_eq_false (by omega)
  clear h hs
  have c0 : Hid (Below w.heap.size w w) := Below.refl _ _
  go_enter Tryd.func5, Tryd.ntmps5
  go_wp2_with fail
  refine (next_nil 0 w).mono ?_
  rintro x w1 ⟨rfl, bq⟩
  have c1 : Hid (Below w.heap.size w w1) := bq
  clear bq
  go_wp2_with fail
  refine (round_nil 0 w1).mono ?_
  rintro x w2 ⟨rfl, bq⟩
  have c2 : Hid (Below w.heap.size w w2) := c1.out.trans (bq.mono c1.out.size)
  clear bq
  go_wp2_with fail
  refine (degree_nil 0 w2).mono ?_
  rintro x w3 ⟨rfl, bq⟩
  have c3 : Hid (Below w.heap.size w w3) := c2.out.trans (bq.mono c2.out.size)
  clear bq
  go_wp2_with fail
  refine (sizes_nil w3).mono ?_
  rintro x w3' ⟨rfl, rfl⟩
  go_wp2_with fail
  refine (hnum.out w3 (hg.out.below c3.out)).mono ?_
  rintro x w4 ⟨rfl, bq⟩
  have c4 : Hid (Below w.heap.size w w4) := c3.out.trans (bq.mono c3.out.size)
  clear bq
  go_wp2_with fail
  refine (hnum.out w4 (hg.out.below c4.out)).mono ?_
  rintro x w5 ⟨rfl, bq⟩
  have c5 : Hid (Below w.heap.size w w5) := c4.out.trans (bq.mono c4.out.size)
  clear bq
  go_wp2_with fail
  refine (hnum.out w5 (hg.out.below c5.out)).mono ?_
  rintro x w6 ⟨rfl, bq⟩
  have c6 : Hid (Below w.heap.size w w6) := c5.out.trans (bq.mono c5.out.size)
  clear bq
  go_wp2_with fail
  refine (lay_nil 0 0 0 0 0 w6).mono ?_
  rintro x w7 ⟨rfl, bq⟩
  have c7 : Hid (Below w.heap.size w w7) := c6.out.trans (bq.mono c6.out.size)
  clear bq
  go_wp2_with fail
  refine (hnum.out w7 (hg.out.below c7.out)).mono ?_
  rintro x w8 ⟨rfl, bq⟩
  have c8 : Hid (Below w.heap.size w w8) := c7.out.trans (bq.mono c7.out.size)
  clear bq
  go_wp2_with fail
  refine (lift_nil 0 w8).mono ?_
  rintro x w8' ⟨rfl, rfl⟩
  go_wp2_with fail
  refine (hnum.out w8 (hg.out.below c8.out)).mono ?_
  rintro x w9 ⟨rfl, bq⟩
  have c9 : Hid (Below w.heap.size w w9) := c8.out.trans (bq.mono c8.out.size)
  clear bq
  go_wp2_with fail
  refine (check_nil 0 0 w9).mono ?_
  rintro x w10 ⟨rfl, bq⟩
  have c10 : Hid (Below w.heap.size w w10) := c9.out.trans (bq.mono c9.out.size)
  clear bq
  go_wp2_with fail
  refine (hnum.out w10 (hg.out.below c10.out)).mono ?_
  rintro x w11 ⟨rfl, bq⟩
  have c11 : Hid (Below w.heap.size w w11) := c10.out.trans (bq.mono c10.out.size)
  clear bq
  go_wp2_with fail
  refine (has_nil 0 w11).mono ?_
  rintro x w11' ⟨rfl, rfl⟩
  go_wp2_with fail
  refine (hnew.out w11).mono ?_
  rintro x w12 ⟨rfl, a12, bq⟩
  have c12 : Hid (Below w.heap.size w w12) := c11.out.trans (bq.mono c11.out.size)
  have hsz := hid (sizes_ok a12)
  clear bq a12
  go_wp2_with fail
  refine hsz.out.mono ?_
  rintro x w13 ⟨rfl, m, rfl⟩
  have c13 : Hid (Below w.heap.size w (w12.drewN m)) := belowN c12.out m
  generalize w12.drewN m = w13 at c13 ⊢
  go_wp2_with fail
  refine (sure_ok w13).mono ?_
  rintro x w14 ⟨rfl, bq⟩
  have c14 : Hid (Below w.heap.size w w14) := c13.out.trans (bq.mono c13.out.size)
  clear bq
  go_wp2_with fail
  go_ret
  exact ⟨by first | rfl | simp, c14.out⟩

set_option maxRecDepth 100000 in
set_option maxHeartbeats 2000000 in
theorem new_out (v e : Int) (w : World) (hg : Handle w) (h : ¬ (1 ≤ v ∧ v ≤ 1048576 ∧ 1 ≤ e ∧ e ≤ 1048576)) :
    Calls Tryd.prog 5 #[.int .i64 v, .int .i64 e] w fun x w' => x = .returned (.bool true) ∧ Below w.heap.size w w' := by
  have hnum := hid (fun y hy => num_any (.iface 65 (.int .i64 1)) 1 y hy (.inr ⟨rfl, by decide⟩))
  replace hg := hid hg
  have hnew := hid (fun y => new_bad v e y h)
  have hcs : decide (1 ≤ v) = false ∨ (decide (1 ≤ v) = true ∧ (decide (v ≤ 1048576) = false ∨ (decide (v ≤ 1048576) = true ∧ (decide (1 ≤ e) = false ∨ (decide (1 ≤ e) = true ∧ decide (e ≤ 1048576) = false))))) := by
    by_cases h1 : 1 ≤ v
    · refine .inr ⟨decide_eq_true h1, ?_⟩
      by_cases h2 : v ≤ 1048576
      · refine .inr ⟨decide_eq_true h2, ?_⟩
        by_cases h3 : 1 ≤ e
        · exact .inr ⟨decide_eq_true h3, decide_eq_false (fun h4 => h ⟨h1, h2, h3, h4⟩)⟩
        · exact .inl (decide_eq_false h3)
      · exact .inl (decide_eq_false h2)
    · exact .inl (decide_eq_false h1)
  clear h
  rcases hcs with t1 | ⟨t1, t2 | ⟨t2, t3 | ⟨t3, t4⟩⟩⟩
  all_goals
    have c0 : Hid (Below w.heap.size w w) := Below.refl _ _
    go_enter Tryd.func5, Tryd.ntmps5
    go_wp2_with fail
    refine (next_nil 0 w).mono ?_
    rintro x w1 ⟨rfl, bq⟩
    have c1 : Hid (Below w.heap.size w w1) := bq
    clear bq
    go_wp2_with fail
    refine (round_nil 0 w1).mono ?_
    rintro x w2 ⟨rfl, bq⟩
    have c2 : Hid (Below w.heap.size w w2) := c1.out.trans (bq.mono c1.out.size)
    clear bq
    go_wp2_with fail
    refine (degree_nil 0 w2).mono ?_
    rintro x w3 ⟨rfl, bq⟩
    have c3 : Hid (Below w.heap.size w w3) := c2.out.trans (bq.mono c2.out.size)
    clear bq
    go_wp2_with fail
    refine (sizes_nil w3).mono ?_
    rintro x w3' ⟨rfl, rfl⟩
    go_wp2_with fail
    refine (hnum.out w3 (hg.out.below c3.out)).mono ?_
    rintro x w4 ⟨rfl, bq⟩
    have c4 : Hid (Below w.heap.size w w4) := c3.out.trans (bq.mono c3.out.size)
    clear bq
    go_wp2_with fail
    refine (hnum.out w4 (hg.out.below c4.out)).mono ?_
    rintro x w5 ⟨rfl, bq⟩
    have c5 : Hid (Below w.heap.size w w5) := c4.out.trans (bq.mono c4.out.size)
    clear bq
    go_wp2_with fail
    refine (hnum.out w5 (hg.out.below c5.out)).mono ?_
    rintro x w6 ⟨rfl, bq⟩
    have c6 : Hid (Below w.heap.size w w6) := c5.out.trans (bq.mono c5.out.size)
    clear bq
    go_wp2_with fail
    refine (lay_nil 0 0 0 0 0 w6).mono ?_
    rintro x w7 ⟨rfl, bq⟩
    have c7 : Hid (Below w.heap.size w w7) := c6.out.trans (bq.mono c6.out.size)
    clear bq
    go_wp2_with fail
    refine (hnum.out w7 (hg.out.below c7.out)).mono ?_
    rintro x w8 ⟨rfl, bq⟩
    have c8 : Hid (Below w.heap.size w w8) := c7.out.trans (bq.mono c7.out.size)
    clear bq
    go_wp2_with fail
    refine (lift_nil 0 w8).mono ?_
    rintro x w8' ⟨rfl, rfl⟩
    go_wp2_with fail
    refine (hnum.out w8 (hg.out.below c8.out)).mono ?_
    rintro x w9 ⟨rfl, bq⟩
    have c9 : Hid (Below w.heap.size w w9) := c8.out.trans (bq.mono c8.out.size)
    clear bq
    go_wp2_with fail
    refine (check_nil 0 0 w9).mono ?_
    rintro x w10 ⟨rfl, bq⟩
    have c10 : Hid (Below w.heap.size w w10) := c9.out.trans (bq.mono c9.out.size)
    clear bq
    go_wp2_with fail
    refine (hnum.out w10 (hg.out.below c10.out)).mono ?_
    rintro x w11 ⟨rfl, bq⟩
    have c11 : Hid (Below w.heap.size w w11) := c10.out.trans (bq.mono c10.out.size)
    clear bq
    go_wp2_with fail
    refine (has_nil 0 w11).mono ?_
    rintro x w11' ⟨rfl, rfl⟩
    go_wp2_with fail
    refine (hnew.out w11).mono ?_
    rintro x w12' ⟨rfl, rfl⟩
    go_wp2_with fail
    refine (hnum.out w11 (hg.out.below c11.out)).mono ?_
    rintro x w12 ⟨rfl, bq⟩
    have c12 : Hid (Below w.heap.size w w12) := c11.out.trans (bq.mono c11.out.size)
    clear bq
    go_wp2_with fail
    refine (sure_ok w12).mono ?_
    rintro x w13 ⟨rfl, bq⟩
    have c13 : Hid (Below w.heap.size w w13) := c12.out.trans (bq.mono c12.out.size)
    clear bq
    go_wp2_with fail
    go_ret
    exact ⟨by first | rfl | simp, c13.out⟩

theorem new_law (v e : Int) (w : World) (hg : Handle w) : Calls Tryd.prog 5 #[.int .i64 v, .int .i64 e] w fun x w' => x = .returned (.bool true) ∧ Below w.heap.size w w' := by
  by_cases h : 1 ≤ v ∧ v ≤ 1048576 ∧ 1 ≤ e ∧ e ≤ 1048576
  · by_cases hs : 3000 < v ∨ 3000 < e
    · exact new_big v e w hg h hs
    · exact new_small v e w hg h hs
  · exact new_out v e w hg h

end Go.Proofs.YtdlggnibgnflnaaDoor
