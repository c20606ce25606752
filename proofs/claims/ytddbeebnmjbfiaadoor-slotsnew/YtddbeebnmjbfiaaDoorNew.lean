/- A nil Slots, and 'SlotsNew', walked. -/
import Derived.Test.YtddbeebnmjbfiaaDoorBack
namespace Go.Proofs.YtddbeebnmjbfiaaDoor
open Go.RowKit

theorem take_nil (w : World) : Calls Tryd.prog 10 #[.pointer none] w fun e w' => e = .returned (.tuple #[.int .i64 0, .iface 51 (.int .i64 1)]) ∧ w = w' := by
  go_enter Tryd.func10, Tryd.ntmps10
  go_wp2_with fail
  go_ret2
  exact ⟨rfl, rfl⟩

theorem claim_nil (x : Int) (w : World) : Calls Tryd.prog 15 #[.pointer none, .int .i64 x] w fun e w' => e = .returned (.iface 51 (.int .i64 1)) ∧ w = w' := by
  go_enter Tryd.func15, Tryd.ntmps15
  go_wp2_with fail
  go_ret
  exact ⟨rfl, rfl⟩

theorem free_nil (x : Int) (w : World) : Calls Tryd.prog 17 #[.pointer none, .int .i64 x] w fun e w' => e = .returned (.iface 51 (.int .i64 1)) ∧ w = w' := by
  go_enter Tryd.func17, Tryd.ntmps17
  go_wp2_with fail
  go_ret
  exact ⟨rfl, rfl⟩

theorem has_nil (x : Int) (w : World) : Calls Tryd.prog 20 #[.pointer none, .int .i64 x] w fun e w' => e = .returned (.bool false) ∧ w = w' := by
  go_enter Tryd.func20, Tryd.ntmps20
  go_wp2_with fail
  go_ret
  exact ⟨rfl, rfl⟩

theorem len_nil (w : World) : Calls Tryd.prog 18 #[.pointer none] w fun e w' => e = .returned (.int .i64 0) ∧ w = w' := by
  go_enter Tryd.func18, Tryd.ntmps18
  go_wp2_with fail
  go_ret
  exact ⟨rfl, rfl⟩

theorem size_nil (w : World) : Calls Tryd.prog 23 #[.pointer none] w fun e w' => e = .returned (.int .i64 0) ∧ w = w' := by
  go_enter Tryd.func23, Tryd.ntmps23
  go_wp2_with fail
  go_ret
  exact ⟨rfl, rfl⟩

theorem next_nil (x : Int) (w : World) : Calls Tryd.prog 25 #[.pointer none, .int .i64 x] w fun e w' => e = .returned (.tuple #[.int .i64 0, .bool false]) ∧ w = w' := by
  go_enter Tryd.func25, Tryd.ntmps25
  go_wp2_with fail
  go_ret2
  exact ⟨rfl, rfl⟩

set_option maxHeartbeats 1000000 in
theorem all_nil (w : World) : Calls Tryd.prog 22 #[.pointer none] w fun e w' => ∃ a, e = .returned (.slice (some a) 0 0) ∧ Below w.heap.size w w' := by
  obtain ⟨i0, hif, hz0, hz1, hz2⟩ := info_parts infoInt
  go_enter Tryd.func22, Tryd.ntmps22
  go_wp2_with fail
  refine (len_nil _).mono ?_
  rintro e w' ⟨rfl, rfl⟩
  go_wp2_with (at_make; refine wpList_make_own _ rfl (.const (.int .i64 0)) (.tmp 7) 41 rfl w.heap.size 3 i0 (.int .i64 0) 1 Tryd.underlying41 hif hz0 hz1 .i64 .i64 _ 0 rfl rfl (by omega) (by omega) (by unfold maxLen; omega) (Nat.le_refl _) ?_; intro w1 hown hgrow; have hb1 := (Below.refl w.heap.size w).grown hgrow (Nat.le_refl _) (by simp); clear hgrow)
  refine (next_nil 0 _).mono ?_
  rintro e w' ⟨rfl, rfl⟩
  go_wp2_with fail
  refine wp_loop_rounds 1 ?_
  rw [rounds_succ]
  go_wp2_with fail
  go_ret
  exact ⟨_, rfl, hb1⟩

set_option maxHeartbeats 1000000 in
theorem new_bad (n : Int) (w : World) (h : n < 1 ∨ 1048576 < n) : Calls Tryd.prog 9 #[.int .i64 n] w fun e w' => e = .returned (.tuple #[.pointer none, .iface 51 (.int .i64 1)]) ∧ w = w' := by
  rcases h with h | h
  · have t : decide (n < 1) = true := decide_eq_true h
    go_enter Tryd.func9, Tryd.ntmps9
    go_wp2_with fail
    go_ret2
    exact ⟨rfl, rfl⟩
  · have t : decide (n < 1) = false := decide_eq_false (by omega)
    have t2 : decide (1048576 < n) = true := decide_eq_true h
    go_enter Tryd.func9, Tryd.ntmps9
    go_wp2_with fail
    go_ret2
    exact ⟨rfl, rfl⟩

set_option maxRecDepth 100000 in
set_option maxHeartbeats 8000000 in
theorem new_law (n : Int) (w : World) (hE : Env w) : Calls Tryd.prog 4 #[.int .i64 n] w fun e w' => e = .returned (.bool true) ∧ Below w.heap.size w w' := by
  go_enter Tryd.func4, Tryd.ntmps4
  go_wp2_with fail
  refine (take_nil _).mono ?_
  rintro e w' ⟨rfl, rfl⟩
  go_wp2_with fail
  refine (next_nil 0 _).mono ?_
  rintro e w' ⟨rfl, rfl⟩
  go_wp2_with fail
  refine (num_err 1 _ hE.1).mono ?_
  rintro e w1 ⟨rfl, b1⟩
  have e1 := hid (hE.below b1)
  have hB1 := hid b1
  clear b1
  go_wp2_with fail
  refine (claim_nil 0 _).mono ?_
  rintro e w' ⟨rfl, rfl⟩
  go_wp2_with fail
  refine (num_err 1 _ e1.out.1).mono ?_
  rintro e w2 ⟨rfl, b2⟩
  have e2 := hid (e1.out.below b2)
  have hB2 := hid (hB1.out.trans (b2.mono hB1.out.size))
  clear e1 b2 hB1
  go_wp2_with fail
  refine (free_nil 0 _).mono ?_
  rintro e w' ⟨rfl, rfl⟩
  go_wp2_with fail
  refine (num_err 1 _ e2.out.1).mono ?_
  rintro e w3 ⟨rfl, b3⟩
  have e3 := hid (e2.out.below b3)
  have hB3 := hid (hB2.out.trans (b3.mono hB2.out.size))
  clear e2 b3 hB2
  go_wp2_with fail
  refine (has_nil 0 _).mono ?_
  rintro e w' ⟨rfl, rfl⟩
  go_wp2_with fail
  refine (len_nil _).mono ?_
  rintro e w' ⟨rfl, rfl⟩
  go_wp2_with fail
  refine (size_nil _).mono ?_
  rintro e w' ⟨rfl, rfl⟩
  go_wp2_with fail
  refine (all_nil _).mono ?_
  rintro e w4 ⟨a4, rfl, b4⟩
  have e4 := hid (e3.out.below b4)
  have hB4 := hid (hB3.out.trans (b4.mono hB3.out.size))
  clear e3 b4 hB3
  go_wp2_with fail
  by_cases hn : n < 1 ∨ 1048576 < n
  · refine (new_bad n _ hn).mono ?_
    rintro e w' ⟨rfl, rfl⟩
    rcases hn with hn | hn
    · have t : decide (n < 1) = true := decide_eq_true hn
      go_wp2_with fail
      refine (num_err 1 _ e4.out.1).mono ?_
      rintro e w5 ⟨rfl, b5⟩
      have e5 := hid (e4.out.below b5)
      have hB5 := hid (hB4.out.trans (b5.mono hB4.out.size))
      clear e4 b5 hB4
      go_wp2_with fail
      refine (sure_ok _ e5.out.2 e5.out.lt).mono ?_
      rintro e w6 ⟨rfl, b6⟩
      have hB6 := hid (hB5.out.trans (b6.mono hB5.out.size))
      clear e5 b6 hB5
      go_wp2_with fail
      go_ret
      exact ⟨rfl, hB6.out⟩
    · have t : decide (n < 1) = false := decide_eq_false (by omega)
      have t2 : decide (1048576 < n) = true := decide_eq_true hn
      go_wp2_with fail
      refine (num_err 1 _ e4.out.1).mono ?_
      rintro e w5 ⟨rfl, b5⟩
      have e5 := hid (e4.out.below b5)
      have hB5 := hid (hB4.out.trans (b5.mono hB4.out.size))
      clear e4 b5 hB4
      go_wp2_with fail
      refine (sure_ok _ e5.out.2 e5.out.lt).mono ?_
      rintro e w6 ⟨rfl, b6⟩
      have hB6 := hid (hB5.out.trans (b6.mono hB5.out.size))
      clear e5 b6 hB5
      go_wp2_with fail
      go_ret
      exact ⟨rfl, hB6.out⟩
  · obtain ⟨N, rfl⟩ : ∃ N : Nat, n = (N : Int) := ⟨n.toNat, by omega⟩
    have hN1 : 1 ≤ N := by omega
    have hN2 : N ≤ 1048576 := by omega
    clear hn
    refine (new_ok N _ hN1 hN2).mono ?_
    rintro e w5 ⟨sb, rfl, s5, b5⟩
    have e5 := hid (e4.out.below b5)
    have hB5 := hid (hB4.out.trans (b5.mono hB4.out.size))
    have hs5 := hid s5
    have hp := hid s5.pos
    have hsize := size_ok _ _ _ _ _ s5
    rw [List.length_replicate] at hsize
    have hlen := len_ok _ _ _ _ _ s5
    rw [count_none] at hlen
    clear e4 b5 hB4 s5
    go_wp2_with fail
    refine hsize.mono ?_
    rintro e w' ⟨rfl, rfl⟩
    go_wp2_with fail
    refine hlen.mono ?_
    rintro e w' ⟨rfl, rfl⟩
    clear hlen hsize
    go_wp2_with fail
    refine (all_ok _ _ _ _ _ hs5.out e5.out.2 e5.out.lt).mono ?_
    rintro e w6 ⟨av, ac, rfl, _, b6, _⟩
    rw [places_length, count_none]
    have e6 := hid (e5.out.below b6)
    have hB6 := hid (hB5.out.trans (b6.mono hB5.out.size))
    clear e5 b6 hB5 hs5
    go_wp2_with fail
    refine (sure_ok _ e6.out.2 e6.out.lt).mono ?_
    rintro e w7 ⟨rfl, b7⟩
    have hB7 := hid (hB6.out.trans (b7.mono hB6.out.size))
    clear e6 b7 hB6
    go_wp2_with fail
    go_ret
    exact ⟨rfl, hB7.out⟩

end Go.Proofs.YtddbeebnmjbfiaaDoor
