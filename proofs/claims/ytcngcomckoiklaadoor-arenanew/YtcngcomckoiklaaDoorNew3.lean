/- A nil Arena; 'ArenaNew', walked. -/
import Derived.Test.YtcngcomckoiklaaDoorBad3
import Derived.Test.YtcngcomckoiklaaDoorPlaces3
namespace Go.Proofs.YtcngcomckoiklaaDoor
open Go.RowKit

set_option maxHeartbeats 1000000 in
theorem add3_nil (w : World) : Calls Tryd.prog 27 #[.pointer none] w fun e w' => e = .returned (.tuple #[hv 0 0, .iface 74 (.int .i64 1)]) ∧ Below w.heap.size w w' := by
  go_enter Tryd.func27, Tryd.ntmps27
  go_wp2_with fail
  go_returns
  exact ⟨rfl, (Below.refl _ _).alloc (Nat.le_refl _) _⟩

set_option maxHeartbeats 1000000 in
theorem find3_nil (a x : Int) (w : World) : Calls Tryd.prog 24 #[.pointer none, hv a x] w fun e w' => e = .returned (.tuple #[.int .i64 0, .iface 74 (.int .i64 1)]) ∧ Below w.heap.size w w' := by
  go_enter Tryd.func24, Tryd.ntmps24
  go_wp2_with fail
  go_ret2
  exact ⟨rfl, (Below.refl _ _).alloc (Nat.le_refl _) _⟩

set_option maxHeartbeats 1000000 in
theorem handle3_nil (x : Int) (w : World) : Calls Tryd.prog 26 #[.pointer none, .int .i64 x] w fun e w' => e = .returned (.tuple #[hv 0 0, .iface 74 (.int .i64 1)]) ∧ Below w.heap.size w w' := by
  go_enter Tryd.func26, Tryd.ntmps26
  go_wp2_with fail
  go_returns
  exact ⟨rfl, (Below.refl _ _).alloc (Nat.le_refl _) _⟩

set_option maxHeartbeats 1000000 in
theorem drop3_nil (a x : Int) (w : World) : Calls Tryd.prog 23 #[.pointer none, hv a x] w fun e w' => e = .returned (.iface 74 (.int .i64 1)) ∧ Below w.heap.size w w' := by
  go_enter Tryd.func23, Tryd.ntmps23
  go_wp2_with fail
  refine (find3_nil a x _).mono ?_
  rintro e w2 ⟨rfl, b2⟩
  have hb := ((Below.refl w.heap.size w).alloc (Nat.le_refl _) (.cells #[.int .u32 a, .int .u32 x] 53)).trans (b2.mono (by simp))
  clear b2
  go_wp2_with fail
  go_ret
  exact ⟨rfl, hb⟩

theorem len3_nil (w : World) : Calls Tryd.prog 21 #[.pointer none] w fun e w' => e = .returned (.int .i64 0) ∧ w = w' := by
  go_enter Tryd.func21, Tryd.ntmps21
  go_wp2_with fail
  go_ret
  exact ⟨rfl, rfl⟩

theorem all3_nil (w : World) : Calls Tryd.prog 17 #[.pointer none] w fun e w' => e = .returned (.slice none 0 0) ∧ w = w' := by
  go_enter Tryd.func17, Tryd.ntmps17
  go_wp2_with fail
  go_ret
  exact ⟨rfl, rfl⟩

theorem full3_nil (w : World) : Calls Tryd.prog 19 #[.pointer none] w fun e w' => e = .returned (.bool true) ∧ Below w.heap.size w w' := by
  go_enter Tryd.func19, Tryd.ntmps19
  go_wp2_with fail
  go_region
  go_wp2_with fail
  go_ret
  exact ⟨rfl, (Below.refl _ _).drew⟩


set_option maxRecDepth 100000 in
set_option maxHeartbeats 2000000 in
theorem new_law (n : Int) (w : World) (hE : Env w) : Calls Tryd.prog 5 #[.int .i64 n] w fun e w' => e = .returned (.bool true) ∧ Below w.heap.size w w' := by
  have s0 : Hid (SE w w) := ⟨hE, Below.refl _ _⟩
  clear hE
  go_enter Tryd.func5, Tryd.ntmps5
  go_wp2_with fail
  refine (add3_nil _).mono ?_
  rintro e w1 ⟨rfl, b1⟩
  have s1 := hid ((s0.out.more b1).more ((Below.refl _ _).alloc (Nat.le_refl _) (.cells #[.int .u32 0, .int .u32 0] 53)))
  clear s0 b1
  go_wp2_with fail
  refine (find3_nil 0 0 _).mono ?_
  rintro e w2 ⟨rfl, b2⟩
  have s2 := hid (s1.out.more b2)
  clear s1 b2
  go_wp2_with fail
  refine (handle3_nil 0 _).mono ?_
  rintro e w3 ⟨rfl, b3⟩
  have s3 := hid ((s2.out.more b3).more ((Below.refl _ _).alloc (Nat.le_refl _) (.cells #[.int .u32 0, .int .u32 0] 53)))
  clear s2 b3
  go_wp2_with fail
  refine (num_err 1 _ s3.out.env.1).mono ?_
  rintro e w4 ⟨rfl, b4⟩
  have s4 := hid (s3.out.more b4)
  clear s3 b4
  go_wp2_with fail
  refine (num_err 1 _ s4.out.env.1).mono ?_
  rintro e w5 ⟨rfl, b5⟩
  have s5 := hid (s4.out.more b5)
  clear s4 b5
  go_wp2_with fail
  refine (num_err 1 _ s5.out.env.1).mono ?_
  rintro e w6 ⟨rfl, b6⟩
  have s6 := hid (s5.out.more b6)
  clear s5 b6
  go_wp2_with fail
  refine (drop3_nil 0 0 _).mono ?_
  rintro e w7 ⟨rfl, b7⟩
  have s7 := hid (s6.out.more b7)
  clear s6 b7
  go_wp2_with fail
  refine (num_err 1 _ s7.out.env.1).mono ?_
  rintro e w8 ⟨rfl, b8⟩
  have s8 := hid (s7.out.more b8)
  clear s7 b8
  go_wp2_with fail
  refine (len3_nil _).mono ?_
  rintro e w' ⟨rfl, rfl⟩
  go_wp2_with fail
  refine (all3_nil _).mono ?_
  rintro e w' ⟨rfl, rfl⟩
  go_wp2_with fail
  refine (places3_nil _).mono ?_
  rintro e w' ⟨rfl, rfl⟩
  go_wp2_with fail
  refine (full3_nil _).mono ?_
  rintro e w9 ⟨rfl, b9⟩
  have s9 := hid (s8.out.more b9)
  clear s8 b9
  by_cases hn : n < 1 ∨ 1048576 < n
  · have hnb := hid (new3_bad n w9 hn)
    by_cases h1 : n < 1
    · have t1 : decide (n < 1) = true := decide_eq_true h1
      clear hn h1
      go_wp2_with fail
      refine hnb.out.mono ?_
      rintro e w10 ⟨rfl, b10⟩
      have s10 := hid (s9.out.more b10)
      clear s9 b10 hnb
      go_wp2_with fail
      refine (num_err 1 _ s10.out.env.1).mono ?_
      rintro e w11 ⟨rfl, b11⟩
      have s11 := hid (s10.out.more b11)
      clear s10 b11
      go_wp2_with fail
      refine (sure_ok _ s11.out.env.2).mono ?_
      rintro e w12 ⟨rfl, b12⟩
      have s12 := hid (s11.out.more b12)
      clear s11 b12
      go_wp2_with fail
      go_ret
      exact ⟨rfl, s12.out.below⟩
    · have t1 : decide (n < 1) = false := decide_eq_false h1
      have t2 : decide (1048576 < n) = true := decide_eq_true (by omega)
      clear hn h1
      go_wp2_with fail
      refine hnb.out.mono ?_
      rintro e w10 ⟨rfl, b10⟩
      have s10 := hid (s9.out.more b10)
      clear s9 b10 hnb
      go_wp2_with fail
      refine (num_err 1 _ s10.out.env.1).mono ?_
      rintro e w11 ⟨rfl, b11⟩
      have s11 := hid (s10.out.more b11)
      clear s10 b11
      go_wp2_with fail
      refine (sure_ok _ s11.out.env.2).mono ?_
      rintro e w12 ⟨rfl, b12⟩
      have s12 := hid (s11.out.more b12)
      clear s11 b12
      go_wp2_with fail
      go_ret
      exact ⟨rfl, s12.out.below⟩
  · obtain ⟨m, rfl⟩ : ∃ m : Nat, n = (m : Int) := ⟨n.toNat, by omega⟩
    have h1 : 1 ≤ m := by omega
    have h2 : m ≤ 1048576 := by omega
    clear hn
    go_wp2_with fail
    refine (SA.new m _ s9.out.env.2 h1 h2).mono ?_
    rintro e w10 ⟨ab, rfl, s10⟩
    have hb9 := hid s9.out.below
    have s10h := hid s10
    clear s9 s10
    go_wp2_with fail
    refine s10h.out.len.mono ?_
    rintro e w11 ⟨rfl, b11⟩
    have s11 := hid (s10h.out.more b11)
    clear s10h b11
    go_wp2_with fail
    refine (s11.out.full false (decide_eq_false (by simp [lowP]; omega))).mono ?_
    rintro e w12 ⟨rfl, b12⟩
    have s12 := hid (s11.out.more b12)
    clear s11 b12
    obtain ⟨ob, ha⟩ := s12.out.arena
    have hpl := places3_ok _ _ _ _ _ _ _ ha
    clear ha
    go_wp2_with fail
    refine hpl.mono ?_
    rintro e w13 ⟨ad, cap, rfl, _, _, _, b13⟩
    have s13 := hid (s12.out.more b13)
    clear s12 b13 hpl
    go_wp2_with fail
    refine (sure_ok _ s13.out.env).mono ?_
    rintro e w14 ⟨rfl, b14⟩
    have s14 := hid (s13.out.more b14)
    clear s13 b14
    go_wp2_with fail
    go_ret
    exact ⟨rfl, hb9.out.trans (s14.out.below.mono hb9.out.size)⟩

end Go.Proofs.YtcngcomckoiklaaDoor
