/- answer's holds, fit, numbers, isNumber, inRange, isCode, check, walked. -/
import Derived.Test.YtkopcfpghklbbaaDoorChk20
namespace Go.Proofs.YtkopcfpghklbbaaDoor
open Go.RowKit
set_option linter.unusedVariables false

set_option maxRecDepth 100000 in
set_option maxHeartbeats 4000000 in
theorem hold_ok (p : P20) (n : Nat) (w : World) : Calls Tryd.prog 70 #[p.v, .int .i64 (n : Int)] w fun e w' => e = .returned (.bool (hold20 p n)) ∧ Below w.heap.size w w' := by
  obtain ⟨h, t, f, i, q, c, s, d⟩ := p
  unfold hold20
  dsimp only
  cases f
  · cases t
    · rcases (by omega : n = 0 ∨ ¬ n = 0) with g | g
      · subst g
        go_enter Tryd.func70, Tryd.ntmps70
        go_wp2_with fail
        go_ret
        exact ⟨rfl, below20 _⟩
      · have g' : ¬ (n : Int) = 0 := by omega
        have r : decide (n = 0) = false := by simp [g]
        simp only [Bool.false_eq_true, if_false, r]
        clear g r
        go_enter Tryd.func70, Tryd.ntmps70
        go_wp2_with fail
        go_ret
        exact ⟨congrArg (fun b => Ending.returned (Value.bool b)) (show ((n : Int) == 0) = false by simpa using g'), below20 _⟩
    · rcases (by omega : n = 1 ∨ ¬ n = 1) with g | g
      · subst g
        go_enter Tryd.func70, Tryd.ntmps70
        go_wp2_with fail
        go_ret
        exact ⟨rfl, below20 _⟩
      · have g' : ¬ (n : Int) = 1 := by omega
        have r : decide (n = 1) = false := by simp [g]
        simp only [Bool.false_eq_true, if_false, if_true, r]
        clear g r
        go_enter Tryd.func70, Tryd.ntmps70
        go_wp2_with fail
        go_ret
        exact ⟨congrArg (fun b => Ending.returned (Value.bool b)) (show ((n : Int) == 1) = false by simpa using g'), below20 _⟩
  · rcases (by omega : n ≤ 4194304 ∨ ¬ n ≤ 4194304) with g | g
    · have g' : (n : Int) ≤ 4194304 := by omega
      have r : decide (n ≤ 4194304) = true := by simp [g]
      simp only [if_true, r]
      clear g r
      go_enter Tryd.func70, Tryd.ntmps70
      go_wp2_with fail
      go_ret
      exact ⟨rfl, below20 _⟩
    · have g' : ¬ (n : Int) ≤ 4194304 := by omega
      have r : decide (n ≤ 4194304) = false := by simp; omega
      simp only [if_true, r]
      clear g r
      go_enter Tryd.func70, Tryd.ntmps70
      go_wp2_with fail
      go_ret
      exact ⟨rfl, below20 _⟩

theorem take_next20 {α : Type} {zs : List α} {j : Nat} {z : α} (h : zs[j]? = some z) : zs.take (j + 1) = zs.take j ++ [z] := by
  rw [List.take_add_one, h]; rfl

abbrev oks (ds : List Dt) : Prop := ∀ y, y ∈ ds → y.s = 0 ∨ y.s = 1

set_option maxRecDepth 100000 in
set_option maxHeartbeats 4000000 in
theorem fit_ok (p : P20) (ds : List Dt) (da : Option Addr) (dn dc : Nat) (w : World) (hd : DV w da dn dc ds) (hl : dn ≤ 1000000) :
    Calls Tryd.prog 56 #[p.v, .slice da dn dc] w fun e w' => e = .returned (.bool (fit20 p ds)) ∧ Below w.heap.size w w' := by
  have hlen := hd.len
  unfold fit20
  rw [hlen]
  have hk := hid (hold_ok p dn)
  have hb := balloc20 w (.cells p.cs 67)
  obtain ⟨H, hH⟩ : ∃ H, hold20 p dn = H := ⟨_, rfl⟩
  rw [hH] at hk ⊢
  clear hH
  obtain ⟨h, t, f, i, q, c, s, d⟩ := p
  replace hd := hid hd
  replace hlen := hid hlen
  replace hb := hid hb
  cases H
  · simp only [Bool.false_and]
    go_enter Tryd.func56, Tryd.ntmps56
    go_wp2_with fail
    refine (hk.out _).mono ?_
    rintro e w2 ⟨rfl, b2⟩
    have hb2 := hid (hb.out.trans (b2.mono hb.out.size))
    clear b2 hk
    go_wp2_with fail
    go_ret
    exact ⟨rfl, hb2.out⟩
  · simp only [Bool.true_and]
    go_enter Tryd.func56, Tryd.ntmps56
    go_wp2_with fail
    refine (hk.out _).mono ?_
    rintro e w2 ⟨rfl, b2⟩
    have hb2 := hid (hb.out.trans (b2.mono hb.out.size))
    clear b2 hk
    go_wp2_with fail
    go_loopw [14] (fun u wr => ∃ j : Nat, j ≤ dn ∧ u = .int .i64 (j : Int) ∧ Hid (oks (ds.take j) ∧ Below w.heap.size w wr))
      (fun u _ => dn - (intOf u).toNat)
    case atStart => exact ⟨0, by omega, by go_num, (fun q hq => by simp at hq), hb2.out⟩
    case round =>
      obtain ⟨j, hj, rfl, hs⟩ := hrel
      rcases Nat.lt_or_ge j dn with hlt | hge
      · obtain ⟨q, hq⟩ : ∃ q, ds[j]? = some q := ⟨_, List.getElem?_eq_getElem (by rw [hlen.out]; exact hlt)⟩
        obtain ⟨g, o, rfl, c0, c1, c2⟩ := (hd.out.below (hs.out.2)).cell j q hq
        have htk := hid (take_next20 hq)
        have hmem := hid (List.mem_of_getElem? hq)
        obtain ⟨x, y, z⟩ := q
        dsimp only at c0 c1 c2
        have i1 : (0 : Int) ≤ (j : Int) := by omega
        have i2 : (j : Int) < (dn : Int) := by omega
        have hj1 : IntKind.i64.wrap ((j : Int) + 1) = ((j + 1 : Nat) : Int) := by rw [IntKind.wrap_i64]; omega
        clear hq
        have hnb := hid (hs.out.2.trans ((balloc20 wr (.cells #[.int .u32 (x : Int), .int .u32 (y : Int), .int .i64 z] 65)).mono hs.out.2.size))
        by_cases z0 : z = 0
        · have hfin : Hid (oks (ds.take (j + 1))) := by
            rw [htk.out]
            intro v hv
            rcases List.mem_append.1 hv with h | h
            · exact hs.out.1 v h
            · simp at h; subst h; exact .inl z0
          subst z0
          go_wp2_with fail
          go_roundw
          case rel => exact ⟨j + 1, by omega, by go_num, hfin.out, hnb.out⟩
          case measure => simp [intOf]; omega
        · by_cases z1 : z = 1
          · have hfin : Hid (oks (ds.take (j + 1))) := by
              rw [htk.out]
              intro v hv
              rcases List.mem_append.1 hv with h | h
              · exact hs.out.1 v h
              · simp at h; subst h; exact .inr z1
            subst z1
            go_wp2_with fail
            go_roundw
            case rel => exact ⟨j + 1, by omega, by go_num, hfin.out, hnb.out⟩
            case measure => simp [intOf]; omega
          · have hno : Hid (decide (oks ds) = false) := by
              refine decide_eq_false (fun hh => ?_)
              rcases hh _ hmem.out with h | h
              · exact z0 h
              · exact z1 h
            have n0 : (z != 0) = true := by simpa using z0
            have n1 : (z != 1) = true := by simpa using z1
            go_wp2_with fail
            go_ret
            exact ⟨congrArg (fun b => Ending.returned (Value.bool b)) hno.out.symm, hnb.out⟩
      · have hjn : j = dn := by omega
        have i2 : ¬ (j : Int) < (dn : Int) := by omega
        have hyes : Hid (decide (oks ds) = true) := by
          refine decide_eq_true ?_
          have := hs.out.1
          rw [List.take_of_length_le (by rw [hlen.out]; omega)] at this
          exact this
        have hfin := hid hs.out.2
        go_wp2_with fail
        go_ret
        exact ⟨congrArg (fun b => Ending.returned (Value.bool b)) hyes.out.symm, hfin.out⟩

set_option maxRecDepth 100000 in
theorem iscode_ok (k : Int) (w : World) : Calls Tryd.prog 43 #[.int .i64 k] w fun e w' => e = .returned (.bool (decide (0 ≤ k ∧ k ≤ 17))) ∧ w' = w := by
  rcases (by omega : k < 0 ∨ (0 ≤ k ∧ k < 18) ∨ (0 ≤ k ∧ ¬ k < 18)) with g | ⟨g1, g2⟩ | ⟨g1, g2⟩
  · have g' : ¬ 0 ≤ k := by omega
    have r : decide (0 ≤ k ∧ k ≤ 17) = false := by simp; omega
    rw [r]; clear r g
    go_enter Tryd.func43, Tryd.ntmps43
    go_wp2_with fail
    go_ret
    exact ⟨rfl, rfl⟩
  · have r : decide (0 ≤ k ∧ k ≤ 17) = true := by simp; omega
    rw [r]; clear r
    go_enter Tryd.func43, Tryd.ntmps43
    go_wp2_with fail
    go_ret
    exact ⟨rfl, rfl⟩
  · have r : decide (0 ≤ k ∧ k ≤ 17) = false := by simp; omega
    rw [r]; clear r
    go_enter Tryd.func43, Tryd.ntmps43
    go_wp2_with fail
    go_ret
    exact ⟨rfl, rfl⟩

set_option maxRecDepth 100000 in
theorem isnum_ok (n : Int) (h0 : -9223372036854775808 ≤ n) (h1 : n ≤ 9223372036854775807) (w : World) : Calls Tryd.prog 71 #[.int .i64 n] w fun e w' => e = .returned (.bool (decide (in32 n))) ∧ w' = w := by
  rcases (by omega : n < 0 ∨ (0 ≤ n ∧ n ≤ 4294967295) ∨ (0 ≤ n ∧ ¬ n ≤ 4294967295)) with g | ⟨g1, g2⟩ | ⟨g1, g2⟩
  · have g' : ¬ 0 ≤ n := by omega
    have r : decide (in32 n) = false := by simp; omega
    rw [r]; clear r g
    go_enter Tryd.func71, Tryd.ntmps71
    go_wp2_with fail
    go_ret
    exact ⟨rfl, rfl⟩
  · have r : decide (in32 n) = true := by simp; omega
    have hw : IntKind.u64.wrap n = n := by rw [wrapU]; omega
    rw [r]; clear r
    go_enter Tryd.func71, Tryd.ntmps71
    go_wp2_with fail
    go_ret
    exact ⟨rfl, rfl⟩
  · have r : decide (in32 n) = false := by simp; omega
    have hw : IntKind.u64.wrap n = n := by rw [wrapU]; omega
    rw [r]; clear r
    go_enter Tryd.func71, Tryd.ntmps71
    go_wp2_with fail
    go_ret
    exact ⟨rfl, rfl⟩

set_option maxRecDepth 100000 in
set_option maxHeartbeats 4000000 in
theorem numbers_ok (a b c d : Int) (w : World) : Calls Tryd.prog 24 #[c4v a b c d] w fun e w' => e = .returned (c4v a b c d) ∧ Below w.heap.size w w' := by
  go_enter Tryd.func24, Tryd.ntmps24
  go_wp2_with fail
  go_returns
  exact ⟨rfl, ((below20 _).alloc (by simp) _)⟩

attribute [local go_sem] idx40 idx41 idx42 idx43

set_option maxRecDepth 100000 in
set_option maxHeartbeats 8000000 in
theorem inrange_ok (x : An) (hv dv : Value) (ba : Option Addr) (bn bc : Nat) (hn : x.d.length = bn)
    (hw0 : ∀ z, z = x.c0 ∨ z = x.c1 ∨ z = x.c2 ∨ z = x.c3 ∨ z = x.n → -9223372036854775808 ≤ z ∧ z ≤ 9223372036854775807) (w : World) :
    Calls Tryd.prog 57 #[av x hv dv (.slice ba bn bc)] w fun e w' => e = .returned (.bool (inr20 x)) ∧ Below w.heap.size w w' := by
  obtain ⟨R, hR⟩ : ∃ R, inr20 x = R := ⟨_, rfl⟩
  have hall : Hid (R = true ↔ ((in32 x.c0 ∧ in32 x.c1 ∧ in32 x.c2 ∧ in32 x.c3) ∧ in32 x.n ∧ bn ≤ 67108863)) := by
    show _ ↔ _
    rw [← hR, ← hn]
    unfold inr20
    exact decide_eq_true_iff
  rw [hR]
  clear hR hn
  obtain ⟨err, hs, is, n, ds, c0, c1, c2, c3, sum, d⟩ := x
  dsimp only at hw0 hall ⊢
  have k0 := hid (isnum_ok c0 (hw0 c0 (by simp)).1 (hw0 c0 (by simp)).2)
  have k1 := hid (isnum_ok c1 (hw0 c1 (by simp)).1 (hw0 c1 (by simp)).2)
  have k2 := hid (isnum_ok c2 (hw0 c2 (by simp)).1 (hw0 c2 (by simp)).2)
  have k3 := hid (isnum_ok c3 (hw0 c3 (by simp)).1 (hw0 c3 (by simp)).2)
  have k4 := hid (isnum_ok n (hw0 n (by simp)).1 (hw0 n (by simp)).2)
  clear hw0
  have hnum := hid (numbers_ok c0 c1 c2 c3)
  obtain ⟨w1, hw1⟩ : ∃ w1, w.alloc (.cells (acs ⟨err, hs, is, n, ds, c0, c1, c2, c3, sum, d⟩ hv dv (.slice ba bn bc)) 34) = w1 := ⟨_, rfl⟩
  have hB1 := balloc20 w (.cells (acs ⟨err, hs, is, n, ds, c0, c1, c2, c3, sum, d⟩ hv dv (.slice ba bn bc)) 34)
  have nb := new_of20 w (acs ⟨err, hs, is, n, ds, c0, c1, c2, c3, sum, d⟩ hv dv (.slice ba bn bc)) 34
  rw [hw1] at hB1 nb
  replace hB1 := hid hB1
  replace nb := hid nb
  replace hw1 := hid hw1
  go_enter Tryd.func57, Tryd.ntmps57
  go_wp2_with fail
  refine (hnum.out _).mono ?_
  rintro e w2 ⟨rfl, b2⟩
  rw [hw1.out] at b2
  have nb2 := hid ((b2.block w.heap.size (Array.getElem?_eq_some_iff.1 nb.out).1).trans nb.out)
  have hB2 := hid (hB1.out.trans (b2.mono hB1.out.size))
  have e0 := cell_of20 nb2.out (j := 3) rfl
  have e1 := cell_of20 nb2.out (j := 10) rfl
  clear b2 hnum nb hB1 hw1 nb2
  by_cases g0 : in32 c0
  · by_cases g1 : in32 c1
    · by_cases g2 : in32 c2
      · by_cases g3 : in32 c3
        · have r0 : decide (in32 c0) = true := decide_eq_true g0
          have r1 : decide (in32 c1) = true := decide_eq_true g1
          have r2 : decide (in32 c2) = true := decide_eq_true g2
          have r3 : decide (in32 c3) = true := decide_eq_true g3
          rw [r0] at k0
          rw [r1] at k1
          rw [r2] at k2
          rw [r3] at k3
          by_cases g4 : in32 n
          · have r4 : decide (in32 n) = true := decide_eq_true g4
            rw [r4] at k4
            clear r0 r1 r2 r3 r4
            by_cases g5 : bn ≤ 67108863
            · have hR : R = true := hall.out.2 ⟨⟨g0, g1, g2, g3⟩, g4, g5⟩
              have g5' : (bn : Int) ≤ 67108863 := by omega
              subst hR
              clear g0 g1 g2 g3 g4 g5 hall
              go_wp2_with fail
              refine wp_loop_rounds 5 ?_
              rw [rounds_succ]
              go_wp2_with fail
              refine (k0.out _).mono ?_
              rintro e w3 ⟨rfl, rfl⟩
              go_wp2_with fail
              rw [rounds_succ]
              go_wp2_with fail
              refine (k1.out _).mono ?_
              rintro e w3 ⟨rfl, rfl⟩
              go_wp2_with fail
              rw [rounds_succ]
              go_wp2_with fail
              refine (k2.out _).mono ?_
              rintro e w3 ⟨rfl, rfl⟩
              go_wp2_with fail
              rw [rounds_succ]
              go_wp2_with fail
              refine (k3.out _).mono ?_
              rintro e w3 ⟨rfl, rfl⟩
              go_wp2_with fail
              rw [rounds_succ]
              go_wp2_with fail
              refine (k4.out _).mono ?_
              rintro e w3 ⟨rfl, rfl⟩
              go_wp2_with fail
              go_ret
              exact ⟨rfl, hB2.out⟩
            · have hR : R = false := by rw [Bool.eq_false_iff]; intro q; exact g5 (hall.out.1 q).2.2
              have g5' : ¬ (bn : Int) ≤ 67108863 := by omega
              subst hR
              clear g0 g1 g2 g3 g4 g5 hall
              go_wp2_with fail
              refine wp_loop_rounds 5 ?_
              rw [rounds_succ]
              go_wp2_with fail
              refine (k0.out _).mono ?_
              rintro e w3 ⟨rfl, rfl⟩
              go_wp2_with fail
              rw [rounds_succ]
              go_wp2_with fail
              refine (k1.out _).mono ?_
              rintro e w3 ⟨rfl, rfl⟩
              go_wp2_with fail
              rw [rounds_succ]
              go_wp2_with fail
              refine (k2.out _).mono ?_
              rintro e w3 ⟨rfl, rfl⟩
              go_wp2_with fail
              rw [rounds_succ]
              go_wp2_with fail
              refine (k3.out _).mono ?_
              rintro e w3 ⟨rfl, rfl⟩
              go_wp2_with fail
              rw [rounds_succ]
              go_wp2_with fail
              refine (k4.out _).mono ?_
              rintro e w3 ⟨rfl, rfl⟩
              go_wp2_with fail
              go_ret
              exact ⟨congrArg (fun b => Ending.returned (Value.bool b)) (show decide ((bn : Int) ≤ 67108863) = false by simpa using g5'), hB2.out⟩
          · have r4 : decide (in32 n) = false := decide_eq_false g4
            rw [r4] at k4
            have hR : R = false := by rw [Bool.eq_false_iff]; intro q; exact g4 (hall.out.1 q).2.1
            subst hR
            clear r0 r1 r2 r3 r4 g0 g1 g2 g3 g4 hall
            go_wp2_with fail
            refine wp_loop_rounds 5 ?_
            rw [rounds_succ]
            go_wp2_with fail
            refine (k0.out _).mono ?_
            rintro e w3 ⟨rfl, rfl⟩
            go_wp2_with fail
            rw [rounds_succ]
            go_wp2_with fail
            refine (k1.out _).mono ?_
            rintro e w3 ⟨rfl, rfl⟩
            go_wp2_with fail
            rw [rounds_succ]
            go_wp2_with fail
            refine (k2.out _).mono ?_
            rintro e w3 ⟨rfl, rfl⟩
            go_wp2_with fail
            rw [rounds_succ]
            go_wp2_with fail
            refine (k3.out _).mono ?_
            rintro e w3 ⟨rfl, rfl⟩
            go_wp2_with fail
            rw [rounds_succ]
            go_wp2_with fail
            refine (k4.out _).mono ?_
            rintro e w3 ⟨rfl, rfl⟩
            go_wp2_with fail
            go_ret
            exact ⟨rfl, hB2.out⟩
        · have r0 : decide (in32 c0) = true := decide_eq_true g0
          have r1 : decide (in32 c1) = true := decide_eq_true g1
          have r2 : decide (in32 c2) = true := decide_eq_true g2
          have r3 : decide (in32 c3) = false := decide_eq_false g3
          rw [r0] at k0
          rw [r1] at k1
          rw [r2] at k2
          rw [r3] at k3
          have hR : R = false := by rw [Bool.eq_false_iff]; intro q; exact g3 (hall.out.1 q).1.2.2.2
          subst hR
          clear r0 r1 r2 r3 g0 g1 g2 g3 hall k4
          go_wp2_with fail
          refine wp_loop_rounds 5 ?_
          rw [rounds_succ]
          go_wp2_with fail
          refine (k0.out _).mono ?_
          rintro e w3 ⟨rfl, rfl⟩
          go_wp2_with fail
          rw [rounds_succ]
          go_wp2_with fail
          refine (k1.out _).mono ?_
          rintro e w3 ⟨rfl, rfl⟩
          go_wp2_with fail
          rw [rounds_succ]
          go_wp2_with fail
          refine (k2.out _).mono ?_
          rintro e w3 ⟨rfl, rfl⟩
          go_wp2_with fail
          rw [rounds_succ]
          go_wp2_with fail
          refine (k3.out _).mono ?_
          rintro e w3 ⟨rfl, rfl⟩
          go_wp2_with fail
          go_ret
          exact ⟨rfl, hB2.out⟩
      · have r0 : decide (in32 c0) = true := decide_eq_true g0
        have r1 : decide (in32 c1) = true := decide_eq_true g1
        have r2 : decide (in32 c2) = false := decide_eq_false g2
        rw [r0] at k0
        rw [r1] at k1
        rw [r2] at k2
        have hR : R = false := by rw [Bool.eq_false_iff]; intro q; exact g2 (hall.out.1 q).1.2.2.1
        subst hR
        clear r0 r1 r2 g0 g1 g2 hall k4 k3
        go_wp2_with fail
        refine wp_loop_rounds 5 ?_
        rw [rounds_succ]
        go_wp2_with fail
        refine (k0.out _).mono ?_
        rintro e w3 ⟨rfl, rfl⟩
        go_wp2_with fail
        rw [rounds_succ]
        go_wp2_with fail
        refine (k1.out _).mono ?_
        rintro e w3 ⟨rfl, rfl⟩
        go_wp2_with fail
        rw [rounds_succ]
        go_wp2_with fail
        refine (k2.out _).mono ?_
        rintro e w3 ⟨rfl, rfl⟩
        go_wp2_with fail
        go_ret
        exact ⟨rfl, hB2.out⟩
    · have r0 : decide (in32 c0) = true := decide_eq_true g0
      have r1 : decide (in32 c1) = false := decide_eq_false g1
      rw [r0] at k0
      rw [r1] at k1
      have hR : R = false := by rw [Bool.eq_false_iff]; intro q; exact g1 (hall.out.1 q).1.2.1
      subst hR
      clear r0 r1 g0 g1 hall k4 k3 k2
      go_wp2_with fail
      refine wp_loop_rounds 5 ?_
      rw [rounds_succ]
      go_wp2_with fail
      refine (k0.out _).mono ?_
      rintro e w3 ⟨rfl, rfl⟩
      go_wp2_with fail
      rw [rounds_succ]
      go_wp2_with fail
      refine (k1.out _).mono ?_
      rintro e w3 ⟨rfl, rfl⟩
      go_wp2_with fail
      go_ret
      exact ⟨rfl, hB2.out⟩
  · have r0 : decide (in32 c0) = false := decide_eq_false g0
    rw [r0] at k0
    have hR : R = false := by rw [Bool.eq_false_iff]; intro q; exact g0 (hall.out.1 q).1.1
    subst hR
    clear r0 g0 hall k4 k3 k2 k1
    go_wp2_with fail
    refine wp_loop_rounds 5 ?_
    rw [rounds_succ]
    go_wp2_with fail
    refine (k0.out _).mono ?_
    rintro e w3 ⟨rfl, rfl⟩
    go_wp2_with fail
    go_ret
    exact ⟨rfl, hB2.out⟩

/-- What is kept of a block through calls. -/
theorem kept20 {w w' : World} {k : Nat} {cs : Array Value} {t : TypeId} {c : Nat × Nat} (h : w.heap[k]? = some (.cells cs t c)) (hb : Below w.heap.size w w') : w'.heap[k]? = some (.cells cs t c) :=
  (hb.block k (Array.getElem?_eq_some_iff.1 h).1).trans h

end Go.Proofs.YtkopcfpghklbbaaDoor
