/- The reference's Add. -/
import Derived.Test.YtjkiagjgnfaknaaDoorRefA3
namespace Go.Proofs.YtjkiagjgnfaknaaDoor
open Go.RowKit
set_option linter.unusedVariables false

theorem low_stop {ps : List (Int × Int)} {i : Nat} (h : i < lowP ps) : ∃ a s, ps[i]? = some (a, s) ∧ s ≠ 0 := by
  have := lowP_held ps i h
  unfold heldB at this
  have hl := lowP_le ps
  obtain ⟨⟨a, s⟩, hp⟩ : ∃ z, ps[i]? = some z := ⟨_, List.getElem?_eq_getElem (by omega)⟩
  rw [hp] at this
  exact ⟨a, s, hp, by simpa using this⟩

set_option maxRecDepth 100000 in
set_option maxHeartbeats 4000000 in
theorem radd_full (K : Nat) (ad : Option Addr) (ps : List (Int × Int)) (cap : Nat) (w : World) (h : Prow w ad ps) (hl : ps.length ≤ K) (hK : K ≤ 1000) (hx : K ≤ lowP ps) :
    Calls Tryd.prog 14 #[ra K ad ps.length cap] w fun e w' => e = .returned (.tuple #[ra K ad ps.length cap, .int .i64 0, .int .u32 0, .int .i64 16]) ∧ Below w.heap.size w w' := by
  obtain ⟨W0, hW0, hb0, hsz, hk⟩ := two_blocks w (.int .i64 K) (.slice ad ps.length cap) (.int .i64 0) (.slice none 0 0) 33
  have hlo := lowP_le ps
  have hp0 := hid (h.below hb0.out)
  obtain ⟨k0, k1, bw⟩ := hk.out W0 (Below.refl _ _)
  obtain ⟨c0, c1⟩ := blk2 k0
  obtain ⟨z0, z1⟩ := blk2 k1
  obtain ⟨f0, f1⟩ := run2 k1
  have hk1 := hid k1
  replace bw := hid bw
  have hst := hid (fun i (hi : i < lowP ps) => low_stop hi)
  obtain rfl : K = ps.length := by omega
  have hlow : lowP ps = ps.length := by omega
  rw [hlow] at hst
  clear h k0 k1 hlo hx hlow
  go_enter Tryd.func14, Tryd.ntmps14
  go_wp2_with fail
  try rw [hW0]
  go_loopw [6] (fun u wr => ∃ i : Nat, i ≤ ps.length ∧ u = .int .i64 (i : Int) ∧ wr = W0) (fun u _ => ps.length - (intOf u).toNat)
  case atStart => exact ⟨0, by omega, by go_num, rfl⟩
  case round =>
    obtain ⟨i, hi, rfl, rfl⟩ := hrel
    rcases Nat.lt_or_ge i ps.length with hlt | hge
    · obtain ⟨a, s, hp, hs⟩ := hst.out i hlt
      have ts : (s == 0) = false := by simpa using hs
      have ts' : (s != 0) = true := by simpa using hs
      cases ad with
      | none => have := hp0.out.nil rfl; subst this; simp at hlt
      | some ad =>
        have d1 := hp0.out.second hp
        clear hp hs
        go_wp2_with fail
        go_roundw
        case rel => exact ⟨i + 1, by omega, by go_num, trivial⟩
        case measure => simp [intOf]; omega
    · obtain rfl : i = ps.length := by omega
      go_wp2_with fail
      have hfin := set2_block hk1.out (.int .i64 ps.length) (.slice ad ps.length cap)
      refine bodyPost_ret (results_cell4 rfl _ _ (w.heap.size + 1) 33 _ (0, 0) _ rfl hfin Tryd.underlying33 rfl (by kernel_rfl)) rfl ?_
      exact ⟨rfl, (bw.out.setCell (by simp) _).setCell (by simp) _⟩

set_option maxRecDepth 100000 in
set_option maxHeartbeats 4000000 in
theorem radd_hit (K : Nat) (ad : Option Addr) (ps : List (Int × Int)) (cap : Nat) (w : World) (h : Prow w ad ps) (h0 : ad = none → cap = 0) (hl : ps.length ≤ K) (hK : K ≤ 1000) (x : Nat) (A : Int) (hx : lowP ps = x) (hxK : x < K) (hA : (atP ps x).1 + 1 = A) (hA2 : A < 4294967296) (ps' : List (Int × Int)) (hp' : putP ps x (A, 1) = ps') :
    Calls Tryd.prog 14 #[ra K ad ps.length cap] w fun e w' => ∃ ad' cap', e = .returned (.tuple #[ra K ad' ps'.length cap', .int .i64 (x : Int), .int .u32 A, .int .i64 0]) ∧ RB w.heap.size w' ad' ps' ∧ (ad' = none → cap' = 0) ∧ Below w.heap.size w w' := by
  obtain ⟨W0, hW0, hb0, hsz, hk⟩ := two_blocks w (.int .i64 K) (.slice ad ps.length cap) (.int .i64 0) (.slice none 0 0) 33
  have hlo := lowP_le ps
  have hp0 := hid (h.below hb0.out)
  have hst := hid (fun i (hi : i < lowP ps) => low_stop hi)
  have hat := hid (lowP_at ps)
  rw [hx] at hst hat hlo
  have hA0 : 0 ≤ (atP ps x).1 := by
    rcases Nat.lt_or_ge x ps.length with h1 | h1
    · rw [atP_some (List.getElem?_eq_getElem h1)]
      exact (h.num x _ (List.getElem?_eq_getElem h1)).1
    · rw [atP_none h1]; simp
  have hwi := hid (rwith_ok K ad ps cap x A 1 W0 hp0.out h0 hlo (by omega) ⟨by omega, hA2⟩ ps' hp')
  obtain ⟨k0, k1, bw⟩ := hk.out W0 (Below.refl _ _)
  obtain ⟨c0, c1⟩ := blk2 k0
  obtain ⟨z0, z1⟩ := blk2 k1
  obtain ⟨f0, f1⟩ := run2 k1
  clear h k0 k1 hx hp' bw
  go_enter Tryd.func14, Tryd.ntmps14
  go_wp2_with fail
  try rw [hW0]
  go_loopw [6] (fun u wr => ∃ i : Nat, i ≤ x ∧ u = .int .i64 (i : Int) ∧ wr = W0) (fun u _ => x - (intOf u).toNat)
  case atStart => exact ⟨0, by omega, by go_num, rfl⟩
  case round =>
    obtain ⟨i, hi, rfl, rfl⟩ := hrel
    rcases Nat.lt_or_ge i x with hlt | hge
    · obtain ⟨a, s, hp, hs⟩ := hst.out i hlt
      have ts : (s == 0) = false := by simpa using hs
      have ts' : (s != 0) = true := by simpa using hs
      have hlt2 : i < ps.length := by omega
      cases ad with
      | none => have := hp0.out.nil rfl; subst this; simp at hlt2
      | some ad =>
        have d1 := hp0.out.second hp
        clear hp hs
        go_wp2_with fail
        go_roundw
        case rel => exact ⟨i + 1, by omega, by go_num, trivial⟩
        case measure => simp [intOf]; omega
    · obtain rfl : i = x := by omega
      have tK : ((i : Int) == (K : Int)) = false := by rw [beq_eq_false_iff_ne]; omega
      rcases Nat.lt_or_ge i ps.length with h1 | h1
      · obtain ⟨⟨a, s⟩, hp⟩ : ∃ z, ps[i]? = some z := ⟨_, List.getElem?_eq_getElem h1⟩
        rw [atP_some hp] at hA hA0
        obtain rfl : s = 0 := by have := hat.out; rw [atP_some hp] at this; exact this
        simp only at hA hA0
        have hm : (a + 1) % 4294967296 = A := by omega
        cases ad with
        | none => have := hp0.out.nil rfl; subst this; simp at h1
        | some ad =>
          have d0 := hp0.out.first hp
          have d1 := hp0.out.second hp
          clear hp hA
          go_wp2_with fail
          try rw [hm]
          refine hwi.out.mono ?_
          rintro e w2 ⟨ad', cap', rfl, hr, hn, b2⟩
          obtain ⟨k0, k1, bw⟩ := hk.out w2 (b2.mono (by omega))
          clear c0 c1 z0 z1 f0 f1 d0 d1
          obtain ⟨z0, z1⟩ := blk2 k1
          obtain ⟨f0, f1⟩ := run2 k1
          have hk1 := hid k1
          have hrh := hid hr
          replace bw := hid bw
          clear hwi hr b2 k0 k1
          go_wp2_with fail
          have hfin := set2_block hk1.out (.int .i64 K) (.slice ad' ps'.length cap')
          refine bodyPost_ret (results_cell4 rfl _ _ (w.heap.size + 1) 33 _ (0, 0) _ rfl hfin Tryd.underlying33 rfl (by kernel_rfl)) rfl ?_
          refine ⟨ad', cap', by simp [hm], (hrh.out.mono (by omega)).same (fun a ha => ?_), hn, (bw.out.setCell (by simp) _).setCell (by simp) _⟩
          have := (hrh.out.2 a ha).1
          rw [Below.heap_setCell _ _ _ _ (by simp; omega), Below.heap_setCell _ _ _ _ (by simp; omega)]
      · obtain rfl : i = ps.length := by omega
        rw [atP_none (Nat.le_refl _)] at hA
        obtain rfl : A = 1 := by simpa using hA.symm
        clear hA
        go_wp2_with fail
        refine hwi.out.mono ?_
        rintro e w2 ⟨ad', cap', rfl, hr, hn, b2⟩
        obtain ⟨k0, k1, bw⟩ := hk.out w2 (b2.mono (by omega))
        clear c0 c1 z0 z1 f0 f1
        obtain ⟨z0, z1⟩ := blk2 k1
        obtain ⟨f0, f1⟩ := run2 k1
        have hk1 := hid k1
        have hrh := hid hr
        replace bw := hid bw
        clear hwi hr b2 k0 k1
        go_wp2_with fail
        have hfin := set2_block hk1.out (.int .i64 K) (.slice ad' ps'.length cap')
        refine bodyPost_ret (results_cell4 rfl _ _ (w.heap.size + 1) 33 _ (0, 0) _ rfl hfin Tryd.underlying33 rfl (by kernel_rfl)) rfl ?_
        refine ⟨ad', cap', rfl, (hrh.out.mono (by omega)).same (fun a ha => ?_), hn, (bw.out.setCell (by simp) _).setCell (by simp) _⟩
        have := (hrh.out.2 a ha).1
        rw [Below.heap_setCell _ _ _ _ (by simp; omega), Below.heap_setCell _ _ _ _ (by simp; omega)]

end Go.Proofs.YtjkiagjgnfaknaaDoor
