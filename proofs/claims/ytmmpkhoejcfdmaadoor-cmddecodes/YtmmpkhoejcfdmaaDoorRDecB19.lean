/- The document's Decode of Load, walked. -/
import Derived.Test.YtmmpkhoejcfdmaaDoorRDecA19
namespace Go.Proofs.YtmmpkhoejcfdmaaDoor
open Go.RowKit
set_option linter.unusedVariables false

set_option maxRecDepth 100000 in
set_option maxHeartbeats 4000000 in
theorem rdec_load {ad : Option Addr} {n cap : Nat} {x : UInt8} {r : List UInt8} {p : Pt} {w : World} (hb : Bytes w ad cap (x :: r)) (hn : (x :: r).length = n) (hp : pt x.toNat = some p) (hrl : r.length ≤ 6000) (hpd : p.d = true) :
    Calls Tryd.prog 17 #[.slice ad n cap] w fun e w' => ∃ ad' cap', e = .returned (.tuple #[cv (dC (x :: r)) (.slice ad' (dC (x :: r)).d.length cap'), .int .i64 (dE (x :: r))]) ∧ Bytes w' ad' cap' (dC (x :: r)).d ∧ Below w.heap.size w w' := by
  have b1 := balloc w (.cells (kcs 0) 29)
  obtain ⟨ba, off, rfl, hcl⟩ := (hb.below b1).opened (by simp)
  have l0 := hcl 0 (by simp)
  simp only [Nat.add_zero, List.getElem_cons_zero] at l0
  obtain ⟨K, hK⟩ : ∃ K, x.toNat = K := ⟨_, rfl⟩
  rw [hK] at l0
  have hm1 : r.length + 1 = n := by rw [← hn]; rfl
  obtain ⟨m, hm⟩ : ∃ m, r.length = m := ⟨_, rfl⟩
  have hnm : n = m + 1 := by omega
  have hml : m ≤ 6000 := by omega
  have hn0 : ¬ (n : Int) = 0 := by omega
  have hnp : (0 : Int) < (n : Int) := by omega
  have hcl2 := hb.le
  rw [hn] at hcl2
  have hnc : (n : Int) ≤ (cap : Int) := by omega
  have hh := has_some hp
  rw [hpd] at hh
  have hi := (pt_is hp).2.2.2.2 hpd
  have hzs := szp_d hp hpd
  have hpn := pt_is hp
  have hk := pt_lt hp
  rw [hK] at hk hh
  have k1 : ¬ (K : Int) < 1 := by omega
  have k2 : ¬ (17 : Int) < (K : Int) := by omega
  have hwK : IntKind.i64.wrap (K : Int) = (K : Int) := by rw [IntKind.wrap_i64]; omega
  have hdr := dr_new (w := w) K
  obtain ⟨R, hR⟩ : ∃ R, w.heap.size = R := ⟨_, rfl⟩
  have hs1 : (w.alloc (.cells (kcs 0) 29)).heap.size = R + 1 := by simp [hR]
  replace hh := hid hh
  replace hb := hid hb
  replace hn := hid hn
  replace hm := hid hm
  replace hnm := hid hnm
  replace hK := hid hK
  replace hp := hid hp
  clear hcl hk hm1 hrl
  go_enter Tryd.func17, Tryd.ntmps17
  go_upto_region 1 with fail
  obtain ⟨w1, hw1⟩ : ∃ w1, w.alloc (.cells (kcs 0) 29) = w1 := ⟨_, rfl⟩
  rw [hw1] at b1 l0 hdr hs1 ⊢
  rw [hR] at hdr
  obtain ⟨mb, hmb⟩ : ∃ mb, R + 1 = mb := ⟨_, rfl⟩
  rw [hmb] at hdr hs1
  replace hR := hid hR
  clear hw1 b1 hmb
  go_upto_region 4 with fail
  obtain ⟨w2, hw2⟩ : ∃ w2, w1.alloc (.cells (kcs K) 29) = w2 := ⟨_, rfl⟩
  rw [hw2] at hdr ⊢
  try rw [hs1]
  clear hw2 hs1 l0
  obtain ⟨c0, c1, c2, c3, c4, c5, c6, c7, c8⟩ := hdr.m.cells
  replace hdr := hid hdr
  go_wp2_with fail
  refine (hh.out _).mono ?_
  rintro e w3 ⟨rfl, b3⟩
  have hd3 := hid (hdr.out.more b3)
  clear hh hdr b3 c0 c1 c2 c3 c4 c5 c6 c7 c8
  have k3 : ¬ (67108864 : Int) < (n : Int) := by have := hnm.out; omega
  have k4 : (1 : Int) ≤ (n : Int) := by omega
  obtain ⟨c0, c1, c2, c3, c4, c5, c6, c7, c8⟩ := hd3.out.m.cells
  obtain ⟨g0, g1, g2, g3, g4, g5, g6, g7, g8⟩ := hd3.out.m.fr
  obtain ⟨E, hE⟩ : ∃ E : Cm, ({dcm K p r with d := []} : Cm) = E := ⟨_, rfl⟩
  have hEe : (⟨K, 0, 0, 0, 0, 0, 0, 0, []⟩ : Cm) = E := by
    rw [← hE]
    simp [dcm, rd0, rd1, rdw, hi, hz]
  rw [hEe] at hd3
  have hho : Hid (holds p r.length = true) := by
    show _ = _
    unfold holds
    rw [if_pos hpd]
    have := hm.out
    simp
    omega
  have hfi : Hid (fit p (rd0 p r).s (rd1 p r).s = true) := fit_iff.2 (.inl hi.2.1)
  have hdE : Hid (dE (x :: r) = 0) := by
    show _ = _
    rw [dE_some hp.out, hho.out, if_pos rfl, hfi.out, if_pos rfl]
  have hdC : Hid (dC (x :: r) = dcm K p r) := by
    show _ = _
    rw [dC_some hp.out, hho.out, if_pos rfl, hfi.out, if_pos rfl, hK.out]
  replace hE := hid hE
  replace hzs := hid hzs
  clear hEe hho hfi hi hpn c0 c1 c2 c3 c4 c5 c6 c7 c8 g0 g1 g2 g3 g4 g5 g6 g7 g8
  obtain ⟨c0, c1, c2, c3, c4, c5, c6, c7, c8⟩ := hd3.out.m.cells
  obtain ⟨g0, g1, g2, g3, g4, g5, g6, g7, g8⟩ := hd3.out.m.fr
  go_upto_region 8 with fail
  by_cases hc1 : cap = 1
  · have hn1 : n = 1 := by omega
    have hr0 : Hid (r = []) := by
      have h1 := hm.out
      have h2 := hnm.out
      exact List.eq_nil_of_length_eq_zero (by omega)
    subst hc1
    subst hn1
    go_upto_region 9 with fail
    have D4 := hid (hd3.out.set 8 (.slice (some ⟨ba, off, none⟩) 0 0) E (.slice (some ⟨ba, off, none⟩) 0 0) rfl)
    obtain ⟨w4, hw4⟩ : ∃ w4, w3.setCell ⟨mb, 8, none⟩ (.slice (some ⟨ba, off, none⟩) 0 0) = w4 := ⟨_, rfl⟩
    rw [hw4] at D4 ⊢
    clear hw4 c0 c1 c2 c3 c4 c5 c6 c7 c8 g0 g1 g2 g3 g4 g5 g6 g7 g8 hd3
    obtain ⟨c0, c1, c2, c3, c4, c5, c6, c7, c8⟩ := D4.out.m.cells
    obtain ⟨z0, z1, z2, z3, z4, z5, z6, z7, z8⟩ := D4.out.r.cells
    obtain ⟨f0, f1, f2, f3, f4, f5, f6, f7, f8⟩ := D4.out.r.fr
    go_wp2_with fail
    refine bodyPost_ret (results_cell2 rfl _ _ R 29 _ (0, 0) _ rfl (set9_block D4.out.r.blk (.int .i64 E.code) (.int .u32 (E.a0 : Int)) (.int .u32 (E.p0 : Int)) (.int .u32 (E.a1 : Int)) (.int .u32 (E.p1 : Int)) (.int .i64 E.s0) (.int .i64 E.s1) (.int .i32 E.w) (.slice (some ⟨ba, off, none⟩) 0 0)) Tryd.underlying29 rfl (by kernel_rfl)) rfl ?_
    have hbz := set9_below D4.out.bel (g := R) (by have := D4.out.R0; omega) (.int .i64 E.code) (.int .u32 (E.a0 : Int)) (.int .u32 (E.p0 : Int)) (.int .u32 (E.a1 : Int)) (.int .u32 (E.p1 : Int)) (.int .i64 E.s0) (.int .i64 E.s1) (.int .i32 E.w) (.slice (some ⟨ba, off, none⟩) 0 0)
    rw [hdC.out, hdE.out]
    refine ⟨some ⟨ba, off, none⟩, 0, ?_, ?_, hbz⟩
    · show Ending.returned (.tuple #[cv E (.slice (some ⟨ba, off, none⟩) 0 0), .int .i64 0]) = .returned (.tuple #[cv (dcm K p r) (.slice (some ⟨ba, off, none⟩) (r.drop (szp p)).length 0), .int .i64 0])
      rw [hr0.out, ← hE.out, hr0.out]
      simp
    · show Bytes _ _ 0 (r.drop (szp p))
      rw [hr0.out]
      exact ⟨by simp, by simp, by simp, fun a e j u hu => by simp at hu⟩
  · have hbd := drop_lies hb.out 1 hc1
    have hpa : ((⟨ba, off, none⟩ : Addr).add 1) = ⟨ba, off + 1, none⟩ := by unfold Addr.add; simp
    simp only [Option.map_some, hpa, List.drop_succ_cons, List.drop_zero] at hbd
    replace hbd := hid hbd
    clear hpa
    go_upto_region 9 with fail
    have D4 := hid (hd3.out.set 8 (.slice (some ⟨ba, off + 1, none⟩) (n - 1) (cap - 1)) E (.slice (some ⟨ba, off + 1, none⟩) (n - 1) (cap - 1)) rfl)
    obtain ⟨w4, hw4⟩ : ∃ w4, w3.setCell ⟨mb, 8, none⟩ (.slice (some ⟨ba, off + 1, none⟩) (n - 1) (cap - 1)) = w4 := ⟨_, rfl⟩
    rw [hw4] at D4 ⊢
    clear hw4 c0 c1 c2 c3 c4 c5 c6 c7 c8 g0 g1 g2 g3 g4 g5 g6 g7 g8 hd3
    obtain ⟨c0, c1, c2, c3, c4, c5, c6, c7, c8⟩ := D4.out.m.cells
    obtain ⟨z0, z1, z2, z3, z4, z5, z6, z7, z8⟩ := D4.out.r.cells
    obtain ⟨f0, f1, f2, f3, f4, f5, f6, f7, f8⟩ := D4.out.r.fr
    go_wp2_with fail
    refine bodyPost_ret (results_cell2 rfl _ _ R 29 _ (0, 0) _ rfl (set9_block D4.out.r.blk (.int .i64 E.code) (.int .u32 (E.a0 : Int)) (.int .u32 (E.p0 : Int)) (.int .u32 (E.a1 : Int)) (.int .u32 (E.p1 : Int)) (.int .i64 E.s0) (.int .i64 E.s1) (.int .i32 E.w) (.slice (some ⟨ba, off + 1, none⟩) (n - 1) (cap - 1))) Tryd.underlying29 rfl (by kernel_rfl)) rfl ?_
    have hbz := set9_below D4.out.bel (g := R) (by have := D4.out.R0; omega) (.int .i64 E.code) (.int .u32 (E.a0 : Int)) (.int .u32 (E.p0 : Int)) (.int .u32 (E.a1 : Int)) (.int .u32 (E.p1 : Int)) (.int .i64 E.s0) (.int .i64 E.s1) (.int .i32 E.w) (.slice (some ⟨ba, off + 1, none⟩) (n - 1) (cap - 1))
    rw [hdC.out, hdE.out]
    refine ⟨some ⟨ba, off + 1, none⟩, cap - 1, ?_, ?_, hbz⟩
    · show Ending.returned (.tuple #[cv E (.slice (some ⟨ba, off + 1, none⟩) (n - 1) (cap - 1)), .int .i64 0]) = .returned (.tuple #[cv (dcm K p r) (.slice (some ⟨ba, off + 1, none⟩) (r.drop (szp p)).length (cap - 1)), .int .i64 0])
      rw [hzs.out, List.drop_zero, hm.out, ← hE.out, hnm.out]
      rfl
    · show Bytes _ _ _ (r.drop (szp p))
      rw [hzs.out, List.drop_zero]
      exact hbd.out.below hbz

end Go.Proofs.YtmmpkhoejcfdmaaDoor
