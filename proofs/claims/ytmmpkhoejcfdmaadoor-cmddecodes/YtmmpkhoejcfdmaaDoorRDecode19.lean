/- The document's Decode, walked. -/
import Derived.Test.YtmmpkhoejcfdmaaDoorRDecD19
namespace Go.Proofs.YtmmpkhoejcfdmaaDoor
open Go.RowKit
set_option linter.unusedVariables false

set_option maxRecDepth 100000 in
set_option maxHeartbeats 4000000 in
theorem rdec_9w {ad : Option Addr} {n cap : Nat} {x : UInt8} {r : List UInt8} {p : Pt} {w : World} (hb : Bytes w ad cap (x :: r)) (hn : (x :: r).length = n) (hp : pt x.toNat = some p) (hrl : r.length ≤ 6000) (hpd : p.d = false) (hs : 0 < p.s) (hpw : p.w = true) :
    Calls Tryd.prog 17 #[.slice ad n cap] w fun e w' => ∃ ad' cap', e = .returned (.tuple #[cv (dC (x :: r)) (.slice ad' (dC (x :: r)).d.length cap'), .int .i64 (dE (x :: r))]) ∧ Bytes w' ad' cap' (dC (x :: r)).d ∧ Below w.heap.size w w' := by
  have b1 := balloc w (.cells (kcs 0) 29)
  obtain ⟨ba, off, rfl, hcl⟩ := (hb.below b1).opened (by simp)
  have l0 := hcl 0 (by simp)
  simp only [Nat.add_zero, List.getElem_cons_zero] at l0
  obtain ⟨K, hK⟩ : ∃ K, x.toNat = K := ⟨_, rfl⟩
  rw [hK] at l0
  have hm1 : r.length + 1 = n := by rw [← hn]; rfl
  obtain ⟨m, hm⟩ : ∃ m, r.length = m := ⟨_, rfl⟩
  have hnm : n = m + 1 := by omega
  have hml : m ≤ 6000 := by omega
  have hn0 : ¬ (n : Int) = 0 := by omega
  have hnp : (0 : Int) < (n : Int) := by omega
  have hcl2 := hb.le
  rw [hn] at hcl2
  have hnc : (n : Int) ≤ (cap : Int) := by omega
  have hh := has_some hp
  rw [hpd, hpw] at hh
  have hpn := pt_is hp
  have hk := pt_lt hp
  rw [hK] at hk hh
  have k1 : ¬ (K : Int) < 1 := by omega
  have k2 : ¬ (17 : Int) < (K : Int) := by omega
  have hwK : IntKind.i64.wrap (K : Int) = (K : Int) := by rw [IntKind.wrap_i64]; omega
  have hdr := dr_new (w := w) K
  obtain ⟨R, hR⟩ : ∃ R, w.heap.size = R := ⟨_, rfl⟩
  have hs1 : (w.alloc (.cells (kcs 0) 29)).heap.size = R + 1 := by simp [hR]
  replace hh := hid hh
  replace hb := hid hb
  replace hn := hid hn
  replace hm := hid hm
  replace hnm := hid hnm
  replace hK := hid hK
  replace hp := hid hp
  clear hcl hk hm1 hrl
  go_enter Tryd.func17, Tryd.ntmps17
  go_upto_region 1 with fail
  obtain ⟨w1, hw1⟩ : ∃ w1, w.alloc (.cells (kcs 0) 29) = w1 := ⟨_, rfl⟩
  rw [hw1] at b1 l0 hdr hs1 ⊢
  rw [hR] at hdr
  obtain ⟨mb, hmb⟩ : ∃ mb, R + 1 = mb := ⟨_, rfl⟩
  rw [hmb] at hdr hs1
  replace hR := hid hR
  clear hw1 b1 hmb
  go_upto_region 4 with fail
  obtain ⟨w2, hw2⟩ : ∃ w2, w1.alloc (.cells (kcs K) 29) = w2 := ⟨_, rfl⟩
  rw [hw2] at hdr ⊢
  try rw [hs1]
  clear hw2 hs1 l0
  obtain ⟨c0, c1, c2, c3, c4, c5, c6, c7, c8⟩ := hdr.m.cells
  replace hdr := hid hdr
  go_wp2_with fail
  refine (hh.out _).mono ?_
  rintro e w3 ⟨rfl, b3⟩
  have hd3 := hid (hdr.out.more b3)
  clear hh hdr b3 c0 c1 c2 c3 c4 c5 c6 c7 c8
  have hse : Hid (szp p = p.h * 9 + 4) := by
    show _ = _
    rw [szp_eq, hpw]
    unfold eh
    rw [if_pos hs]
    simp
  have hh2 : p.h ≤ 2 := hpn.1
  have z1 : IntKind.i64.wrap ((p.h : Int) * 9) = (p.h : Int) * 9 := by rw [IntKind.wrap_i64]; omega
  have z2 : IntKind.i64.wrap (1 + (p.h : Int) * 9) = 1 + (p.h : Int) * 9 := by rw [IntKind.wrap_i64]; omega
  have z3 : IntKind.i64.wrap (1 + (p.h : Int) * 9 + 4) = 1 + (p.h : Int) * 9 + 4 := by rw [IntKind.wrap_i64]; omega
  have hsd := (sd_pos2 p).2 hs
  replace hpn := hid hpn
  by_cases heq : (n : Int) = 1 + (p.h : Int) * 9 + 4
  · have hmsz : Hid (m = p.h * 9 + 4) := by
      have := hnm.out
      show _ = _
      omega
    have hho : Hid (holds p r.length = true) := by
      show _ = _
      unfold holds
      rw [hpd, if_neg (by decide), hm.out, hse.out, hmsz.out]
      simp
    go_upto_region 18 with fail
    replace heq := hid heq
    have hd3' := hid (And.intro hd3.out (show fk p r 0 from fun _ => ⟨fun q => by omega, fun q => by omega⟩))
    clear hd3
    go_wp2_with fail
    go_loopw [11] (fun s11 wr => ∃ i : Nat, i ≤ p.h ∧ s11 = .int .i64 (i : Int) ∧ Hid (Dr w wr R mb (ck K p r i) nilS ∧ fk p r i)) (fun s11 _ => p.h - (intOf s11).toNat)
    case atStart => exact ⟨0, by omega, by go_num, hd3'⟩
    case round =>
      obtain ⟨i, hi, rfl, hst⟩ := hrel
      clear hd3'
      have hD := hst.out.1
      have hfkz := hid hst.out.2
      clear hst
      rcases Nat.lt_or_ge i p.h with hip | hip
      · have j2 : (i : Int) < (p.h : Int) := by omega
        rcases (by omega : i = 0 ∨ i = 1) with rfl | rfl
        · obtain ⟨q, hq⟩ : ∃ q, r.drop 0 = q := ⟨_, rfl⟩
          have hqh := hid hq
          have hmq : 0 + 9 ≤ m := by have := hmsz.out; omega
          obtain ⟨cc, hcc⟩ : ∃ cc, ck K p r 0 = cc := ⟨_, rfl⟩
          rw [hcc] at hD
          replace hcc := hid hcc
          have hbw := hb.out.below hD.bel
          have hlen : 0 < r.length := by have := hm.out; omega
          have hx0 := (hbw.opened (by simp))
          obtain ⟨ba', off', hbe, hcl⟩ := hx0
          cases hbe
          have l1 := hcl 1 (by have := hn.out; have := hnm.out; omega)
          have hxe : (x :: r)[1]'(by have := hn.out; have := hnm.out; omega) = r[0]'hlen := rfl
          rw [hxe] at l1
          obtain ⟨X, hX⟩ : ∃ X, (r[0]'hlen).toNat = X := ⟨_, rfl⟩
          rw [hX] at l1
          have hqx : num (q.take 1) = X := by
            rw [← hq, List.drop_eq_getElem_cons hlen, num_one, hX]
          have hXl : X < 256 := by rw [← hX]; exact (r[0]'hlen).toNat_lt
          have hwX : IntKind.i64.wrap (X : Int) = (X : Int) := by rw [IntKind.wrap_i64]; omega
          have hrdh : Hid (rdh p.s q = ⟨X, num ((q.drop 1).take 4), num ((q.drop 5).take 4)⟩) := by
            show _ = _
            unfold rdh
            rw [if_pos hs, hqx]
          have ib : (1 : Int) < (n : Int) := by have := hnm.out; omega
          replace hbw := hid hbw
          replace hrdh := hid hrdh.out
          replace hq := hid hq
          clear hcl hxe hqx hX hlen
          obtain ⟨c0, c1, c2, c3, c4, c5, c6, c7, c8⟩ := hD.m.cells
          obtain ⟨g0, g1, g2, g3, g4, g5, g6, g7, g8⟩ := hD.m.fr
          have D2 := hid (hD.set 5 (.int .i64 (X : Int)) {cc with s0 := X} nilS rfl)
          replace hD := hid hD
          go_upto_region 24 with fail
          obtain ⟨y2, hy2⟩ : ∃ y2, wr.setCell ⟨mb, 5, none⟩ (.int .i64 (X : Int)) = y2 := ⟨_, rfl⟩
          rw [hy2] at D2 ⊢
          clear c0 c1 c2 c3 c4 c5 c6 c7 c8 g0 g1 g2 g3 g4 g5 g6 g7 g8 hy2 hD l1 hbw
          obtain ⟨c0, c1, c2, c3, c4, c5, c6, c7, c8⟩ := D2.out.m.cells
          rcases Int.lt_or_le (sd p) (X : Int) with hXs | hXs
          · have hfn : Hid (fit p (rd0 p r).s (rd1 p r).s = false) := by
              refine fk_not hp.out ?_ hs
              have h9 := hrdh.out
              rw [← hq.out] at h9
              simp only [List.drop_zero] at h9
              left
              refine ⟨by omega, ?_⟩
              rw [h9]
              exact hXs
            have hdE : Hid (dE (x :: r) = 3) := by
              show _ = _
              rw [dE_some hp.out, hho.out, if_pos rfl, hfn.out, if_neg (by decide)]
            have hdC : Hid (dC (x :: r) = cz) := by
              show _ = _
              rw [dC_some hp.out, hho.out, if_pos rfl, hfn.out, if_neg (by decide)]
            obtain ⟨z0, z1, z2, z3, z4, z5, z6, z7, z8⟩ := D2.out.r.cells
            obtain ⟨f0, f1, f2, f3, f4, f5, f6, f7, f8⟩ := D2.out.r.fr
            go_wp2_with fail
            refine bodyPost_ret (results_cell2 rfl _ _ R 29 _ (0, 0) _ rfl (set9_block D2.out.r.blk (.int .i64 0) (.int .u32 0) (.int .u32 0) (.int .u32 0) (.int .u32 0) (.int .i64 0) (.int .i64 0) (.int .i32 0) (.slice none 0 0)) Tryd.underlying29 rfl (by kernel_rfl)) rfl ?_
            rw [hdC.out, hdE.out]
            exact ⟨none, 0, rfl, Bytes.none _, set9_below D2.out.bel (g := R) (by have := D2.out.R0; omega) (.int .i64 0) (.int .u32 0) (.int .u32 0) (.int .u32 0) (.int .u32 0) (.int .i64 0) (.int .i64 0) (.int .i32 0) (.slice none 0 0)⟩
          · have hXs' : ¬ sd p < (X : Int) := by omega
            have hn1 := hid (number_ok (hb.out.below D2.out.bel) hn.out 2 2 rfl (by have := hnm.out; omega))
            rw [drop1] at hn1
            obtain ⟨A, hA⟩ : ∃ A, num ((r.drop 1).take 4) = A := ⟨_, rfl⟩
            obtain ⟨P, hP⟩ : ∃ P, num ((r.drop 5).take 4) = P := ⟨_, rfl⟩
            rw [hA] at hn1
            have hrd2 : Hid (rdh p.s q = ⟨X, A, P⟩) := by
              rw [← hA, ← hP]
              have h9 := hrdh.out
              rw [← hq.out, List.drop_drop, List.drop_drop] at h9
              rw [← hq.out]
              exact h9
            replace hA := hid hA
            replace hP := hid hP
            go_wp2_with fail
            refine hn1.out.mono ?_
            rintro e1 y3 ⟨rfl, b3⟩
            have D3 := hid (D2.out.more b3)
            have hn2 := hid (number_ok (hb.out.below D3.out.bel) hn.out 6 6 rfl (by have := hnm.out; omega))
            rw [drop1, hP.out] at hn2
            clear hn1 b3 D2 c0 c1 c2 c3 c4 c5 c6 c7 c8
            go_wp2_with fail
            refine hn2.out.mono ?_
            rintro e2 y4 ⟨rfl, b4⟩
            have D4 := D3.out.more b4
            obtain ⟨c0, c1, c2, c3, c4, c5, c6, c7, c8⟩ := D4.m.cells
            obtain ⟨g0, g1, g2, g3, g4, g5, g6, g7, g8⟩ := D4.m.fr
            have D5 := (D4.set 1 (.int .u32 (A : Int)) {cc with s0 := X, a0 := A} nilS rfl).set 2 (.int .u32 (P : Int)) {cc with s0 := X, a0 := A, p0 := P} nilS rfl
            have hck : ({cc with s0 := X, a0 := A, p0 := P} : Cm) = ck K p r (0 + 1) := by
              have h9 := hrd2.out
              rw [← hq.out] at h9
              rw [← hcc.out]
              unfold ck h0k h1k
              simp only [List.drop_zero] at h9
              simp [h9, hz]
            rw [hck] at D5
            have hfk : fk p r (0 + 1) := by
              have h9 := hrd2.out
              rw [← hq.out] at h9
              simp only [List.drop_zero] at h9
              exact fun _ => ⟨fun _ => by rw [h9]; exact hXs, fun q => by omega⟩
            have D6 := hid (And.intro D5 hfk)
            replace D4 := hid D4
            clear hn2 b4 D3 D5 hfk hck
            go_wp2_with fail
            go_roundw
            case rel => exact ⟨_, by omega, by go_num, D6⟩
            case measure => simp [intOf]; omega
        · obtain ⟨q, hq⟩ : ∃ q, r.drop 9 = q := ⟨_, rfl⟩
          have hqh := hid hq
          have hmq : 9 + 9 ≤ m := by have := hmsz.out; omega
          obtain ⟨cc, hcc⟩ : ∃ cc, ck K p r 1 = cc := ⟨_, rfl⟩
          rw [hcc] at hD
          replace hcc := hid hcc
          have hbw := hb.out.below hD.bel
          have hlen : 9 < r.length := by have := hm.out; omega
          have hx0 := (hbw.opened (by simp))
          obtain ⟨ba', off', hbe, hcl⟩ := hx0
          cases hbe
          have l1 := hcl 10 (by have := hn.out; have := hnm.out; omega)
          have hxe : (x :: r)[10]'(by have := hn.out; have := hnm.out; omega) = r[9]'hlen := rfl
          rw [hxe] at l1
          obtain ⟨X, hX⟩ : ∃ X, (r[9]'hlen).toNat = X := ⟨_, rfl⟩
          rw [hX] at l1
          have hqx : num (q.take 1) = X := by
            rw [← hq, List.drop_eq_getElem_cons hlen, num_one, hX]
          have hXl : X < 256 := by rw [← hX]; exact (r[9]'hlen).toNat_lt
          have hwX : IntKind.i64.wrap (X : Int) = (X : Int) := by rw [IntKind.wrap_i64]; omega
          have hrdh : Hid (rdh p.s q = ⟨X, num ((q.drop 1).take 4), num ((q.drop 5).take 4)⟩) := by
            show _ = _
            unfold rdh
            rw [if_pos hs, hqx]
          have ib : (10 : Int) < (n : Int) := by have := hnm.out; omega
          replace hbw := hid hbw
          replace hrdh := hid hrdh.out
          replace hq := hid hq
          clear hcl hxe hqx hX hlen
          obtain ⟨c0, c1, c2, c3, c4, c5, c6, c7, c8⟩ := hD.m.cells
          obtain ⟨g0, g1, g2, g3, g4, g5, g6, g7, g8⟩ := hD.m.fr
          have D2 := hid (hD.set 6 (.int .i64 (X : Int)) {cc with s1 := X} nilS rfl)
          replace hD := hid hD
          go_upto_region 24 with fail
          obtain ⟨y2, hy2⟩ : ∃ y2, wr.setCell ⟨mb, 6, none⟩ (.int .i64 (X : Int)) = y2 := ⟨_, rfl⟩
          rw [hy2] at D2 ⊢
          clear c0 c1 c2 c3 c4 c5 c6 c7 c8 g0 g1 g2 g3 g4 g5 g6 g7 g8 hy2 hD l1 hbw
          obtain ⟨c0, c1, c2, c3, c4, c5, c6, c7, c8⟩ := D2.out.m.cells
          rcases Int.lt_or_le (sd p) (X : Int) with hXs | hXs
          · have hfn : Hid (fit p (rd0 p r).s (rd1 p r).s = false) := by
              refine fk_not hp.out ?_ hs
              have h9 := hrdh.out
              rw [← hq.out] at h9
              right
              refine ⟨by omega, ?_⟩
              have he : eh p.s = 9 := if_pos hs
              rw [he, h9]
              exact hXs
            have hdE : Hid (dE (x :: r) = 3) := by
              show _ = _
              rw [dE_some hp.out, hho.out, if_pos rfl, hfn.out, if_neg (by decide)]
            have hdC : Hid (dC (x :: r) = cz) := by
              show _ = _
              rw [dC_some hp.out, hho.out, if_pos rfl, hfn.out, if_neg (by decide)]
            obtain ⟨z0, z1, z2, z3, z4, z5, z6, z7, z8⟩ := D2.out.r.cells
            obtain ⟨f0, f1, f2, f3, f4, f5, f6, f7, f8⟩ := D2.out.r.fr
            go_wp2_with fail
            refine bodyPost_ret (results_cell2 rfl _ _ R 29 _ (0, 0) _ rfl (set9_block D2.out.r.blk (.int .i64 0) (.int .u32 0) (.int .u32 0) (.int .u32 0) (.int .u32 0) (.int .i64 0) (.int .i64 0) (.int .i32 0) (.slice none 0 0)) Tryd.underlying29 rfl (by kernel_rfl)) rfl ?_
            rw [hdC.out, hdE.out]
            exact ⟨none, 0, rfl, Bytes.none _, set9_below D2.out.bel (g := R) (by have := D2.out.R0; omega) (.int .i64 0) (.int .u32 0) (.int .u32 0) (.int .u32 0) (.int .u32 0) (.int .i64 0) (.int .i64 0) (.int .i32 0) (.slice none 0 0)⟩
          · have hXs' : ¬ sd p < (X : Int) := by omega
            have hn1 := hid (number_ok (hb.out.below D2.out.bel) hn.out 11 11 rfl (by have := hnm.out; omega))
            rw [drop1] at hn1
            obtain ⟨A, hA⟩ : ∃ A, num ((r.drop 10).take 4) = A := ⟨_, rfl⟩
            obtain ⟨P, hP⟩ : ∃ P, num ((r.drop 14).take 4) = P := ⟨_, rfl⟩
            rw [hA] at hn1
            have hrd2 : Hid (rdh p.s q = ⟨X, A, P⟩) := by
              rw [← hA, ← hP]
              have h9 := hrdh.out
              rw [← hq.out, List.drop_drop, List.drop_drop] at h9
              rw [← hq.out]
              exact h9
            replace hA := hid hA
            replace hP := hid hP
            go_wp2_with fail
            refine hn1.out.mono ?_
            rintro e1 y3 ⟨rfl, b3⟩
            have D3 := hid (D2.out.more b3)
            have hn2 := hid (number_ok (hb.out.below D3.out.bel) hn.out 15 15 rfl (by have := hnm.out; omega))
            rw [drop1, hP.out] at hn2
            clear hn1 b3 D2 c0 c1 c2 c3 c4 c5 c6 c7 c8
            go_wp2_with fail
            refine hn2.out.mono ?_
            rintro e2 y4 ⟨rfl, b4⟩
            have D4 := D3.out.more b4
            obtain ⟨c0, c1, c2, c3, c4, c5, c6, c7, c8⟩ := D4.m.cells
            obtain ⟨g0, g1, g2, g3, g4, g5, g6, g7, g8⟩ := D4.m.fr
            have D5 := (D4.set 3 (.int .u32 (A : Int)) {cc with s1 := X, a1 := A} nilS rfl).set 4 (.int .u32 (P : Int)) {cc with s1 := X, a1 := A, p1 := P} nilS rfl
            have hck : ({cc with s1 := X, a1 := A, p1 := P} : Cm) = ck K p r (1 + 1) := by
              have h9 := hrd2.out
              rw [← hq.out] at h9
              rw [← hcc.out]
              unfold ck h0k h1k
              have he : eh p.s = 9 := if_pos hs
              rw [he]
              simp [h9]
            rw [hck] at D5
            have hfk : fk p r (1 + 1) := by
              have h9 := hrd2.out
              rw [← hq.out] at h9
              have he : eh p.s = 9 := if_pos hs
              exact fun _ => ⟨fun _ => (hfkz.out hs).1 (by omega), fun _ => by rw [he, h9]; exact hXs⟩
            have D6 := hid (And.intro D5 hfk)
            replace D4 := hid D4
            clear hn2 b4 D3 D5 hfk hck
            go_wp2_with fail
            go_roundw
            case rel => exact ⟨_, by omega, by go_num, D6⟩
            case measure => simp [intOf]; omega
      · have hip2 : i = p.h := by omega
        have j3 : ¬ (i : Int) < (p.h : Int) := by omega
        have hff := fk_fit hp.out (by have := hfkz.out; rw [hip2] at this; exact this)
        have hdE : Hid (dE (x :: r) = 0) := by
          show _ = _
          rw [dE_some hp.out, hho.out, if_pos rfl, hff, if_pos rfl]
        have hdC : Hid (dC (x :: r) = dcm K p r) := by
          show _ = _
          rw [dC_some hp.out, hho.out, if_pos rfl, hff, if_pos rfl, hK.out]
        have hdd : Hid (r.drop (szp p) = []) := by
          show _ = _
          rw [hse.out, ← hmsz.out]
          exact List.drop_of_length_le (by rw [hm.out]; exact Nat.le_refl _)
        rw [hip2] at hD
        obtain ⟨E, hE⟩ : ∃ E : Cm, ({dcm K p r with d := []} : Cm) = E := ⟨_, rfl⟩
        clear hff hip
        obtain ⟨V, hV⟩ : ∃ V, num ((r.drop (p.h * 9)).take 4) = V := ⟨_, rfl⟩
        have hVl : V < 4294967296 := by rw [← hV]; exact num_take_lt _ 4
        have hcE : {ck K p r p.h with w := s32 V} = E := by
          rw [← hE]
          unfold ck dcm rdw
          rw [hpw, if_pos rfl, ← hV]
          unfold eh
          rw [if_pos hs]
          rfl
        obtain ⟨cc, hcc⟩ : ∃ cc, ck K p r p.h = cc := ⟨_, rfl⟩
        rw [hcc] at hD hcE
        have hn1 := hid (number_ok (hb.out.below hD.bel) hn.out (p.h * 9 + 1) (1 + (p.h : Int) * 9) (by omega) (by have := hmsz.out; have := hnm.out; omega))
        rw [drop1, hV] at hn1
        have hwV := wu64 V (by omega)
        have hsg := hid (fun y => rsigned_any V y)
        have hse2 := hid (s32_wrap hVl)
        have D8 := hid hD
        replace hE := hid hE
        replace hcE := hid hcE
        clear hD hcc hV
        go_wp2_with fail
        refine hn1.out.mono ?_
        rintro e1 y3 ⟨rfl, b3⟩
        have D7 := D8.out.more b3
        clear hn1 b3 D8
        obtain ⟨c0, c1, c2, c3, c4, c5, c6, c7, c8⟩ := D7.m.cells
        obtain ⟨g0, g1, g2, g3, g4, g5, g6, g7, g8⟩ := D7.m.fr
        have D6 := D7.set 7 (.int .i32 (s32 V)) {cc with w := s32 V} nilS rfl
        rw [hcE.out] at D6
        have D9 := hid D6
        replace D7 := hid D7
        clear D6
        go_wp2_with fail
        refine (hsg.out _).mono ?_
        rintro e2 y4 ⟨rfl, rfl⟩
        rw [hse2.out]
        go_upto_region 30 with fail
        obtain ⟨y5, hy5⟩ : ∃ y5, y3.setCell ⟨mb, 7, none⟩ (.int .i32 (s32 V)) = y5 := ⟨_, rfl⟩
        rw [hy5] at D9 ⊢
        clear hy5 c0 c1 c2 c3 c4 c5 c6 c7 c8 g0 g1 g2 g3 g4 g5 g6 g7 g8 D7
        obtain ⟨c0, c1, c2, c3, c4, c5, c6, c7, c8⟩ := D9.out.m.cells
        obtain ⟨z0, z1, z2, z3, z4, z5, z6, z7, z8⟩ := D9.out.r.cells
        obtain ⟨f0, f1, f2, f3, f4, f5, f6, f7, f8⟩ := D9.out.r.fr
        go_wp2_with fail
        refine bodyPost_ret (results_cell2 rfl _ _ R 29 _ (0, 0) _ rfl (set9_block D9.out.r.blk (.int .i64 E.code) (.int .u32 (E.a0 : Int)) (.int .u32 (E.p0 : Int)) (.int .u32 (E.a1 : Int)) (.int .u32 (E.p1 : Int)) (.int .i64 E.s0) (.int .i64 E.s1) (.int .i32 E.w) nilS) Tryd.underlying29 rfl (by kernel_rfl)) rfl ?_
        have hbz := set9_below D9.out.bel (g := R) (by have := D9.out.R0; omega) (.int .i64 E.code) (.int .u32 (E.a0 : Int)) (.int .u32 (E.p0 : Int)) (.int .u32 (E.a1 : Int)) (.int .u32 (E.p1 : Int)) (.int .i64 E.s0) (.int .i64 E.s1) (.int .i32 E.w) nilS
        rw [hdC.out, hdE.out]
        refine ⟨none, 0, ?_, ?_, hbz⟩
        · show Ending.returned (.tuple #[cv E nilS, .int .i64 0]) = .returned (.tuple #[cv (dcm K p r) (.slice none (r.drop (szp p)).length 0), .int .i64 0])
          rw [hdd.out, ← hE.out]
          rfl
        · show Bytes _ _ _ (r.drop (szp p))
          rw [hdd.out]
          exact Bytes.none _

  · have hne : ¬ m = szp p := by
      have := hnm.out
      rw [hse.out]
      omega
    have hho : Hid (holds p r.length = false) := by
      show _ = _
      unfold holds
      rw [hpd, if_neg (by decide), hm.out]
      simpa using hne
    have hdE : Hid (dE (x :: r) = 11) := by
      show _ = _
      rw [dE_some hp.out, hho.out, if_neg (by decide)]
    have hdC : Hid (dC (x :: r) = cz) := by
      show _ = _
      rw [dC_some hp.out, hho.out, if_neg (by decide)]
    clear hne hho
    obtain ⟨z0, z1, z2, z3, z4, z5, z6, z7, z8⟩ := hd3.out.r.cells
    obtain ⟨f0, f1, f2, f3, f4, f5, f6, f7, f8⟩ := hd3.out.r.fr
    go_wp2_with fail
    refine bodyPost_ret (results_cell2 rfl _ _ R 29 _ (0, 0) _ rfl (set9_block hd3.out.r.blk (.int .i64 0) (.int .u32 0) (.int .u32 0) (.int .u32 0) (.int .u32 0) (.int .i64 0) (.int .i64 0) (.int .i32 0) (.slice none 0 0)) Tryd.underlying29 rfl (by kernel_rfl)) rfl ?_
    rw [hdC.out, hdE.out]
    exact ⟨none, 0, rfl, Bytes.none _, set9_below hd3.out.bel (g := R) (by have := hd3.out.R0; omega) (.int .i64 0) (.int .u32 0) (.int .u32 0) (.int .u32 0) (.int .u32 0) (.int .i64 0) (.int .i64 0) (.int .i32 0) (.slice none 0 0)⟩

/-- Whatever the bytes are. -/
theorem rdecode_any {ad : Option Addr} {n cap : Nat} {b : List UInt8} {w : World} (hb : Bytes w ad cap b) (hn : b.length = n) (hl : n ≤ 6000) :
    Calls Tryd.prog 17 #[.slice ad n cap] w fun e w' => ∃ ad' cap', e = .returned (.tuple #[cv (dC b) (.slice ad' (dC b).d.length cap'), .int .i64 (dE b)]) ∧ Bytes w' ad' cap' (dC b).d ∧ Below w.heap.size w w' := by
  cases b with
  | nil =>
    subst hn
    refine (rdec_nil ad cap w).mono ?_
    rintro e w' ⟨rfl, hb'⟩
    exact ⟨none, 0, rfl, Bytes.none _, hb'⟩
  | cons k r =>
    have hrl : r.length ≤ 6000 := by rw [List.length_cons] at hn; omega
    cases hp : pt k.toNat with
    | none =>
      refine (rdec_none hb hn hp).mono ?_
      rintro e w' ⟨rfl, hb'⟩
      rw [dC_none hp, dE_none hp]
      exact ⟨none, 0, rfl, Bytes.none _, hb'⟩
    | some p =>
      cases hpd : p.d with
      | true => exact rdec_load hb hn hp hrl hpd
      | false =>
        cases hpw : p.w with
        | true =>
          by_cases hs : 0 < p.s
          · exact rdec_9w hb hn hp hrl hpd hs hpw
          · exact rdec_8w hb hn hp hrl hpd hs hpw
        | false =>
          by_cases hs : 0 < p.s
          · exact rdec_9n hb hn hp hrl hpd hs hpw
          · exact rdec_8n hb hn hp hrl hpd hs hpw

end Go.Proofs.YtmmpkhoejcfdmaaDoor
