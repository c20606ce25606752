/- 'TurnCopies', walked. -/
import Derived.Test.YtdlggnibgnflnabDoorCopyP10
namespace Go.Proofs.YtdlggnibgnflnabDoor
open Go.RowKit
set_option linter.unusedVariables false

set_option maxRecDepth 100000 in
set_option maxHeartbeats 8000000 in
theorem copies_law (n : Int) (v : Value) (l : List Ac) (w : World) (hg : Handle w) (hv : AV w v l) :
    Calls Tryd.prog 3 #[.int .i64 n, v] w fun x w' => x = .returned (.bool true) ∧ Below w.heap.size w w' := by
  obtain ⟨V, hV, hV1, hV6⟩ := mod_up n 6 (by decide) (by decide)
  have hlo : 0 < w.heap.size := hg.lt
  have hnew := hid (new_ok V 8 w (by omega) (by omega) (by decide) (by decide))
  have hrn := hid (fun y => rnew_ok 8 V y (by decide) (by omega))
  have hav := hid hv
  obtain ⟨sa, m, sc, rfl, hlen, hmc, hcm, _⟩ := hv
  unfold maxLen at hcm
  replace hlen := hid hlen
  replace hg := hid hg
  go_enter Tryd.func3, Tryd.ntmps3
  go_upto_region 2 with fail
  try rw [hV]
  clear hV
  go_wp2_with fail
  refine hnew.out.mono ?_
  rintro x w1 ⟨rfl, a1, b1⟩
  replace a1 := hid a1
  replace b1 := hid b1
  clear hnew
  go_wp2_with fail
  refine (hrn.out w1).mono ?_
  rintro x w2 ⟨xv, rfl, hx, b2⟩
  obtain ⟨ad0, cap0, rfl, hls0⟩ := Ls.new (a1.out.more b2) (b1.out.trans (b2.mono b1.out.size)) hx (Nat.le_refl 8)
  replace hls0 := hid hls0
  clear b2 hx a1 b1 hrn
  go_upto_block 0 with fail
  obtain ⟨w3, hw3⟩ : ∃ w3, w2.alloc (.cells #[.int .i64 8, .slice ad0 V cap0] 31) = w3 := ⟨_, rfl⟩
  have hls1 : Hid (Ls w w.heap.size w2.heap.size V 8 8 (fun _ => []) w3) := by rw [← hw3]; exact hls0
  try rw [hw3]
  clear hls0 hw3
  go_cut [9] from 43 to 62 (fun _ wx => ∃ R, Hid (Ls w w.heap.size w2.heap.size V 8 8 R wx))
  case first =>
    go_wp2_with fail
    go_loopw [9] (fun s9 wr => ∃ (j : Nat) (R : Nat → List Nat), j ≤ m ∧ j ≤ 40 ∧ s9 = .int .i64 (j : Int) ∧ Hid (Ls w w.heap.size w2.heap.size V 8 8 R wr)) (fun s9 _ => 40 - (intOf s9).toNat)
    case atStart => exact ⟨0, _, by omega, by omega, by go_num, hls1⟩
    case round =>
      obtain ⟨j, R, hj, hj40, rfl, hst⟩ := hrel
      clear hls1
      by_cases hlt : j < m ∧ j < 40
      · obtain ⟨q, hq⟩ : ∃ q, l[j]? = some q := ⟨_, List.getElem?_eq_getElem (by rw [hlen.out]; exact hlt.1)⟩
        obtain ⟨ad, cap, hbo, hgb, hgl, hbw⟩ := hst.out
        have hdo := hid (do_ok (hbo.more (Below.refl _ _).drew) q (hg.out.below hbw.drew) hlo hV1 (by omega) (by decide) (by omega))
        obtain ⟨b0, o0, n0, c0, e0, hbl, k0, k1, k2, k3, k4, k5⟩ := hav.out.six hbw hq
        simp only [Value.slice.injEq] at e0
        obtain ⟨rfl, rfl, rfl⟩ := e0
        obtain ⟨x0, x1, _, _⟩ := blk2 hgb
        obtain ⟨qk, qe, qa0, qa1, qb0, qb1⟩ := q
        simp only [] at k0 k1 k2 k3 k4 k5
        have i1 : (0 : Int) ≤ (j : Int) := by omega
        have i2 : (j : Int) < (m : Int) := by omega
        have t1 : decide ((j : Int) < (m : Int)) = true := decide_eq_true (by omega)
        have t2 : decide ((j : Int) < 40) = true := decide_eq_true (by omega)
        have hgb' := hid hgb
        have hbw' := hid hbw
        clear hst hbo hgb hbw hq
        go_upto_region 9 with fail
        go_region_law ((go_simp; refine (hdo.out).mono ?_; rintro x w4 ⟨xv', R', rfl, hbo', hkp⟩; obtain ⟨lv', hxe, ad', cap', hlv, _⟩ := id hbo'.rt; subst hxe; subst hlv; have hg4 := (hkp.keep (k := w2.heap.size) ⟨_, _, hgb'.out⟩ (by decide) (by decide) (by decide)).trans hgb'.out; obtain ⟨m0, m1, m2, m3⟩ := blk2 hg4; have fin := hid (Ls.store hbo' hg4 hgl (hbw'.out.drew.trans (hkp.below hbw'.out.size))); clear hbo' hkp hg4; dsimp only))
        all_goals
          go_wp2_with fail
          go_roundw
          case rel => exact ⟨j + 1, R', by omega, by omega, by go_num, fin⟩
          case measure => simp [intOf]; omega
      · have hex : (decide ((j : Int) < (m : Int)) = false ∧ decide (j < m) = false) ∨ ((decide ((j : Int) < (m : Int)) = true ∧ decide (j < m) = true) ∧ (decide ((j : Int) < 40) = false ∧ decide (j < 40) = false)) := by
          by_cases h1 : j < m
          · exact .inr ⟨⟨decide_eq_true (by omega), decide_eq_true h1⟩, decide_eq_false (by omega), decide_eq_false (by omega)⟩
          · exact .inl ⟨decide_eq_false (by omega), decide_eq_false h1⟩
        clear hlt hj hj40 hav hlen hmc hcm
        rcases hex with ⟨t1, t3⟩ | ⟨⟨t1, t3⟩, t2, t4⟩
        all_goals
          go_wp2_with fail
          go_meet
          case rel => exact ⟨R, hst⟩
  case rest =>
    obtain ⟨R, hst⟩ := hcut
    clear hls1 hav hlen hmc hcm
    obtain ⟨wo, hwo⟩ : ∃ wo, wo = wc := ⟨wc, rfl⟩
    subst hwo
    obtain ⟨i0, hif, hz0, hz1, hz2⟩ := info_parts infoInts
    obtain ⟨ad, cap, hbo, hgb, hgl, hbw⟩ := hst.out
    have htn := hid hbo.tn
    have htw := hid hbo.tw
    have hta := hid hbo.ta
    have hbw' := hid hbw
    clear hst hbo hgb hbw hgl
    go_wp2_with fail
    go_loopw [10, 11, 12, 13] (fun s10 s11 _ _ wr => ∃ (i : Nat) (us : List Value), i ≤ V ∧ s11 = .int .i64 (i : Int) ∧ Hid (Below wo.heap.size wo wr ∧ Bf wo.heap.size R i s10 us wr)) (fun _ s11 _ _ _ => V - (intOf s11).toNat)
    case atStart => exact ⟨0, [], by omega, by go_num, Below.refl _ _, World.ownsRow_nil _ _ _ _, rfl, fun k u hu => by simp at hu⟩
    case round =>
      obtain ⟨i, us, hi, rfl, hst2⟩ := hrel
      rcases Nat.lt_or_ge i V with hilt | hige
      · have v1 : decide ((i : Int) < (V : Int)) = true := decide_eq_true (by omega)
        have hro := hid (round_ok (hta.out.more hst2.out.1) i hilt)
        have hlf : Hid ((lf (R i)).length = (R i).length) := lf_length _
        go_wp2_with fail
        refine hro.out.mono ?_
        rintro x w5 ⟨rv, rfl, hrow, b5⟩
        have hnl : NL w5 rv (lf (R i)) := nl_of (by rw [hlf.out]; exact hrow)
        have hnl' := hid hnl
        obtain ⟨ra, rn, rc, rfl, hrest⟩ := hnl
        have hb5 : Hid (Below wo.heap.size wo w5) := hst2.out.1.trans (b5.mono hst2.out.1.size)
        have hbf := hid (hst2.out.2.al (.below b5))
        have hsz := hb5.out.size
        have hown := hbf.out.1
        clear hro hrow b5 hrest hst2
        go_wp2_with (at_builtin; refine wpList_append_own _ rfl (.tmp 74) (.tmp 76) 29 rfl wo.heap.size 38 i0 _ 1 24 Tryd.underlying29 hif hz0 hz1 hz2 rfl (by decide) _ _ _ rfl (hown.alloc _) ⟨w5.heap.size, 0, none⟩ 1 1 [.slice ra rn rc] rfl rfl (one_new w5 _ _) (by simp [Value.oneCell']) (by unfold maxLen; omega) (by omega) (by simp; omega) ?_; intro v' w' ho' hg' _)
        have hb6 : Below wo.heap.size wo w' := below_row (hb5.out.alloc hsz _) (Nat.le_refl _) (hown.alloc _) (Nat.le_refl _) hg'
        have hal : ∀ u l', NL w5 u l' → NL w' u l' := fun u l' hu => hu.ai (fun b hb => by
          refine (hg'.block b (by have := hb.lt; simp; omega) (fun e => ?_)).trans (Below.heap_alloc _ _ _ hb.lt)
          exact absurd ((row_ty hown e.symm).uniq hb) (by decide))
        have hnew : Hid (Below wo.heap.size wo w' ∧ Bf wo.heap.size R (i + 1) v' (us ++ [.slice ra rn rc]) w') := by
          refine hid ⟨hb6, ho', by rw [List.length_append, hbf.out.2.1]; rfl, fun k u hu => ?_⟩
          rw [List.getElem?_append] at hu
          split at hu
          · exact hal _ _ (hbf.out.2.2 k u hu)
          · next hk =>
            have hk2 : k = i := by
              have h1 := (List.getElem?_eq_some_iff.1 hu).1
              have h2 := hbf.out.2.1
              simp at h1
              omega
            subst hk2
            rw [hbf.out.2.1, Nat.sub_self] at hu
            cases hu
            exact hal _ _ hnl'.out
        clear ho' hg' hown hbf hb6 hal
        go_wp2_with fail
        go_roundw
        case rel => exact ⟨i + 1, _, by omega, by go_num, hnew.out⟩
        case measure => simp [intOf]; omega
      · obtain rfl : V = i := by omega
        have v1 : decide ((V : Int) < (V : Int)) = false := decide_eq_false (by omega)
        have hld := hid (load_any (V := V) (E := 8) hV1 (by omega) (by decide) (by decide) (hst2.out.2.rv hV1 (by omega)))
        obtain ⟨gB, cB, hbe, hbe1, hbe2⟩ := own_form hst2.out.2.1 (by omega)
        have hB2 := hid hst2.out.1
        have hgo : Hid (Good V 8 (tolds V R)) := good_tolds htn.out htw.out
        subst hbe
        clear hst2
        go_wp2_with fail
        refine hld.out.mono ?_
        rintro x w6 ⟨b6, hor⟩
        rcases hor with ⟨_, ub, rfl, hua⟩ | ⟨hno, _⟩
        · rw [tolds_len] at hua
          replace hua := hid hua
          have hB6 : Hid (Below wo.heap.size wo w6) := hB2.out.trans (b6.mono hB2.out.size)
          have hta6 := hid (hta.out.more hB6.out)
          have hbw6 : Hid (Below w.heap.size w w6) := hbw'.out.trans (hB6.out.mono hbw'.out.size)
          have hnu := hid (fun r c y (hy : Below w6.heap.size w6 y) (h : (r = .nilIface ∧ c = 0) ∨ (r = .iface 47 (.int .i64 c) ∧ c ≠ 0)) => num_any r c y (hg.out.below (hbw6.out.trans (hy.mono hbw6.out.size))) h)
          clear b6 hld hta hB2 hgo hB6
          go_wp2_with fail
          go_loopw [16, 17, 18, 19, 20, 21, 22, 23, 24] (fun s16 _ _ _ _ _ _ _ _ wr => ∃ d : Nat, d ≤ 16 ∧ s16 = .int .i64 (d : Int) ∧ Hid (Below w6.heap.size w6 wr)) (fun s16 _ _ _ _ _ _ _ _ _ => 16 - (intOf s16).toNat)
          case atStart => exact ⟨0, by omega, by go_num, Below.refl _ _⟩
          case round =>
            obtain ⟨d, hd, rfl, hs5⟩ := hrel
            rcases Nat.lt_or_ge d 16 with hdl | hdg
            · have v2 : decide ((d : Int) < 16) = true := decide_eq_true (by omega)
              obtain ⟨n1, p1, o1, r1, hn1, ha1, hc1⟩ := two_ok hta6.out (d : Int)
              obtain ⟨n2, p2, o2, r2, hn2, ha2, hc2⟩ := two_ok hua.out (d : Int)
              obtain ⟨rfl, rfl, rfl, c, hc⟩ := nxt_same htn.out hn1 hn2
              replace ha1 := hid ha1
              replace ha2 := hid ha2
              replace hc1 := hid hc1
              replace hc2 := hid hc2
              replace hc := hid hc
              clear hn1 hn2
              go_wp2_with fail
              refine (ha1.out _ hs5.out).mono ?_
              rintro x y1 ⟨rfl, bq⟩
              have b1 : Hid (Below w6.heap.size w6 y1) := hs5.out.trans (bq.mono hs5.out.size)
              clear bq
              go_wp2_with fail
              refine (ha2.out _ b1.out).mono ?_
              rintro x y2 ⟨rfl, bq⟩
              have b2 : Hid (Below w6.heap.size w6 y2) := b1.out.trans (bq.mono b1.out.size)
              clear bq b1
              go_wp2_with fail
              refine (hc1.out _ b2.out).mono ?_
              rintro x y3 ⟨rfl, bq⟩
              have b3 : Hid (Below w6.heap.size w6 y3) := b2.out.trans (bq.mono b2.out.size)
              clear bq b2
              go_wp2_with fail
              refine (hc2.out _ b3.out).mono ?_
              rintro x y4 ⟨rfl, bq⟩
              have b4 : Hid (Below w6.heap.size w6 y4) := b3.out.trans (bq.mono b3.out.size)
              clear bq b3
              go_wp2_with fail
              refine (hnu.out _ c _ b4.out hc.out).mono ?_
              rintro x y5 ⟨rfl, bq⟩
              have b5 : Hid (Below w6.heap.size w6 y5) := b4.out.trans (bq.mono b4.out.size)
              clear bq b4
              go_wp2_with fail
              refine (hnu.out _ c _ b5.out hc.out).mono ?_
              rintro x y6 ⟨rfl, bq⟩
              have b6 : Hid (Below w6.heap.size w6 y6) := b5.out.trans (bq.mono b5.out.size)
              clear bq b5
              go_wp2_with fail
              refine (hnu.out _ c _ b6.out hc.out).mono ?_
              rintro x y7 ⟨rfl, bq⟩
              have b7 : Hid (Below w6.heap.size w6 y7) := b6.out.trans (bq.mono b6.out.size)
              clear bq b6
              go_wp2_with fail
              refine (hnu.out _ c _ b7.out hc.out).mono ?_
              rintro x y8 ⟨rfl, bq⟩
              have b8 : Hid (Below w6.heap.size w6 y8) := b7.out.trans (bq.mono b7.out.size)
              clear bq b7
              go_wp2_with fail
              go_roundw
              case rel => exact ⟨d + 1, by omega, by go_num, b8.out⟩
              case measure => simp [intOf]; omega
            · obtain rfl : d = 16 := by omega
              have b8 : Hid (Below w.heap.size w _) := hbw6.out.trans (hs5.out.mono hbw6.out.size)
              go_wp2_with fail
              refine (sure_ok _).mono ?_
              rintro x w9 ⟨rfl, bq⟩
              have b9 : Hid (Below w.heap.size w w9) := b8.out.trans (bq.mono b8.out.size)
              clear bq
              go_wp2_with fail
              go_ret
              exact ⟨by first | rfl | simp, b9.out⟩
        · exact absurd hgo.out hno

end Go.Proofs.YtdlggnibgnflnabDoor
