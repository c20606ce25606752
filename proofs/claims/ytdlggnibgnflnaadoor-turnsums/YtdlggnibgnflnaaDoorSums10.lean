/- 'TurnSums', walked. -/
import Derived.Test.YtdlggnibgnflnaaDoorLs10
import Derived.Test.YtdlggnibgnflnaaDoorSumP10
import Derived.Deep.RegionLaw
namespace Go.Proofs.YtdlggnibgnflnaaDoor
open Go.RowKit
set_option linter.unusedVariables false

set_option maxRecDepth 100000 in
set_option maxHeartbeats 4000000 in
theorem sums_law (n : Int) (v : Value) (l : List Ac) (w : World) (hg : Handle w) (hv : AV w v l) :
    Calls Tryd.prog 8 #[.int .i64 n, v] w fun x w' => x = .returned (.bool true) ∧ Below w.heap.size w w' := by
  obtain ⟨V, hV, hV1, hV6⟩ := mod_up n 6 (by decide) (by decide)
  have hlo : 0 < w.heap.size := hg.lt
  have hnew := hid (new_ok V 8 w (by omega) (by omega) (by decide) (by decide))
  have hrn := hid (fun y => rnew_ok 8 V y (by decide) (by omega))
  have hav := hid hv
  obtain ⟨sa, m, sc, rfl, hlen, hmc, hcm, _⟩ := hv
  unfold maxLen at hcm
  replace hlen := hid hlen
  replace hg := hid hg
  go_enter Tryd.func8, Tryd.ntmps8
  go_upto_region 2 with fail
  try rw [hV]
  clear hV
  go_wp2_with fail
  refine hnew.out.mono ?_
  rintro x w1 ⟨rfl, a1, b1⟩
  replace a1 := hid a1
  replace b1 := hid b1
  clear hnew
  go_wp2_with fail
  refine (hrn.out w1).mono ?_
  rintro x w2 ⟨xv, rfl, hx, b2⟩
  obtain ⟨ad0, cap0, rfl, hls0⟩ := Ls.new (a1.out.more b2) (b1.out.trans (b2.mono b1.out.size)) hx (Nat.le_refl 8)
  replace hls0 := hid hls0
  have hgl : w2.heap.size < (w2.alloc (.cells #[.int .i64 ((8 : Nat) : Int), .slice ad0 V cap0] 31)).heap.size := by simp
  clear b2 hx a1 b1 hrn
  go_wp2_with fail
  obtain ⟨w3, hw3⟩ : ∃ w3, w2.alloc (.cells #[.int .i64 8, .slice ad0 V cap0] 31) = w3 := ⟨_, rfl⟩
  have hls1 : Hid (Ls w w.heap.size w2.heap.size V 8 8 (fun _ => []) w3) := by rw [← hw3]; exact hls0
  try rw [hw3]
  clear hls0 hw3 hgl
  go_loopw [9] (fun s9 wr => ∃ (j : Nat) (R : Nat → List Nat), j ≤ m ∧ j ≤ 40 ∧ s9 = .int .i64 (j : Int) ∧ Hid (Ls w w.heap.size w2.heap.size V 8 8 R wr)) (fun s9 _ => 40 - (intOf s9).toNat)
  case atStart => exact ⟨0, _, by omega, by omega, by go_num, hls1⟩
  case round =>
    obtain ⟨j, R, hj, hj40, rfl, hst⟩ := hrel
    clear hls1
    by_cases hlt : j < m ∧ j < 40
    · obtain ⟨q, hq⟩ : ∃ q, l[j]? = some q := ⟨_, List.getElem?_eq_getElem (by rw [hlen.out]; exact hlt.1)⟩
      obtain ⟨ad, cap, hbo, hgb, hgl, hbw⟩ := hst.out
      have hdo := hid (do_ok (hbo.more (Below.refl _ _).drew) q (hg.out.below hbw.drew) hlo hV1 (by omega) (by decide) (by omega))
      obtain ⟨b0, o0, n0, c0, e0, hbl, k0, k1, k2, k3, k4, k5⟩ := hav.out.six hbw hq
      simp only [Value.slice.injEq] at e0
      obtain ⟨rfl, rfl, rfl⟩ := e0
      obtain ⟨x0, x1, _, _⟩ := blk2 hgb
      obtain ⟨qk, qe, qa0, qa1, qb0, qb1⟩ := q
      simp only [] at k0 k1 k2 k3 k4 k5
      have i1 : (0 : Int) ≤ (j : Int) := by omega
      have i2 : (j : Int) < (m : Int) := by omega
      have t1 : decide ((j : Int) < (m : Int)) = true := decide_eq_true (by omega)
      have t2 : decide ((j : Int) < 40) = true := decide_eq_true (by omega)
      have hgb' := hid hgb
      have hbw' := hid hbw
      clear hst hbo hgb hbw hq
      go_upto_region 9 with fail
      go_region_law ((go_simp; refine (hdo.out).mono ?_; rintro x w4 ⟨xv', R', rfl, hbo', hkp⟩; obtain ⟨lv', hxe, ad', cap', hlv, _⟩ := id hbo'.rt; subst hxe; subst hlv; have hg4 := (hkp.keep (k := w2.heap.size) ⟨_, _, hgb'.out⟩ (by decide) (by decide) (by decide)).trans hgb'.out; obtain ⟨m0, m1, m2, m3⟩ := blk2 hg4; have fin := hid (Ls.store hbo' hg4 hgl (hbw'.out.drew.trans (hkp.below hbw'.out.size))); clear hbo' hkp hg4; dsimp only))
      all_goals
        go_wp2_with fail
        go_roundw
        case rel => exact ⟨j + 1, R', by omega, by omega, by go_num, fin⟩
        case measure => simp [intOf]; omega
    · have hex : (decide ((j : Int) < (m : Int)) = false ∧ decide (j < m) = false) ∨ ((decide ((j : Int) < (m : Int)) = true ∧ decide (j < m) = true) ∧ (decide ((j : Int) < 40) = false ∧ decide (j < 40) = false)) := by
        by_cases h1 : j < m
        · exact .inr ⟨⟨decide_eq_true (by omega), decide_eq_true h1⟩, decide_eq_false (by omega), decide_eq_false (by omega)⟩
        · exact .inl ⟨decide_eq_false (by omega), decide_eq_false h1⟩
      clear hlt hj hj40 hav hlen hmc hcm
      obtain ⟨wo, hwo⟩ : ∃ wo, wo = wr := ⟨wr, rfl⟩
      subst hwo
      have hfacts : Hid (Tn V 8 R ∧ Tw V 8 R) := by
        obtain ⟨_, _, hbo, _⟩ := hst.out
        exact hid ⟨hbo.tn, hbo.tw⟩
      have hta : Hid (∀ y, Ls w w.heap.size w2.heap.size V 8 8 R y → TA y w.heap.size w.heap.size V 8 R) := fun y hy => by
        obtain ⟨_, _, hbo, _⟩ := hy
        exact hbo.ta
      have hbl : Hid (∀ y, Ls w w.heap.size w2.heap.size V 8 8 R y → Below w.heap.size w y) := fun y hy => by
        obtain ⟨_, _, _, _, _, hb⟩ := hy
        exact hb
      rcases hex with ⟨t1, t3⟩ | ⟨⟨t1, t3⟩, t2, t4⟩
      all_goals
        go_wp2_with fail
        clear t1 t3
        try clear t2 t4
        go_loopw [10, 12, 13, 14, 15, 16, 17] (fun s10 s12 _ _ _ _ _ wr => ∃ i s : Nat, i ≤ V ∧ s ≤ 16 ∧ s12 = .int .i64 (i : Int) ∧ s10 = .int .i64 (s : Int) ∧ Hid (s = sumL R i ∧ Ls w w.heap.size w2.heap.size V 8 8 R wr)) (fun _ s12 _ _ _ _ _ _ => V - (intOf s12).toNat)
        case atStart => exact ⟨0, 0, by omega, by omega, by go_num, by go_num, rfl, hst.out⟩
        case round =>
          obtain ⟨i, sm, hi, hs16, rfl, rfl, hst2⟩ := hrel
          rcases Nat.lt_or_ge i V with hilt | hige
          · have hde := hid (degree_ok (hta.out _ hst2.out.2) i hilt)
            obtain ⟨k, hk⟩ : ∃ k, (R i).length = k := ⟨_, rfl⟩
            have hsk : Hid (sm + k = sumL R (i + 1)) := by rw [hst2.out.1, ← hk]; exact hid rfl
            have hsk16 : sm + k ≤ 16 := by rw [hsk.out]; exact sumL_le hfacts.out.1 (i + 1) (by omega)
            rw [hk] at hde
            have hro := hid (fun y (hy : Below wr.heap.size wr y) => round_ok ((hta.out _ hst2.out.2).more hy) i hilt)
            rw [hk] at hro
            have hlf : Hid ((lf (R i)).length = k) := by rw [lf_length]; exact hid hk
            replace hk := hid hk
            have v1 : decide ((i : Int) < (V : Int)) = true := decide_eq_true (by omega)
            go_wp2_with fail
            refine hde.out.mono ?_
            rintro x w5 ⟨rfl, b5⟩
            replace b5 := hid b5
            clear hde
            go_wp2_with fail
            refine (hro.out w5 b5.out).mono ?_
            rintro x w6 ⟨rv, rfl, hrow, b6⟩
            have hnl : NL w6 rv (lf (R i)) := nl_of (by rw [hlf.out]; exact hrow)
            obtain ⟨ra, rn, rc, rfl, hrn, hrest⟩ := hnl
            obtain rfl : rn = k := by rw [← hrn]; exact hlf.out
            have hnl : Hid (NL w6 (.slice ra rn rc) (lf (R i))) := ⟨ra, rn, rc, rfl, hrn, hrest⟩
            have hls6 : Hid (Ls w w.heap.size w2.heap.size V 8 8 R w6) := (hst2.out.2.more b5.out).more b6
            clear hro hrow b5 b6 hrest hrn
            go_wp2_with fail
            go_loopw [17] (fun s17 wr => ∃ t : Nat, t ≤ rn ∧ s17 = .int .i64 (t : Int) ∧ Hid (Ls w w.heap.size w2.heap.size V 8 8 R wr ∧ NL wr (.slice ra rn rc) (lf (R i)))) (fun s17 _ => rn - (intOf s17).toNat)
            case atStart => exact ⟨0, by omega, by go_num, hls6.out, hnl.out⟩
            case round =>
              obtain ⟨t, ht, rfl, hst3⟩ := hrel
              clear hls6 hnl
              rcases Nat.lt_or_ge t rn with htl | htg
              · obtain ⟨y, hy⟩ : ∃ y, (lf (R i))[t]? = some y := ⟨_, List.getElem?_eq_getElem (by rw [hlf.out]; exact htl)⟩
                obtain ⟨y0, hy0⟩ : ∃ y, (lf (R i))[0]? = some y := ⟨_, List.getElem?_eq_getElem (by rw [hlf.out]; omega)⟩
                obtain ⟨ra', rn', rc', e1, _, _, _, hcl⟩ := hst3.out.2
                simp only [Value.slice.injEq] at e1
                obtain ⟨rfl, rfl, rfl⟩ := e1
                obtain ⟨b3, o3, rfl, cy⟩ := hcl t y hy
                obtain ⟨b3', o3', e2, cy0⟩ := hcl 0 y0 hy0
                cases e2
                simp only [Nat.add_zero] at cy0
                have hym : y ∈ R i := rot_mem.1 (List.mem_of_getElem? hy)
                have hle : y0 ≤ y := by
                  have hne : R i ≠ [] := fun e => by rw [e] at hym; simp at hym
                  have h1 := itn_get (hfacts.out.1.nd i hilt) (least0_mem _ hne) 0 (List.length_pos_of_mem hym)
                  have h2 : (lf (R i))[0]? = some (least0 (R i)) := h1
                  rw [hy0] at h2
                  rw [Option.some.inj h2]
                  exact least0_le _ _ hym
                have hyl := hfacts.out.1.low i y hilt hym
                obtain ⟨hhalf, hhE⟩ := half_in hfacts.out.2 hyl ⟨i, hilt, hym⟩
                have hha := hid (has_ok ((hta.out _ hst3.out.1).more (Below.refl _ _).drew) (y / 2) true hhE ⟨fun _ => hhalf, fun _ => rfl⟩)
                have hst3' := hid hst3.out.1
                have hnl3 := hid hst3.out.2
                have z1 : Int.tdiv (y : Int) 2 = ((y / 2 : Nat) : Int) := by rw [Int.tdiv_eq_ediv_of_nonneg (by omega)]; omega
                have z2 : IntKind.i64.wrap ((y / 2 : Nat) : Int) = ((y / 2 : Nat) : Int) := by rw [IntKind.wrap_i64]; omega
                have d1 : decide ((y : Int) < (y0 : Int)) = false := decide_eq_false (by omega)
                have d1' : decide (y < y0) = false := decide_eq_false (by omega)
                have i1 : (0 : Int) ≤ (t : Int) := by omega
                have i2 : (t : Int) < (rn : Int) := by omega
                have i3 : (0 : Int) < (rn : Int) := by omega
                have i3' : 0 < rn := by omega
                have i3'' : ¬ (rn = 0) := by omega
                have v3 : decide ((t : Int) < (rn : Int)) = true := decide_eq_true (by omega)
                generalize y / 2 = ye at hha z1 z2
                clear hst3 hcl hy hy0 hym hle hhalf hhE hyl
                go_wp2_with fail
                go_region_held3 (fun u => u.cell? ⟨b3, o3 + t, none⟩ = some (.int .i64 (y : Int)) ∧ u.cell? ⟨b3, o3, none⟩ = some (.int .i64 (y0 : Int))) (first | exact ⟨cy, cy0⟩ | exact ⟨ey, ey0⟩ | go_keep) ((go_at_call 14; refine hha.out.mono ?_; rintro x w7 ⟨rfl, b7⟩; have hls7 := hid (hst3'.out.more ((Below.refl _ _).drew.trans b7)); have hnl7 := hid (hnl3.out.below ((Below.refl _ _).drew.trans b7)); have ey := (b7.cell (World.block_lt_of_cell? _ _ cy)).trans cy; have ey0 := (b7.cell (World.block_lt_of_cell? _ _ cy0)).trans cy0; clear b7))
                go_wp2_with fail
                go_roundw
                case rel => exact ⟨t + 1, by omega, by go_num, hls7.out, hnl7.out⟩
                case measure => simp [intOf]; omega
              · obtain rfl : t = rn := by omega
                have v3 : decide ((t : Int) < (t : Int)) = false := decide_eq_false (by omega)
                have hls8 := hid hst3.out.1
                clear hst3
                go_wp2_with fail
                go_roundw
                case rel => exact ⟨i + 1, sm + t, by omega, hsk16, by go_num, by go_num, hsk.out, hls8.out⟩
                case measure => simp [intOf]; omega
          · obtain rfl : i = V := by omega
            have v1 : decide ((i : Int) < (i : Int)) = false := decide_eq_false (by omega)
            have hls9 := hid hst2.out.2
            have hsm : Hid (sm = 2 * cntE i R 8) := by rw [hst2.out.1]; exact hid (sum_twice hfacts.out.1 hfacts.out.2)
            clear hst2
            go_wp2_with fail
            go_loopw [11, 18] (fun s11 s18 wr => ∃ e c : Nat, e ≤ 8 ∧ c ≤ e ∧ s18 = .int .i64 (e : Int) ∧ s11 = .int .i64 (c : Int) ∧ Hid (c = cntE i R e ∧ Ls w w.heap.size w2.heap.size i 8 8 R wr)) (fun _ s18 _ => 8 - (intOf s18).toNat)
            case atStart => exact ⟨0, 0, by omega, by omega, by go_num, by go_num, rfl, hls9.out⟩
            case round =>
              obtain ⟨e, c, he, hce, rfl, rfl, hst4⟩ := hrel
              clear hls9
              rcases Nat.lt_or_ge e 8 with hel | heg
              · have v4 : decide ((e : Int) < 8) = true := decide_eq_true (by omega)
                by_cases hin : In i R (2 * e)
                · have hha := hid (has_ok (hta.out _ hst4.out.2) e true hel ⟨fun _ => hin, fun _ => rfl⟩)
                  have hc1 : Hid (c + 1 = cntE i R (e + 1)) := by rw [cntE_yes hin, hst4.out.1]; exact hid rfl
                  go_wp2_with fail
                  refine hha.out.mono ?_
                  rintro x w7 ⟨rfl, b7⟩
                  have hls7 := hid (hst4.out.2.more b7)
                  clear b7
                  go_wp2_with fail
                  go_roundw
                  case rel => exact ⟨e + 1, c + 1, by omega, by omega, by go_num, by go_num, hc1.out, hls7.out⟩
                  case measure => simp [intOf]; omega
                · have hha := hid (has_ok (hta.out _ hst4.out.2) e false hel ⟨fun q => (by cases q), fun q => absurd q hin⟩)
                  have hc1 : Hid (c = cntE i R (e + 1)) := by rw [cntE_no hin]; exact hid hst4.out.1
                  go_wp2_with fail
                  refine hha.out.mono ?_
                  rintro x w7 ⟨rfl, b7⟩
                  have hls7 := hid (hst4.out.2.more b7)
                  clear b7
                  go_wp2_with fail
                  go_roundw
                  case rel => exact ⟨e + 1, c, by omega, by omega, by go_num, by go_num, hc1.out, hls7.out⟩
                  case measure => simp [intOf]; omega
              · obtain rfl : e = 8 := by omega
                obtain rfl : sm = 2 * c := by rw [hsm.out, hst4.out.1]
                have hsu := hid (sure_ok wr)
                have hbwr := hid (hbl.out _ hst4.out.2)
                clear hst4 hsm
                go_wp2_with fail
                refine hsu.out.mono ?_
                rintro x w9 ⟨rfl, b9⟩
                have hb9 := hid (hbwr.out.trans (b9.mono hbwr.out.size))
                clear b9
                go_wp2_with fail
                go_ret
                exact ⟨by simp, hb9.out⟩

end Go.Proofs.YtdlggnibgnflnaaDoor
