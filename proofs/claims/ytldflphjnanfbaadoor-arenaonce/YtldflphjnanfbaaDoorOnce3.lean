/- 'ArenaOnce', walked. -/
import Derived.Test.YtldflphjnanfbaaDoorHand3
import Derived.Test.YtldflphjnanfbaaDoorRef3
import Derived.Test.YtldflphjnanfbaaDoorNewMarks
import Derived.Deep.RegionLaw
import Derived.Test.YtldflphjnanfbaaDoorRegion
namespace Go.Proofs.YtldflphjnanfbaaDoor
open Go.RowKit
set_option linter.unusedVariables false

theorem mod_inN (z : Int) (C : Nat) (h1 : 1 ≤ C) (h2 : C ≤ 1048576) : ∃ a : Nat, wrap64 ((IntKind.u64.wrap z).tmod (C : Int)) = (a : Int) ∧ a < C := by
  have e : (IntKind.u64.wrap z).tmod (C : Int) = z % 18446744073709551616 % (C : Int) := by
    rw [IntKind.wrap_u64, Int.tmod_eq_emod_of_nonneg (by omega)]
  have g1 : 0 ≤ z % 18446744073709551616 % (C : Int) := Int.emod_nonneg _ (by omega)
  have g2 : z % 18446744073709551616 % (C : Int) < C := Int.emod_lt_of_pos _ (by omega)
  rw [e]
  generalize z % 18446744073709551616 % (C : Int) = r at g1 g2
  refine ⟨r.toNat, ?_, by omega⟩
  rw [IntWalk.wrap64_in r ⟨by omega, by omega⟩]
  omega

theorem hand_new (w : World) (a : Int) (x : Nat) : ∀ j u, (hcs [(a, x)])[j]? = some u → (w.alloc (.cells #[.int .u32 a, .int .u32 (x : Int)] 43)).cell? ((⟨w.heap.size, 0, none⟩ : Addr).add j) = some u := by
  intro j u hu
  rw [add0]
  have hn := heap_alloc_new w (.cells #[.int .u32 a, .int .u32 (x : Int)] 43)
  unfold World.cell?
  rw [hn]
  simpa [hcs] using hu

set_option maxRecDepth 100000 in
set_option maxHeartbeats 8000000 in
theorem once_law (n : Int) (ad : Option Addr) (ps : List (Int × Int)) (cap : Nat) (dd : Option Addr) (zs : List Int) (dcap : Nat) (w : World) (hE : Env w) (h : Prow w ad ps) (hb : ps.length * 16 ≤ 140737488355328) (hz : Ints w dd zs) :
    Calls Tryd.prog 4 #[.int .i64 n, .slice ad ps.length cap, .slice dd zs.length dcap] w fun e w' => e = .returned (.bool true) ∧ Below w.heap.size w w' := by
  obtain ⟨i0, hif, hz0, hz1, hz2⟩ := info_parts infoHandle
  obtain ⟨K, hK, hK1, hK2⟩ := mod_up n 12 (by decide) (by decide)
  have hl := h.bound
  have hzl := hz.bound
  have hEh := hid hE
  have hph := hid h
  have hzh := hid hz
  clear hE h hz
  go_enter Tryd.func4, Tryd.ntmps4
  go_wp2_with fail
  refine (give_ok ad ps cap _ hph.out hb).mono ?_
  rintro e w1 ⟨ad1, cap1, rfl, hp1, h01, b1⟩
  have hE1 := hid (hEh.out.below b1)
  have hb1 := hid b1
  by_cases hf : Fair K ps
  · have hld := SA.load K ad1 ps cap1 w1 hE1.out.2 hp1 h01 hK1 (by omega) hf
    clear hp1 h01 b1 hph hf
    go_wp2_with fail
    try rw [hK]
    refine hld.mono ?_
    rintro e w2 ⟨ab, rfl, s2⟩
    have om0 : Hid (OM w1.heap.size w2.heap.size ab K w1 ps [] [] 0 0 (.slice none 0 0) (.slice none 0 0) w2) := ⟨s2, World.ownsRow_nil _ _ _ _, World.ownsRow_nil _ _ _ _, Or.inl rfl⟩
    have ol0 := hid (OL.nil K ps)
    have hK12 : K ≤ 12 := by omega
    clear hld s2 hK
    go_wp2_with fail
    go_loopw [10, 11, 12] (fun vL vD u wr => ∃ (t : Nat) (qs : List (Int × Int)) (L D : List (Int × Nat)) (nL nD : Nat), t ≤ zs.length ∧ t ≤ 80 ∧ nL ≤ t ∧ nD ≤ t ∧ u = .int .i64 (t : Int) ∧ Hid (OM w1.heap.size w2.heap.size ab K w1 qs L D nL nD vL vD wr) ∧ Hid (OL K qs L D))
      (fun _ _ u _ => 80 - (intOf u).toNat)
    case atStart => exact ⟨0, ps, [], [], 0, 0, by omega, by omega, by omega, by omega, by go_num, om0, ol0⟩
    case round =>
      obtain ⟨t, qs, L, D, nL, nD, ht1, ht2, hnL, hnD, rfl, om, ol⟩ := hrel
      clear om0 ol0
      by_cases hgo : t < zs.length ∧ t < 80
      · obtain ⟨hgo1, hgo2⟩ := hgo
        obtain ⟨z, hzt⟩ : ∃ z, zs[t]? = some z := ⟨_, List.getElem?_eq_getElem hgo1⟩
        obtain ⟨wo, hwo⟩ : ∃ wo, wo = wr := ⟨wr, rfl⟩
        subst hwo
        obtain ⟨la, lc, hvL⟩ := row_slice om.out.rl
        obtain ⟨da, dc, hvD⟩ := row_slice om.out.rd
        subst hvL hvD
        cases dd with
        | none => have := hzh.out.nil rfl; subst this; simp at hgo1
        | some a0 =>
          obtain ⟨x, hxe⟩ : ∃ x, lowP qs = x := ⟨_, rfl⟩
          rcases Nat.lt_or_ge x K with hxK | hxK
          · obtain ⟨A, hA⟩ : ∃ A, (atP qs x).1 + 1 = A := ⟨_, rfl⟩
            obtain ⟨ol2, hnl, hnd⟩ := ol.out.give x hxe hA
            have ol2h := hid ol2
            have hnlh := hid hnl
            have hndh := hid hnd
            have hxh := hid hxe
            have hAh := hid hA
            clear hxe hA ol2 hnl hnd
            go_wp2_with fail
            refine (om.out.sa.add x hxh.out hxK hAh.out rfl).mono ?_
            rintro e w3 ⟨rfl, s3, k3⟩
            have om3 := hid ((om.out.turn s3 k3).more ((Below.refl w3.heap.size w3).alloc (Nat.le_refl _) (.cells #[.int .u32 A, .int .u32 (x : Int)] 43)))
            have hc3 := hid (heap_alloc_new w3 (.cells #[.int .u32 A, .int .u32 (x : Int)] 43))
            obtain ⟨hb3, hhb⟩ : ∃ hb3, w3.heap.size = hb3 := ⟨_, rfl⟩
            obtain ⟨w4, hw4⟩ : ∃ w4, w3.alloc (.cells #[.int .u32 A, .int .u32 (x : Int)] 43) = w4 := ⟨_, rfl⟩
            rw [hw4] at om3 hc3
            rw [hhb] at hc3
            obtain ⟨hlL, hlD⟩ := om3.out.lens
            clear om ol s3 k3
            go_wp2_with fail
            try rw [hw4]
            try rw [hhb]
            clear hw4 hhb
            go_loopw [15] (fun u wr => ∃ j : Nat, j ≤ nL ∧ u = .int .i64 (j : Int) ∧ Below w4.heap.size w4 wr)
              (fun u _ => nL - (intOf u).toNat)
            case atStart => exact ⟨0, by omega, by go_num, Below.refl _ _⟩
            case round =>
              obtain ⟨j, hj, rfl, hbr⟩ := hrel
              rcases Nat.lt_or_ge j nL with hlt | hge
              · obtain ⟨⟨Aj, xj⟩, hpj⟩ : ∃ p, L[j]? = some p := ⟨_, List.getElem?_eq_getElem (by omega)⟩
                obtain ⟨gj, hgj, c0, c1⟩ := row_hand (om3.out.more hbr).rl hpj
                have hne := hand_ne (show (Aj, xj) ≠ (A, x) from fun e => hnlh.out (e ▸ List.mem_of_getElem? hpj))
                obtain ⟨y0, y1⟩ := blk2 ((hbr.block _ (Array.getElem?_eq_some_iff.1 hc3.out).1).trans hc3.out)
                clear hpj
                subst hgj
                rcases hne with ta | ⟨ta, tb⟩
                all_goals
                  go_wp2_with fail
                  go_region
                  go_wp2_with fail
                  go_roundw
                  case rel => exact ⟨j + 1, by omega, by go_num, hbr.drew⟩
                  case measure => simp [intOf]; omega
              · obtain rfl : j = nL := by omega
                have om4 := hid (om3.out.more hbr)
                have hc4 := hid ((hbr.block _ (Array.getElem?_eq_some_iff.1 hc3.out).1).trans hc3.out)
                obtain ⟨wp, hwp⟩ : ∃ wp, wp = wr := ⟨wr, rfl⟩
                subst hwp
                clear om3 hc3 hge hj hbr
                go_wp2_with fail
                go_loopw [16] (fun u wr => ∃ k : Nat, k ≤ nD ∧ u = .int .i64 (k : Int) ∧ Below wp.heap.size wp wr)
                  (fun u _ => nD - (intOf u).toNat)
                case atStart => exact ⟨0, by omega, by go_num, Below.refl _ _⟩
                case round =>
                  obtain ⟨k, hk, rfl, hbr⟩ := hrel
                  rcases Nat.lt_or_ge k nD with hlt | hge
                  · obtain ⟨⟨Aj, xj⟩, hpj⟩ : ∃ p, D[k]? = some p := ⟨_, List.getElem?_eq_getElem (by omega)⟩
                    obtain ⟨gj, hgj, c0, c1⟩ := row_hand (om4.out.more hbr).rd hpj
                    have hne := hand_ne (show (Aj, xj) ≠ (A, x) from fun e => hndh.out (e ▸ List.mem_of_getElem? hpj))
                    obtain ⟨y0, y1⟩ := blk2 ((hbr.block _ (Array.getElem?_eq_some_iff.1 hc4.out).1).trans hc4.out)
                    clear hpj
                    subst hgj
                    rcases hne with ta | ⟨ta, tb⟩
                    all_goals
                      go_wp2_with fail
                      go_region
                      go_wp2_with fail
                      go_roundw
                      case rel => exact ⟨k + 1, by omega, by go_num, hbr.drew⟩
                      case measure => simp [intOf]; omega
                  · obtain rfl : k = nD := by omega
                    have om5 := hid (om4.out.more hbr)
                    obtain ⟨y0, y1⟩ := blk2 ((hbr.block _ (Array.getElem?_eq_some_iff.1 hc4.out).1).trans hc4.out)
                    obtain ⟨wq, hwq⟩ : ∃ wq, wq = wr := ⟨wr, rfl⟩
                    subst hwq
                    have hrl5 := om5.out.rl.alloc (.cells #[.int .u32 A, .int .u32 (x : Int)] 43)
                    have hhi5 := om5.out.sa.hiLe.1
                    clear om4 hc4 hge hk hbr
                    go_wp2_with (at_builtin; refine wpList_append_lies _ rfl (.tmp 86) (.tmp 88) 62 rfl w2.heap.size 43 i0 _ 2 8 Tryd.underlying62 hif hz0 hz1 hz2 rfl (by decide) _ _ _ rfl hrl5 ⟨wq.heap.size, 0, none⟩ 1 1 (hcs [(A, x)]) rfl rfl (hand_new wq A x) (hcs_one _) (by decide) (by unfold maxLen; omega) (by omega) (by simp; omega) _ rfl ?_; intro g5 cap5 w5 hown5 hgrow5 hg5 hlt5; refine Hid.out ?_)
                    have om6 := hid (om5.out.push hown5 hgrow5 hg5)
                    clear om5 hrl5 hown5 hgrow5 hg5 y0 y1
                    refine hid ?_
                    generalize hgl : Value.slice (some ⟨g5, 0, none⟩) (j + 1) cap5 = vL at om6 ⊢
                    obtain ⟨mL, hnl2⟩ : ∃ mL, j + 1 = mL := ⟨_, rfl⟩
                    obtain ⟨L', hL'⟩ : ∃ L', L ++ [(A, x)] = L' := ⟨_, rfl⟩
                    obtain ⟨qs', hqs'⟩ : ∃ qs', putP qs x (A, 1) = qs' := ⟨_, rfl⟩
                    rw [hnl2, hL', hqs'] at om6
                    rw [hL', hqs'] at ol2h
                    obtain ⟨la2, lc2, hvL⟩ := row_slice om6.out.rl
                    subst hvL
                    have hnL2 : mL ≤ t + 1 := by omega
                    clear hgl hnl2 hL' hqs' hnlh hndh hxh hAh hlL hlD
                    obtain ⟨hlL0, hlD0⟩ := om6.out.lens
                    have hcell := (hzh.out.below (hb1.out.trans (om6.out.sa.below.mono hb1.out.size))).cell a0 rfl t z hzt
                    by_cases hm3 : z.tmod 3 = 0
                    · have tm3 : (z.tmod 3 != 0) = false := by simpa using hm3
                      clear hm3
                      obtain ⟨hlL, hlD⟩ := om6.out.lens
                      go_wp2_with fail
                      go_loopw [20] (fun u wr => ∃ j4 : Nat, j4 ≤ mL ∧ u = .int .i64 (j4 : Int) ∧ Below w5.heap.size w5 wr)
                        (fun u _ => mL - (intOf u).toNat)
                      case atStart => exact ⟨0, by omega, by go_num, Below.refl _ _⟩
                      case round =>
                        obtain ⟨j4, hj, rfl, hbr⟩ := hrel
                        rcases Nat.lt_or_ge j4 mL with hlt | hge
                        · obtain ⟨⟨Aj, xj⟩, hpj⟩ : ∃ p, L'[j4]? = some p := ⟨_, List.getElem?_eq_getElem (by omega)⟩
                          obtain ⟨gj, hgj, c0, c1⟩ := row_hand (om6.out.more hbr).rl hpj
                          have hat := hid (ol2h.out.live _ (List.mem_of_getElem? hpj))
                          have hxj : xj < 4294967296 := by have := live_lt (show (atP qs' xj).2 = 1 by rw [hat.out]); have := om6.out.sa.hiLe; omega
                          have hcb := hid (fun y (hy : Below wr.heap.size wr y) => row_hand ((om6.out.more hbr).more hy).rl hpj)
                          clear hpj
                          subst hgj
                          go_wp2_with fail
                          refine ((om6.out.more hbr).sa.find (A := Aj) xj hat.out).mono ?_
                          rintro e w9 ⟨rfl, b9⟩
                          have hb9 := hbr.trans (b9.mono hbr.size)
                          obtain ⟨g9, hg9, d0, d1⟩ := hcb.out w9 b9
                          obtain rfl : gj = g9 := by injection hg9 with e1; injection e1
                          clear c0 c1 b9 hcb hg9
                          go_wp2_with fail
                          go_roundw
                          case rel => exact ⟨j4 + 1, by omega, by go_num, hb9⟩
                          case measure => simp [intOf]; omega
                        · obtain rfl : j4 = mL := by omega
                          have om2 := hid (om6.out.more hbr)
                          obtain ⟨wm, hwm⟩ : ∃ wm, wm = wr := ⟨wr, rfl⟩
                          subst hwm
                          clear om6 hge hj hbr
                          go_wp2_with fail
                          go_loopw [23] (fun u wr => ∃ k5 : Nat, k5 ≤ k ∧ u = .int .i64 (k5 : Int) ∧ Below wm.heap.size wm wr)
                            (fun u _ => k - (intOf u).toNat)
                          case atStart => exact ⟨0, by omega, by go_num, Below.refl _ _⟩
                          case round =>
                            obtain ⟨k5, hk, rfl, hbr⟩ := hrel
                            rcases Nat.lt_or_ge k5 k with hlt | hge
                            · obtain ⟨⟨Aj, xj⟩, hpj⟩ : ∃ p, D[k5]? = some p := ⟨_, List.getElem?_eq_getElem (by omega)⟩
                              obtain ⟨gj, hgj, c0, c1⟩ := row_hand (om2.out.more hbr).rd hpj
                              have hde := hid (ol2h.out.dead _ (List.mem_of_getElem? hpj))
                              have hxn : xj < K := hde.out.2.2
                              clear hpj
                              subst hgj
                              go_wp2_with fail
                              refine ((om2.out.more hbr).sa.findErr (A := Aj) xj (by omega) 13 (Or.inr ⟨hxn, hde.out.2.1, rfl⟩)).mono ?_
                              rintro e w9 ⟨rfl, b9⟩
                              have hb9 := hbr.trans (b9.mono hbr.size)
                              clear c0 c1 b9
                              go_wp2_with fail
                              refine (num_err 13 _ ((om2.out.more hb9).sa.handleIs hE1.out.1)).mono ?_
                              rintro e w10 ⟨rfl, b10⟩
                              have hb10 := hb9.trans (b10.mono hb9.size)
                              clear b10
                              go_wp2_with fail
                              go_roundw
                              case rel => exact ⟨k5 + 1, by omega, by go_num, hb10⟩
                              case measure => simp [intOf]; omega
                            · obtain rfl : k5 = k := by omega
                              have om3 := hid (om2.out.more hbr)
                              clear om2 hge hk hbr
                              go_wp2_with fail
                              go_roundw
                              case rel => exact ⟨t + 1, qs', L', D, j4, k5, by omega, by omega, by omega, by omega, by go_num, om3, ol2h⟩
                              case measure => simp [intOf]; omega
                    · have tm3 : (z.tmod 3 != 0) = true := by simpa using hm3
                      clear hm3
                      rcases Nat.eq_zero_or_pos mL with hnz | hpos
                      · have tl : decide ((0 : Int) < (mL : Int)) = false := decide_eq_false (by omega)
                        have tl2 : decide (0 < mL) = false := decide_eq_false (by omega)
                        have hnzh := hid hnz
                        clear hnz
                        obtain ⟨hlL, hlD⟩ := om6.out.lens
                        go_wp2_with fail
                        go_loopw [20] (fun u wr => ∃ j4 : Nat, j4 ≤ mL ∧ u = .int .i64 (j4 : Int) ∧ Below w5.heap.size w5 wr)
                          (fun u _ => mL - (intOf u).toNat)
                        case atStart => exact ⟨0, by omega, by go_num, Below.refl _ _⟩
                        case round =>
                          obtain ⟨j4, hj, rfl, hbr⟩ := hrel
                          rcases Nat.lt_or_ge j4 mL with hlt | hge
                          · obtain ⟨⟨Aj, xj⟩, hpj⟩ : ∃ p, L'[j4]? = some p := ⟨_, List.getElem?_eq_getElem (by omega)⟩
                            obtain ⟨gj, hgj, c0, c1⟩ := row_hand (om6.out.more hbr).rl hpj
                            have hat := hid (ol2h.out.live _ (List.mem_of_getElem? hpj))
                            have hxj : xj < 4294967296 := by have := live_lt (show (atP qs' xj).2 = 1 by rw [hat.out]); have := om6.out.sa.hiLe; omega
                            have hcb := hid (fun y (hy : Below wr.heap.size wr y) => row_hand ((om6.out.more hbr).more hy).rl hpj)
                            clear hpj
                            subst hgj
                            go_wp2_with fail
                            refine ((om6.out.more hbr).sa.find (A := Aj) xj hat.out).mono ?_
                            rintro e w9 ⟨rfl, b9⟩
                            have hb9 := hbr.trans (b9.mono hbr.size)
                            obtain ⟨g9, hg9, d0, d1⟩ := hcb.out w9 b9
                            obtain rfl : gj = g9 := by injection hg9 with e1; injection e1
                            clear c0 c1 b9 hcb hg9
                            go_wp2_with fail
                            go_roundw
                            case rel => exact ⟨j4 + 1, by omega, by go_num, hb9⟩
                            case measure => simp [intOf]; omega
                          · obtain rfl : j4 = mL := by omega
                            have om2 := hid (om6.out.more hbr)
                            obtain ⟨wm, hwm⟩ : ∃ wm, wm = wr := ⟨wr, rfl⟩
                            subst hwm
                            clear om6 hge hj hbr
                            go_wp2_with fail
                            go_loopw [23] (fun u wr => ∃ k5 : Nat, k5 ≤ k ∧ u = .int .i64 (k5 : Int) ∧ Below wm.heap.size wm wr)
                              (fun u _ => k - (intOf u).toNat)
                            case atStart => exact ⟨0, by omega, by go_num, Below.refl _ _⟩
                            case round =>
                              obtain ⟨k5, hk, rfl, hbr⟩ := hrel
                              rcases Nat.lt_or_ge k5 k with hlt | hge
                              · obtain ⟨⟨Aj, xj⟩, hpj⟩ : ∃ p, D[k5]? = some p := ⟨_, List.getElem?_eq_getElem (by omega)⟩
                                obtain ⟨gj, hgj, c0, c1⟩ := row_hand (om2.out.more hbr).rd hpj
                                have hde := hid (ol2h.out.dead _ (List.mem_of_getElem? hpj))
                                have hxn : xj < K := hde.out.2.2
                                clear hpj
                                subst hgj
                                go_wp2_with fail
                                refine ((om2.out.more hbr).sa.findErr (A := Aj) xj (by omega) 13 (Or.inr ⟨hxn, hde.out.2.1, rfl⟩)).mono ?_
                                rintro e w9 ⟨rfl, b9⟩
                                have hb9 := hbr.trans (b9.mono hbr.size)
                                clear c0 c1 b9
                                go_wp2_with fail
                                refine (num_err 13 _ ((om2.out.more hb9).sa.handleIs hE1.out.1)).mono ?_
                                rintro e w10 ⟨rfl, b10⟩
                                have hb10 := hb9.trans (b10.mono hb9.size)
                                clear b10
                                go_wp2_with fail
                                go_roundw
                                case rel => exact ⟨k5 + 1, by omega, by go_num, hb10⟩
                                case measure => simp [intOf]; omega
                              · obtain rfl : k5 = k := by omega
                                have om3 := hid (om2.out.more hbr)
                                clear om2 hge hk hbr
                                go_wp2_with fail
                                go_roundw
                                case rel => exact ⟨t + 1, qs', L', D, j4, k5, by omega, by omega, by omega, by omega, by go_num, om3, ol2h⟩
                                case measure => simp [intOf]; omega
                      · have tl : decide ((0 : Int) < (mL : Int)) = true := decide_eq_true (by omega)
                        obtain ⟨i, him, hiL⟩ := mod_inN z mL hpos (by omega)
                        obtain ⟨⟨B, y⟩, hpi⟩ : ∃ p, L'[i]? = some p := ⟨_, List.getElem?_eq_getElem (by omega)⟩
                        obtain ⟨gi, hgi, c0, c1⟩ := row_hand om6.out.rl hpi
                        have hpih := hid hpi
                        have hat := hid (ol2h.out.live _ (List.mem_of_getElem? hpi))
                        have hyl := live_lt (show (atP qs' y).2 = 1 by rw [hat.out])
                        have hps := om6.out.sa.hiLe
                        have hbs := hid (Below.refl w5.heap.size w5)
                        clear hpi
                        subst hgi
                        go_wp2_with fail
                        have omA := hid (om6.out.more ((Below.refl w5.heap.size w5).alloc (Nat.le_refl _) (.cells #[.int .u32 B, .int .u32 (y : Int)] 43)))
                        have hA := hid (heap_alloc_new w5 (.cells #[.int .u32 B, .int .u32 (y : Int)] 43))
                        clear om6 c0 c1 hcell
                        refine (omA.out.sa.drop (A := B) (ps' := putP qs' y (B, if B = 4294967295 then 2 else 0)) y hat.out rfl).mono ?_
                        rintro e w6 ⟨rfl, s6, k6⟩
                        have om6 := hid (omA.out.turn s6 k6)
                        have hA6 := hid (k6 _ _ _ _ hps.1 hA.out (by decide))
                        obtain ⟨x0, x1⟩ := blk2 hA6.out
                        have hne : Hid (atP (putP qs' y (B, if B = 4294967295 then 2 else 0)) y ≠ (B, 1)) := by
                          refine hid ?_
                          rw [putP_at (Nat.le_of_lt hyl), if_pos rfl]
                          intro e
                          have := congrArg Prod.snd e
                          simp at this
                          split at this <;> simp at this
                        clear omA s6 k6 hA
                        go_wp2_with fail
                        refine (om6.out.sa.dropErr (A := B) y (by omega) 13 (Or.inr ⟨by omega, hne.out, rfl⟩)).mono ?_
                        rintro e w7 ⟨rfl, b7⟩
                        have om7 := hid (om6.out.more b7)
                        have hA7 := hid ((b7.block _ (Array.getElem?_eq_some_iff.1 hA6.out).1).trans hA6.out)
                        clear om6 b7 hA6 x0 x1
                        go_wp2_with fail
                        refine (num_err 13 _ (om7.out.sa.handleIs hE1.out.1)).mono ?_
                        rintro e w8 ⟨rfl, b8⟩
                        have om8 := hid (om7.out.more b8)
                        have hA8 := hid ((b8.block _ (Array.getElem?_eq_some_iff.1 hA7.out).1).trans hA7.out)
                        obtain ⟨x0, x1⟩ := blk2 hA8.out
                        have hrd8 := om8.out.rd.alloc (.cells #[.int .u32 B, .int .u32 (y : Int)] 43)
                        have hhi8 := om8.out.sa.hiLe.1
                        clear om7 b8 hA7
                        go_wp2_with (at_builtin; refine wpList_append_lies _ rfl (.tmp 134) (.tmp 136) 62 rfl w2.heap.size 43 i0 _ 2 8 Tryd.underlying62 hif hz0 hz1 hz2 rfl (by decide) _ _ _ rfl hrd8 ⟨w8.heap.size, 0, none⟩ 1 1 (hcs [(B, y)]) rfl rfl (hand_new w8 B y) (hcs_one _) (by decide) (by unfold maxLen; omega) (by omega) (by simp; omega) _ rfl ?_; intro g9 cap9 w9 hown9 hgrow9 hg9 hlt9; refine Hid.out ?_)
                        have om9 := hid (om8.out.pushD hown9 hgrow9 hg9)
                        clear om8 hrd8 hown9 hgrow9 hg9 x0 x1 hA8
                        refine hid ?_
                        have hrl9 := om9.out.rl
                        have hhi9 := om9.out.sa.hiLe.1
                        have hlcap : mL ≤ lc2 := by
                          rcases om9.out.rl.2 with ⟨e, _⟩ | ⟨g', cap', cur, e, _, _, e2, _⟩
                          · injection e with e1; cases e1
                          · injection e with _ _ e3; omega
                        have hcL : Hid (∀ j u, (hcs L')[j]? = some u → w9.cell? ((⟨gi, 0, none⟩ : Addr).add j) = some u) := om9.out.rl.cells rfl
                        have hcT : ∀ j u, (hcs (L'.take i))[j]? = some u → w9.drew.cell? ((⟨gi, 0, none⟩ : Addr).add j) = some u := by
                          intro j u hu
                          rw [← hcs_take, List.getElem?_take] at hu
                          split at hu
                          · exact hcL.out j u hu
                          · cases hu
                        have hlenT : (hcs (L'.take i)).length = i * 2 := by rw [hcs_length, List.length_take]; congr 1; omega
                        have hlenD : (hcs (L'.drop (i + 1))).length = (mL - (i + 1)) * 2 := by rw [hcs_length, List.length_drop]; congr 1; omega
                        have ol9 := hid (ol2h.out.take i hpih.out hps.2.2.2.2 (show (if B = 4294967295 then (2 : Int) else 0) ≠ 1 by split <;> decide))
                        go_wp2_with fail
                        have hnLi : i + 1 ≤ mL := by omega
                        obtain ⟨ad8, had8, hcD⟩ : ∃ ad8 : Addr, (if lc2 = i + 1 then (⟨gi, 0, none⟩ : Addr) else ⟨gi, (i + 1) * 2, none⟩) = ad8 ∧ Hid (∀ (u1 : World), w9.drew.grownBy u1 none → ∀ j u, (hcs (L'.drop (i + 1)))[j]? = some u → u1.cell? (ad8.add j) = some u) := by
                          refine ⟨_, rfl, hid (fun u1 hg1 j u hu => ?_)⟩
                          by_cases hcap : lc2 = i + 1
                          · have hj := (List.getElem?_eq_some_iff.1 hu).1
                            rw [hlenD] at hj
                            omega
                          · rw [if_neg hcap]
                            rw [← hcs_drop, List.getElem?_drop] at hu
                            have := hcL.out _ u hu
                            rw [add0] at this
                            rw [show (⟨gi, (i + 1) * 2, none⟩ : Addr).add j = ⟨gi, (i + 1) * 2 + j, none⟩ from by simp [Addr.add]]
                            exact hg1.cell this (by simp)
                        have q0 : (i : Int) ≤ (i : Int) + 1 := by omega
                        have qw : IntKind.i64.wrap ((i : Int) + 1) = (i : Int) + 1 := by rw [IntKind.wrap_i64]; omega
                        have q1 : (i : Int) ≤ (lc2 : Int) := by omega
                        have q2 : (i : Int) + 1 ≤ (mL : Int) := by omega
                        have q3 : (i : Int) + 1 ≤ (lc2 : Int) := by omega
                        have q4 : (mL : Int) ≤ (lc2 : Int) := by omega
                        have q5 : (0 : Int) ≤ (i : Int) := by omega
                        have q6 : (0 : Int) ≤ (i : Int) + 1 := by omega
                        refine wp_region_noPanic ?_
                        refine wp_region_held_drew (S := fun _ => True) (by kernel_rfl) trivial (fun hHeld => ?_)
                        refine takeH (i := 0) (v := ?_) (a' := ?_) ({ dst := some 138, op := Op.move (Operand.tmp 19), type := 62, pos := "law.go:194", after := #[], guard := none }) rfl (by kernel_rfl) (by kernel_rfl) (by kernel_rfl) (fun _ _ _ h => h) (by rfl) ?_ (by assumption) ?_ ?_
                        rotate_left 2
                        · (intro w' hSw; go_simp; try with_reducible rfl)
                        · (simp only [Act.put, List.setIfInBounds_toArray, List.set_cons_zero, List.set_cons_succ]; try rfl)
                        refine takeH (i := 1) (v := ?_) (a' := ?_) ({ dst := some 139, op := Op.move (Operand.tmp 10), type := 62, pos := "law.go:194", after := #[], guard := none }) rfl (by kernel_rfl) (by kernel_rfl) (by kernel_rfl) (fun _ _ _ h => h) (by rfl) ?_ (by assumption) ?_ ?_
                        rotate_left 2
                        · (intro w' hSw; go_simp; try with_reducible rfl)
                        · (simp only [Act.put, List.setIfInBounds_toArray, List.set_cons_zero, List.set_cons_succ]; try rfl)
                        refine takeH (i := 2) (v := ?_) (a' := ?_) ({ dst := some 140, op := Op.move (Operand.tmp 17), type := 3, pos := "law.go:194", after := #[], guard := none }) rfl (by kernel_rfl) (by kernel_rfl) (by kernel_rfl) (fun _ _ _ h => h) (by rfl) ?_ (by assumption) ?_ ?_
                        rotate_left 2
                        · (intro w' hSw; go_simp; try with_reducible rfl)
                        · (simp only [Act.put, List.setIfInBounds_toArray, List.set_cons_zero, List.set_cons_succ]; try rfl)
                        refine takeH (i := 3) (v := ?_) (a' := ?_) ({ dst := some 141, op := Op.slice 62 (Operand.tmp 139) none (some (Operand.tmp 140)) none, type := 62, pos := "law.go:194", after := #[{ on := 1, ground := Ground.data }, { on := 2, ground := Ground.data }], guard := none }) rfl (by kernel_rfl) (by kernel_rfl) (by kernel_rfl) (fun _ _ _ h => h) (by rfl) ?_ (by assumption) ?_ ?_
                        rotate_left 2
                        · (intro w' hSw; go_simp; try with_reducible rfl)
                        · (simp only [Act.put, List.setIfInBounds_toArray, List.set_cons_zero, List.set_cons_succ]; try rfl)
                        refine takeH (i := 5) (v := ?_) (a' := ?_) ({ dst := some 143, op := Op.move (Operand.tmp 10), type := 62, pos := "law.go:194", after := #[], guard := none }) rfl (by kernel_rfl) (by kernel_rfl) (by kernel_rfl) (fun _ _ _ h => h) (by rfl) ?_ (by assumption) ?_ ?_
                        rotate_left 2
                        · (intro w' hSw; go_simp; try with_reducible rfl)
                        · (simp only [Act.put, List.setIfInBounds_toArray, List.set_cons_zero, List.set_cons_succ]; try rfl)
                        refine takeH (i := 6) (v := ?_) (a' := ?_) ({ dst := some 144, op := Op.move (Operand.tmp 17), type := 3, pos := "law.go:194", after := #[], guard := none }) rfl (by kernel_rfl) (by kernel_rfl) (by kernel_rfl) (fun _ _ _ h => h) (by rfl) ?_ (by assumption) ?_ ?_
                        rotate_left 2
                        · (intro w' hSw; go_simp; try with_reducible rfl)
                        · (simp only [Act.put, List.setIfInBounds_toArray, List.set_cons_zero, List.set_cons_succ]; try rfl)
                        refine takeH (i := 7) (v := ?_) (a' := ?_) ({ dst := some 145, op := Op.binOp BinOp.add 3 (Operand.tmp 144) (Operand.const (Value.int IntKind.i64 1)) 3, type := 3, pos := "law.go:194", after := #[{ on := 6, ground := Ground.data }], guard := none }) rfl (by kernel_rfl) (by kernel_rfl) (by kernel_rfl) (fun _ _ _ h => h) (by rfl) ?_ (by assumption) ?_ ?_
                        rotate_left 2
                        · (intro w' hSw; go_simp; try with_reducible rfl)
                        · (simp only [Act.put, List.setIfInBounds_toArray, List.set_cons_zero, List.set_cons_succ]; try rfl)
                        refine takeH (i := 8) (v := .slice (some ad8) (mL - (i + 1)) (lc2 - (i + 1))) (a' := ?_) ({ dst := some 146, op := Op.slice 62 (Operand.tmp 143) (some (Operand.tmp 145)) none none, type := 62, pos := "law.go:194", after := #[{ on := 5, ground := Ground.data }, { on := 7, ground := Ground.data }], guard := none }) rfl (by kernel_rfl) (by kernel_rfl) (by kernel_rfl) (fun _ _ _ h => h) (by rfl) ?_ (by assumption) ?_ ?_
                        rotate_left 1
                        · (intro w' hSw; go_simp; rw [← had8]; split <;> rfl)
                        · (simp only [Act.put, List.setIfInBounds_toArray, List.set_cons_zero, List.set_cons_succ]; try rfl)
                        refine wpAnyH_ready (rs := [4]) (by kernel_rfl) (by simp) ?_
                        refine AllReadyH.cons (o := { dst := some 142, op := Op.call { callee := Callee.builtin Builtin.append, args := #[Operand.tmp 138, Operand.tmp 141], argTypes := #[62, 62] }, type := 62, pos := "law.go:194", after := #[{ on := 0, ground := Ground.data }, { on := 3, ground := Ground.data }], guard := none }) rfl (fun K hK => ?_) AllReadyH.nil
                        refine step_append_own rfl (.tmp 138) (.tmp 141) 62 rfl w9.heap.size 43 i0 _ 2 8 Tryd.underlying62 hif hz0 hz1 hz2 rfl (by decide) (.slice none 0 0) 0 [] (by rfl) (World.ownsRow_nil _ _ _ _) ⟨gi, 0, none⟩ i lc2 (hcs (L'.take i)) (by rfl) hlenT hcT (hcs_one _) (by unfold maxLen; omega) (by omega) (by simp) ?_
                        intro v1 u1 hown1 hgrow1
                        refine hK.out _ _ trivial (fun hHeld => ?_)
                        clear hK K
                        try simp only [Act.put, List.setIfInBounds_toArray, List.set_cons_zero, List.set_cons_succ]
                        refine wpAnyH_ready (rs := [9]) (by kernel_rfl) (by simp) ?_
                        refine AllReadyH.cons (o := { dst := some 147, op := Op.call { callee := Callee.builtin Builtin.append, args := #[Operand.tmp 142, Operand.tmp 146], argTypes := #[62, 62] }, type := 62, pos := "law.go:194", after := #[{ on := 4, ground := Ground.data }, { on := 8, ground := Ground.data }, { on := 4, ground := Ground.chain }], guard := none }) rfl (fun K hK => ?_) AllReadyH.nil
                        refine step_append_own rfl (.tmp 142) (.tmp 146) 62 rfl w9.heap.size 43 i0 _ 2 8 Tryd.underlying62 hif hz0 hz1 hz2 rfl (by decide) v1 (0 + i) ([] ++ hcs (L'.take i)) (by rfl) hown1 ad8 (mL - (i + 1)) (lc2 - (i + 1)) (hcs (L'.drop (i + 1))) (by rfl) hlenD (hcD.out u1 hgrow1) (hcs_one _) (by unfold maxLen; omega) (by omega) (by have := hgrow1.size; simp at this; omega) ?_
                        intro v2 u2 hown2 hgrow2
                        refine hK.out _ _ trivial (fun hHeld => ?_)
                        clear hK K
                        try simp only [Act.put, List.setIfInBounds_toArray, List.set_cons_zero, List.set_cons_succ]
                        refine takeH (i := 10) (v := ?_) (a' := ?_) ({ dst := some 19, op := Op.assign (Operand.tmp 147), type := 62, pos := "law.go:194", after := #[{ on := 9, ground := Ground.data }, { on := 9, ground := Ground.chain }, { on := 0, ground := Ground.phase }, { on := 1, ground := Ground.phase }, { on := 2, ground := Ground.phase }, { on := 3, ground := Ground.phase }, { on := 4, ground := Ground.phase }, { on := 5, ground := Ground.phase }, { on := 6, ground := Ground.phase }, { on := 7, ground := Ground.phase }, { on := 8, ground := Ground.phase }, { on := 9, ground := Ground.phase }], guard := none }) rfl (by kernel_rfl) (by kernel_rfl) (by kernel_rfl) (fun _ _ _ h => h) (by rfl) ?_ (by assumption) ?_ ?_
                        rotate_left 2
                        · (intro w' hSw; go_simp; try with_reducible rfl)
                        · (simp only [Act.put, List.setIfInBounds_toArray, List.set_cons_zero, List.set_cons_succ]; try rfl)
                        refine wpAnyH_done (by kernel_rfl) ?_ _
                        refine NoPanic.normal ?_
                        have hbF : Below w9.heap.size w9 u2 := ((Below.refl w9.heap.size w9).drew.grown hgrow1 (Nat.le_refl _) (fun k hk => by cases hk)).grown hgrow2 hgrow1.size (fun k hk => (hown1.lt k hk).1)
                        have omF : Hid (OM w1.heap.size w2.heap.size ab K w1 (putP qs' y (B, if B = 4294967295 then 2 else 0)) (L'.take i ++ L'.drop (i + 1)) (D ++ [(B, y)]) (0 + i + (mL - (i + 1))) (k + 1) v2 (.slice (some ⟨g9, 0, none⟩) (k + 1) cap9) u2) := by
                          refine ⟨om9.out.sa.more hbF, ?_, (Keep.below hbF).row om9.out.rd, ?_⟩
                          · rw [hcs_append]
                            exact row_mono (by simpa using hown2) hhi9
                          · cases hv2 : v2.ownBlock with
                            | none => exact Or.inl rfl
                            | some k2 =>
                              refine Or.inr (fun e => ?_)
                              have h1 := (hown2.lt k2 hv2).1
                              have h2 := (om9.out.rd.lt k2 e.symm).2
                              omega
                        obtain ⟨qs9, hq9⟩ : ∃ qs9, putP qs' y (B, if B = 4294967295 then 2 else 0) = qs9 := ⟨_, rfl⟩
                        obtain ⟨L9, hL9⟩ : ∃ L9, L'.take i ++ L'.drop (i + 1) = L9 := ⟨_, rfl⟩
                        obtain ⟨D9, hD9⟩ : ∃ D9, D ++ [(B, y)] = D9 := ⟨_, rfl⟩
                        obtain ⟨nL9, hnL9⟩ : ∃ nL9, 0 + i + (mL - (i + 1)) = nL9 := ⟨_, rfl⟩
                        obtain ⟨nD9, hnD9⟩ : ∃ nD9, k + 1 = nD9 := ⟨_, rfl⟩
                        have ol9x := hid ol9.out
                        rw [hq9, hL9, hD9] at omF ol9x
                        rw [hnL9, hnD9] at omF
                        have hlt9 : nL9 ≤ t + 1 ∧ nD9 ≤ t + 1 := by omega
                        generalize hgd : Value.slice (some ⟨g9, 0, none⟩) nD9 cap9 = vD9 at omF
                        obtain ⟨la9, lc9, hvL9⟩ := row_slice omF.out.rl
                        obtain ⟨da9, dc9, hvD9⟩ := row_slice omF.out.rd
                        subst hvL9
                        rw [hvD9] at hgd omF
                        clear had8 hown1 hown2 hgrow1 hgrow2 om9 ol9 hrl9 hcL hcT hcD hlenT hlenD hne hat hq9 hL9 hD9 hnL9 q0 q1 q2 q3 q4 q5 q6 qw hpih hbs hvD9
                        rw [hnD9, hgd]
                        clear hgd hnD9
                        obtain ⟨hlL, hlD⟩ := omF.out.lens
                        go_wp2_with fail
                        go_loopw [20] (fun u wr => ∃ j4 : Nat, j4 ≤ nL9 ∧ u = .int .i64 (j4 : Int) ∧ Below u2.heap.size u2 wr)
                          (fun u _ => nL9 - (intOf u).toNat)
                        case atStart => exact ⟨0, by omega, by go_num, Below.refl _ _⟩
                        case round =>
                          obtain ⟨j4, hj, rfl, hbr⟩ := hrel
                          rcases Nat.lt_or_ge j4 nL9 with hlt | hge
                          · obtain ⟨⟨Aj, xj⟩, hpj⟩ : ∃ p, L9[j4]? = some p := ⟨_, List.getElem?_eq_getElem (by omega)⟩
                            obtain ⟨gj, hgj, c0, c1⟩ := row_hand (omF.out.more hbr).rl hpj
                            have hat := hid (ol9x.out.live _ (List.mem_of_getElem? hpj))
                            have hxj : xj < 4294967296 := by have := live_lt (show (atP qs9 xj).2 = 1 by rw [hat.out]); have := omF.out.sa.hiLe; omega
                            have hcb := hid (fun y (hy : Below wr.heap.size wr y) => row_hand ((omF.out.more hbr).more hy).rl hpj)
                            clear hpj
                            subst hgj
                            go_wp2_with fail
                            refine ((omF.out.more hbr).sa.find (A := Aj) xj hat.out).mono ?_
                            rintro e w9 ⟨rfl, b9⟩
                            have hb9 := hbr.trans (b9.mono hbr.size)
                            obtain ⟨g9, hg9, d0, d1⟩ := hcb.out w9 b9
                            obtain rfl : gj = g9 := by injection hg9 with e1; injection e1
                            clear c0 c1 b9 hcb hg9
                            go_wp2_with fail
                            go_roundw
                            case rel => exact ⟨j4 + 1, by omega, by go_num, hb9⟩
                            case measure => simp [intOf]; omega
                          · obtain rfl : j4 = nL9 := by omega
                            have om2 := hid (omF.out.more hbr)
                            obtain ⟨wm, hwm⟩ : ∃ wm, wm = wr := ⟨wr, rfl⟩
                            subst hwm
                            clear omF hge hj hbr
                            go_wp2_with fail
                            go_loopw [23] (fun u wr => ∃ k5 : Nat, k5 ≤ nD9 ∧ u = .int .i64 (k5 : Int) ∧ Below wm.heap.size wm wr)
                              (fun u _ => nD9 - (intOf u).toNat)
                            case atStart => exact ⟨0, by omega, by go_num, Below.refl _ _⟩
                            case round =>
                              obtain ⟨k5, hk, rfl, hbr⟩ := hrel
                              rcases Nat.lt_or_ge k5 nD9 with hlt | hge
                              · obtain ⟨⟨Aj, xj⟩, hpj⟩ : ∃ p, D9[k5]? = some p := ⟨_, List.getElem?_eq_getElem (by omega)⟩
                                obtain ⟨gj, hgj, c0, c1⟩ := row_hand (om2.out.more hbr).rd hpj
                                have hde := hid (ol9x.out.dead _ (List.mem_of_getElem? hpj))
                                have hxn : xj < K := hde.out.2.2
                                clear hpj
                                subst hgj
                                go_wp2_with fail
                                refine ((om2.out.more hbr).sa.findErr (A := Aj) xj (by omega) 13 (Or.inr ⟨hxn, hde.out.2.1, rfl⟩)).mono ?_
                                rintro e w9 ⟨rfl, b9⟩
                                have hb9 := hbr.trans (b9.mono hbr.size)
                                clear c0 c1 b9
                                go_wp2_with fail
                                refine (num_err 13 _ ((om2.out.more hb9).sa.handleIs hE1.out.1)).mono ?_
                                rintro e w10 ⟨rfl, b10⟩
                                have hb10 := hb9.trans (b10.mono hb9.size)
                                clear b10
                                go_wp2_with fail
                                go_roundw
                                case rel => exact ⟨k5 + 1, by omega, by go_num, hb10⟩
                                case measure => simp [intOf]; omega
                              · obtain rfl : k5 = nD9 := by omega
                                have om3 := hid (om2.out.more hbr)
                                clear om2 hge hk hbr
                                go_wp2_with fail
                                go_roundw
                                case rel => exact ⟨t + 1, qs9, L9, D9, j4, k5, by omega, by omega, by omega, by omega, by go_num, om3, ol9x⟩
                                case measure => simp [intOf]; omega
          · have hxh := hid hxe
            clear hxe
            go_wp2_with fail
            refine (om.out.sa.addFull (by rw [hxh.out]; exact hxK)).mono ?_
            rintro e w3 ⟨rfl, b3⟩
            have om3 := hid (om.out.more (b3.alloc b3.size (.cells #[.int .u32 0, .int .u32 0] 43)))
            clear om b3
            go_wp2_with fail
            refine (num_err 16 _ (om3.out.sa.handleIs hE1.out.1)).mono ?_
            rintro e w4 ⟨rfl, b4⟩
            have om4 := hid (om3.out.more b4)
            clear om3 b4
            go_wp2_with fail
            refine (om4.out.sa.full true (decide_eq_true (by have := hxh.out; have := lowP_le qs; have := om4.out.sa.hiLe; omega))).mono ?_
            rintro e w5 ⟨rfl, b5⟩
            have om5 := hid (om4.out.more b5)
            clear om4 b5 hxh
            obtain ⟨hlL0, hlD0⟩ := om5.out.lens
            have hcell := (hzh.out.below (hb1.out.trans (om5.out.sa.below.mono hb1.out.size))).cell a0 rfl t z hzt
            by_cases hm3 : z.tmod 3 = 0
            · have tm3 : (z.tmod 3 != 0) = false := by simpa using hm3
              clear hm3
              obtain ⟨hlL, hlD⟩ := om5.out.lens
              go_wp2_with fail
              go_loopw [20] (fun u wr => ∃ j4 : Nat, j4 ≤ nL ∧ u = .int .i64 (j4 : Int) ∧ Below w5.heap.size w5 wr)
                (fun u _ => nL - (intOf u).toNat)
              case atStart => exact ⟨0, by omega, by go_num, Below.refl _ _⟩
              case round =>
                obtain ⟨j4, hj, rfl, hbr⟩ := hrel
                rcases Nat.lt_or_ge j4 nL with hlt | hge
                · obtain ⟨⟨Aj, xj⟩, hpj⟩ : ∃ p, L[j4]? = some p := ⟨_, List.getElem?_eq_getElem (by omega)⟩
                  obtain ⟨gj, hgj, c0, c1⟩ := row_hand (om5.out.more hbr).rl hpj
                  have hat := hid (ol.out.live _ (List.mem_of_getElem? hpj))
                  have hxj : xj < 4294967296 := by have := live_lt (show (atP qs xj).2 = 1 by rw [hat.out]); have := om5.out.sa.hiLe; omega
                  have hcb := hid (fun y (hy : Below wr.heap.size wr y) => row_hand ((om5.out.more hbr).more hy).rl hpj)
                  clear hpj
                  subst hgj
                  go_wp2_with fail
                  refine ((om5.out.more hbr).sa.find (A := Aj) xj hat.out).mono ?_
                  rintro e w9 ⟨rfl, b9⟩
                  have hb9 := hbr.trans (b9.mono hbr.size)
                  obtain ⟨g9, hg9, d0, d1⟩ := hcb.out w9 b9
                  obtain rfl : gj = g9 := by injection hg9 with e1; injection e1
                  clear c0 c1 b9 hcb hg9
                  go_wp2_with fail
                  go_roundw
                  case rel => exact ⟨j4 + 1, by omega, by go_num, hb9⟩
                  case measure => simp [intOf]; omega
                · obtain rfl : j4 = nL := by omega
                  have om2 := hid (om5.out.more hbr)
                  obtain ⟨wm, hwm⟩ : ∃ wm, wm = wr := ⟨wr, rfl⟩
                  subst hwm
                  clear om5 hge hj hbr
                  go_wp2_with fail
                  go_loopw [23] (fun u wr => ∃ k5 : Nat, k5 ≤ nD ∧ u = .int .i64 (k5 : Int) ∧ Below wm.heap.size wm wr)
                    (fun u _ => nD - (intOf u).toNat)
                  case atStart => exact ⟨0, by omega, by go_num, Below.refl _ _⟩
                  case round =>
                    obtain ⟨k5, hk, rfl, hbr⟩ := hrel
                    rcases Nat.lt_or_ge k5 nD with hlt | hge
                    · obtain ⟨⟨Aj, xj⟩, hpj⟩ : ∃ p, D[k5]? = some p := ⟨_, List.getElem?_eq_getElem (by omega)⟩
                      obtain ⟨gj, hgj, c0, c1⟩ := row_hand (om2.out.more hbr).rd hpj
                      have hde := hid (ol.out.dead _ (List.mem_of_getElem? hpj))
                      have hxn : xj < K := hde.out.2.2
                      clear hpj
                      subst hgj
                      go_wp2_with fail
                      refine ((om2.out.more hbr).sa.findErr (A := Aj) xj (by omega) 13 (Or.inr ⟨hxn, hde.out.2.1, rfl⟩)).mono ?_
                      rintro e w9 ⟨rfl, b9⟩
                      have hb9 := hbr.trans (b9.mono hbr.size)
                      clear c0 c1 b9
                      go_wp2_with fail
                      refine (num_err 13 _ ((om2.out.more hb9).sa.handleIs hE1.out.1)).mono ?_
                      rintro e w10 ⟨rfl, b10⟩
                      have hb10 := hb9.trans (b10.mono hb9.size)
                      clear b10
                      go_wp2_with fail
                      go_roundw
                      case rel => exact ⟨k5 + 1, by omega, by go_num, hb10⟩
                      case measure => simp [intOf]; omega
                    · obtain rfl : k5 = nD := by omega
                      have om3 := hid (om2.out.more hbr)
                      clear om2 hge hk hbr
                      go_wp2_with fail
                      go_roundw
                      case rel => exact ⟨t + 1, qs, L, D, j4, k5, by omega, by omega, by omega, by omega, by go_num, om3, ol⟩
                      case measure => simp [intOf]; omega
            · have tm3 : (z.tmod 3 != 0) = true := by simpa using hm3
              clear hm3
              rcases Nat.eq_zero_or_pos nL with hnz | hpos
              · have tl : decide ((0 : Int) < (nL : Int)) = false := decide_eq_false (by omega)
                have tl2 : decide (0 < nL) = false := decide_eq_false (by omega)
                have hnzh := hid hnz
                clear hnz
                obtain ⟨hlL, hlD⟩ := om5.out.lens
                go_wp2_with fail
                go_loopw [20] (fun u wr => ∃ j4 : Nat, j4 ≤ nL ∧ u = .int .i64 (j4 : Int) ∧ Below w5.heap.size w5 wr)
                  (fun u _ => nL - (intOf u).toNat)
                case atStart => exact ⟨0, by omega, by go_num, Below.refl _ _⟩
                case round =>
                  obtain ⟨j4, hj, rfl, hbr⟩ := hrel
                  rcases Nat.lt_or_ge j4 nL with hlt | hge
                  · obtain ⟨⟨Aj, xj⟩, hpj⟩ : ∃ p, L[j4]? = some p := ⟨_, List.getElem?_eq_getElem (by omega)⟩
                    obtain ⟨gj, hgj, c0, c1⟩ := row_hand (om5.out.more hbr).rl hpj
                    have hat := hid (ol.out.live _ (List.mem_of_getElem? hpj))
                    have hxj : xj < 4294967296 := by have := live_lt (show (atP qs xj).2 = 1 by rw [hat.out]); have := om5.out.sa.hiLe; omega
                    have hcb := hid (fun y (hy : Below wr.heap.size wr y) => row_hand ((om5.out.more hbr).more hy).rl hpj)
                    clear hpj
                    subst hgj
                    go_wp2_with fail
                    refine ((om5.out.more hbr).sa.find (A := Aj) xj hat.out).mono ?_
                    rintro e w9 ⟨rfl, b9⟩
                    have hb9 := hbr.trans (b9.mono hbr.size)
                    obtain ⟨g9, hg9, d0, d1⟩ := hcb.out w9 b9
                    obtain rfl : gj = g9 := by injection hg9 with e1; injection e1
                    clear c0 c1 b9 hcb hg9
                    go_wp2_with fail
                    go_roundw
                    case rel => exact ⟨j4 + 1, by omega, by go_num, hb9⟩
                    case measure => simp [intOf]; omega
                  · obtain rfl : j4 = nL := by omega
                    have om2 := hid (om5.out.more hbr)
                    obtain ⟨wm, hwm⟩ : ∃ wm, wm = wr := ⟨wr, rfl⟩
                    subst hwm
                    clear om5 hge hj hbr
                    go_wp2_with fail
                    go_loopw [23] (fun u wr => ∃ k5 : Nat, k5 ≤ nD ∧ u = .int .i64 (k5 : Int) ∧ Below wm.heap.size wm wr)
                      (fun u _ => nD - (intOf u).toNat)
                    case atStart => exact ⟨0, by omega, by go_num, Below.refl _ _⟩
                    case round =>
                      obtain ⟨k5, hk, rfl, hbr⟩ := hrel
                      rcases Nat.lt_or_ge k5 nD with hlt | hge
                      · obtain ⟨⟨Aj, xj⟩, hpj⟩ : ∃ p, D[k5]? = some p := ⟨_, List.getElem?_eq_getElem (by omega)⟩
                        obtain ⟨gj, hgj, c0, c1⟩ := row_hand (om2.out.more hbr).rd hpj
                        have hde := hid (ol.out.dead _ (List.mem_of_getElem? hpj))
                        have hxn : xj < K := hde.out.2.2
                        clear hpj
                        subst hgj
                        go_wp2_with fail
                        refine ((om2.out.more hbr).sa.findErr (A := Aj) xj (by omega) 13 (Or.inr ⟨hxn, hde.out.2.1, rfl⟩)).mono ?_
                        rintro e w9 ⟨rfl, b9⟩
                        have hb9 := hbr.trans (b9.mono hbr.size)
                        clear c0 c1 b9
                        go_wp2_with fail
                        refine (num_err 13 _ ((om2.out.more hb9).sa.handleIs hE1.out.1)).mono ?_
                        rintro e w10 ⟨rfl, b10⟩
                        have hb10 := hb9.trans (b10.mono hb9.size)
                        clear b10
                        go_wp2_with fail
                        go_roundw
                        case rel => exact ⟨k5 + 1, by omega, by go_num, hb10⟩
                        case measure => simp [intOf]; omega
                      · obtain rfl : k5 = nD := by omega
                        have om3 := hid (om2.out.more hbr)
                        clear om2 hge hk hbr
                        go_wp2_with fail
                        go_roundw
                        case rel => exact ⟨t + 1, qs, L, D, j4, k5, by omega, by omega, by omega, by omega, by go_num, om3, ol⟩
                        case measure => simp [intOf]; omega
              · have tl : decide ((0 : Int) < (nL : Int)) = true := decide_eq_true (by omega)
                obtain ⟨i, him, hiL⟩ := mod_inN z nL hpos (by omega)
                obtain ⟨⟨B, y⟩, hpi⟩ : ∃ p, L[i]? = some p := ⟨_, List.getElem?_eq_getElem (by omega)⟩
                obtain ⟨gi, hgi, c0, c1⟩ := row_hand om5.out.rl hpi
                have hpih := hid hpi
                have hat := hid (ol.out.live _ (List.mem_of_getElem? hpi))
                have hyl := live_lt (show (atP qs y).2 = 1 by rw [hat.out])
                have hps := om5.out.sa.hiLe
                have hbs := hid (Below.refl w5.heap.size w5)
                clear hpi
                subst hgi
                go_wp2_with fail
                have omA := hid (om5.out.more ((Below.refl w5.heap.size w5).alloc (Nat.le_refl _) (.cells #[.int .u32 B, .int .u32 (y : Int)] 43)))
                have hA := hid (heap_alloc_new w5 (.cells #[.int .u32 B, .int .u32 (y : Int)] 43))
                clear om5 c0 c1 hcell
                refine (omA.out.sa.drop (A := B) (ps' := putP qs y (B, if B = 4294967295 then 2 else 0)) y hat.out rfl).mono ?_
                rintro e w6 ⟨rfl, s6, k6⟩
                have om6 := hid (omA.out.turn s6 k6)
                have hA6 := hid (k6 _ _ _ _ hps.1 hA.out (by decide))
                obtain ⟨x0, x1⟩ := blk2 hA6.out
                have hne : Hid (atP (putP qs y (B, if B = 4294967295 then 2 else 0)) y ≠ (B, 1)) := by
                  refine hid ?_
                  rw [putP_at (Nat.le_of_lt hyl), if_pos rfl]
                  intro e
                  have := congrArg Prod.snd e
                  simp at this
                  split at this <;> simp at this
                clear omA s6 k6 hA
                go_wp2_with fail
                refine (om6.out.sa.dropErr (A := B) y (by omega) 13 (Or.inr ⟨by omega, hne.out, rfl⟩)).mono ?_
                rintro e w7 ⟨rfl, b7⟩
                have om7 := hid (om6.out.more b7)
                have hA7 := hid ((b7.block _ (Array.getElem?_eq_some_iff.1 hA6.out).1).trans hA6.out)
                clear om6 b7 hA6 x0 x1
                go_wp2_with fail
                refine (num_err 13 _ (om7.out.sa.handleIs hE1.out.1)).mono ?_
                rintro e w8 ⟨rfl, b8⟩
                have om8 := hid (om7.out.more b8)
                have hA8 := hid ((b8.block _ (Array.getElem?_eq_some_iff.1 hA7.out).1).trans hA7.out)
                obtain ⟨x0, x1⟩ := blk2 hA8.out
                have hrd8 := om8.out.rd.alloc (.cells #[.int .u32 B, .int .u32 (y : Int)] 43)
                have hhi8 := om8.out.sa.hiLe.1
                clear om7 b8 hA7
                go_wp2_with (at_builtin; refine wpList_append_lies _ rfl (.tmp 134) (.tmp 136) 62 rfl w2.heap.size 43 i0 _ 2 8 Tryd.underlying62 hif hz0 hz1 hz2 rfl (by decide) _ _ _ rfl hrd8 ⟨w8.heap.size, 0, none⟩ 1 1 (hcs [(B, y)]) rfl rfl (hand_new w8 B y) (hcs_one _) (by decide) (by unfold maxLen; omega) (by omega) (by simp; omega) _ rfl ?_; intro g9 cap9 w9 hown9 hgrow9 hg9 hlt9; refine Hid.out ?_)
                have om9 := hid (om8.out.pushD hown9 hgrow9 hg9)
                clear om8 hrd8 hown9 hgrow9 hg9 x0 x1 hA8
                refine hid ?_
                have hrl9 := om9.out.rl
                have hhi9 := om9.out.sa.hiLe.1
                have hlcap : nL ≤ lc := by
                  rcases om9.out.rl.2 with ⟨e, _⟩ | ⟨g', cap', cur, e, _, _, e2, _⟩
                  · injection e with e1; cases e1
                  · injection e with _ _ e3; omega
                have hcL : Hid (∀ j u, (hcs L)[j]? = some u → w9.cell? ((⟨gi, 0, none⟩ : Addr).add j) = some u) := om9.out.rl.cells rfl
                have hcT : ∀ j u, (hcs (L.take i))[j]? = some u → w9.drew.cell? ((⟨gi, 0, none⟩ : Addr).add j) = some u := by
                  intro j u hu
                  rw [← hcs_take, List.getElem?_take] at hu
                  split at hu
                  · exact hcL.out j u hu
                  · cases hu
                have hlenT : (hcs (L.take i)).length = i * 2 := by rw [hcs_length, List.length_take]; congr 1; omega
                have hlenD : (hcs (L.drop (i + 1))).length = (nL - (i + 1)) * 2 := by rw [hcs_length, List.length_drop]; congr 1; omega
                have ol9 := hid (ol.out.take i hpih.out hps.2.2.2.2 (show (if B = 4294967295 then (2 : Int) else 0) ≠ 1 by split <;> decide))
                go_wp2_with fail
                have hnLi : i + 1 ≤ nL := by omega
                obtain ⟨ad8, had8, hcD⟩ : ∃ ad8 : Addr, (if lc = i + 1 then (⟨gi, 0, none⟩ : Addr) else ⟨gi, (i + 1) * 2, none⟩) = ad8 ∧ Hid (∀ (u1 : World), w9.drew.grownBy u1 none → ∀ j u, (hcs (L.drop (i + 1)))[j]? = some u → u1.cell? (ad8.add j) = some u) := by
                  refine ⟨_, rfl, hid (fun u1 hg1 j u hu => ?_)⟩
                  by_cases hcap : lc = i + 1
                  · have hj := (List.getElem?_eq_some_iff.1 hu).1
                    rw [hlenD] at hj
                    omega
                  · rw [if_neg hcap]
                    rw [← hcs_drop, List.getElem?_drop] at hu
                    have := hcL.out _ u hu
                    rw [add0] at this
                    rw [show (⟨gi, (i + 1) * 2, none⟩ : Addr).add j = ⟨gi, (i + 1) * 2 + j, none⟩ from by simp [Addr.add]]
                    exact hg1.cell this (by simp)
                have q0 : (i : Int) ≤ (i : Int) + 1 := by omega
                have qw : IntKind.i64.wrap ((i : Int) + 1) = (i : Int) + 1 := by rw [IntKind.wrap_i64]; omega
                have q1 : (i : Int) ≤ (lc : Int) := by omega
                have q2 : (i : Int) + 1 ≤ (nL : Int) := by omega
                have q3 : (i : Int) + 1 ≤ (lc : Int) := by omega
                have q4 : (nL : Int) ≤ (lc : Int) := by omega
                have q5 : (0 : Int) ≤ (i : Int) := by omega
                have q6 : (0 : Int) ≤ (i : Int) + 1 := by omega
                refine wp_region_noPanic ?_
                refine wp_region_held_drew (S := fun _ => True) (by kernel_rfl) trivial (fun hHeld => ?_)
                refine takeH (i := 0) (v := ?_) (a' := ?_) ({ dst := some 138, op := Op.move (Operand.tmp 19), type := 62, pos := "law.go:194", after := #[], guard := none }) rfl (by kernel_rfl) (by kernel_rfl) (by kernel_rfl) (fun _ _ _ h => h) (by rfl) ?_ (by assumption) ?_ ?_
                rotate_left 2
                · (intro w' hSw; go_simp; try with_reducible rfl)
                · (simp only [Act.put, List.setIfInBounds_toArray, List.set_cons_zero, List.set_cons_succ]; try rfl)
                refine takeH (i := 1) (v := ?_) (a' := ?_) ({ dst := some 139, op := Op.move (Operand.tmp 10), type := 62, pos := "law.go:194", after := #[], guard := none }) rfl (by kernel_rfl) (by kernel_rfl) (by kernel_rfl) (fun _ _ _ h => h) (by rfl) ?_ (by assumption) ?_ ?_
                rotate_left 2
                · (intro w' hSw; go_simp; try with_reducible rfl)
                · (simp only [Act.put, List.setIfInBounds_toArray, List.set_cons_zero, List.set_cons_succ]; try rfl)
                refine takeH (i := 2) (v := ?_) (a' := ?_) ({ dst := some 140, op := Op.move (Operand.tmp 17), type := 3, pos := "law.go:194", after := #[], guard := none }) rfl (by kernel_rfl) (by kernel_rfl) (by kernel_rfl) (fun _ _ _ h => h) (by rfl) ?_ (by assumption) ?_ ?_
                rotate_left 2
                · (intro w' hSw; go_simp; try with_reducible rfl)
                · (simp only [Act.put, List.setIfInBounds_toArray, List.set_cons_zero, List.set_cons_succ]; try rfl)
                refine takeH (i := 3) (v := ?_) (a' := ?_) ({ dst := some 141, op := Op.slice 62 (Operand.tmp 139) none (some (Operand.tmp 140)) none, type := 62, pos := "law.go:194", after := #[{ on := 1, ground := Ground.data }, { on := 2, ground := Ground.data }], guard := none }) rfl (by kernel_rfl) (by kernel_rfl) (by kernel_rfl) (fun _ _ _ h => h) (by rfl) ?_ (by assumption) ?_ ?_
                rotate_left 2
                · (intro w' hSw; go_simp; try with_reducible rfl)
                · (simp only [Act.put, List.setIfInBounds_toArray, List.set_cons_zero, List.set_cons_succ]; try rfl)
                refine takeH (i := 5) (v := ?_) (a' := ?_) ({ dst := some 143, op := Op.move (Operand.tmp 10), type := 62, pos := "law.go:194", after := #[], guard := none }) rfl (by kernel_rfl) (by kernel_rfl) (by kernel_rfl) (fun _ _ _ h => h) (by rfl) ?_ (by assumption) ?_ ?_
                rotate_left 2
                · (intro w' hSw; go_simp; try with_reducible rfl)
                · (simp only [Act.put, List.setIfInBounds_toArray, List.set_cons_zero, List.set_cons_succ]; try rfl)
                refine takeH (i := 6) (v := ?_) (a' := ?_) ({ dst := some 144, op := Op.move (Operand.tmp 17), type := 3, pos := "law.go:194", after := #[], guard := none }) rfl (by kernel_rfl) (by kernel_rfl) (by kernel_rfl) (fun _ _ _ h => h) (by rfl) ?_ (by assumption) ?_ ?_
                rotate_left 2
                · (intro w' hSw; go_simp; try with_reducible rfl)
                · (simp only [Act.put, List.setIfInBounds_toArray, List.set_cons_zero, List.set_cons_succ]; try rfl)
                refine takeH (i := 7) (v := ?_) (a' := ?_) ({ dst := some 145, op := Op.binOp BinOp.add 3 (Operand.tmp 144) (Operand.const (Value.int IntKind.i64 1)) 3, type := 3, pos := "law.go:194", after := #[{ on := 6, ground := Ground.data }], guard := none }) rfl (by kernel_rfl) (by kernel_rfl) (by kernel_rfl) (fun _ _ _ h => h) (by rfl) ?_ (by assumption) ?_ ?_
                rotate_left 2
                · (intro w' hSw; go_simp; try with_reducible rfl)
                · (simp only [Act.put, List.setIfInBounds_toArray, List.set_cons_zero, List.set_cons_succ]; try rfl)
                refine takeH (i := 8) (v := .slice (some ad8) (nL - (i + 1)) (lc - (i + 1))) (a' := ?_) ({ dst := some 146, op := Op.slice 62 (Operand.tmp 143) (some (Operand.tmp 145)) none none, type := 62, pos := "law.go:194", after := #[{ on := 5, ground := Ground.data }, { on := 7, ground := Ground.data }], guard := none }) rfl (by kernel_rfl) (by kernel_rfl) (by kernel_rfl) (fun _ _ _ h => h) (by rfl) ?_ (by assumption) ?_ ?_
                rotate_left 1
                · (intro w' hSw; go_simp; rw [← had8]; split <;> rfl)
                · (simp only [Act.put, List.setIfInBounds_toArray, List.set_cons_zero, List.set_cons_succ]; try rfl)
                refine wpAnyH_ready (rs := [4]) (by kernel_rfl) (by simp) ?_
                refine AllReadyH.cons (o := { dst := some 142, op := Op.call { callee := Callee.builtin Builtin.append, args := #[Operand.tmp 138, Operand.tmp 141], argTypes := #[62, 62] }, type := 62, pos := "law.go:194", after := #[{ on := 0, ground := Ground.data }, { on := 3, ground := Ground.data }], guard := none }) rfl (fun K hK => ?_) AllReadyH.nil
                refine step_append_own rfl (.tmp 138) (.tmp 141) 62 rfl w9.heap.size 43 i0 _ 2 8 Tryd.underlying62 hif hz0 hz1 hz2 rfl (by decide) (.slice none 0 0) 0 [] (by rfl) (World.ownsRow_nil _ _ _ _) ⟨gi, 0, none⟩ i lc (hcs (L.take i)) (by rfl) hlenT hcT (hcs_one _) (by unfold maxLen; omega) (by omega) (by simp) ?_
                intro v1 u1 hown1 hgrow1
                refine hK.out _ _ trivial (fun hHeld => ?_)
                clear hK K
                try simp only [Act.put, List.setIfInBounds_toArray, List.set_cons_zero, List.set_cons_succ]
                refine wpAnyH_ready (rs := [9]) (by kernel_rfl) (by simp) ?_
                refine AllReadyH.cons (o := { dst := some 147, op := Op.call { callee := Callee.builtin Builtin.append, args := #[Operand.tmp 142, Operand.tmp 146], argTypes := #[62, 62] }, type := 62, pos := "law.go:194", after := #[{ on := 4, ground := Ground.data }, { on := 8, ground := Ground.data }, { on := 4, ground := Ground.chain }], guard := none }) rfl (fun K hK => ?_) AllReadyH.nil
                refine step_append_own rfl (.tmp 142) (.tmp 146) 62 rfl w9.heap.size 43 i0 _ 2 8 Tryd.underlying62 hif hz0 hz1 hz2 rfl (by decide) v1 (0 + i) ([] ++ hcs (L.take i)) (by rfl) hown1 ad8 (nL - (i + 1)) (lc - (i + 1)) (hcs (L.drop (i + 1))) (by rfl) hlenD (hcD.out u1 hgrow1) (hcs_one _) (by unfold maxLen; omega) (by omega) (by have := hgrow1.size; simp at this; omega) ?_
                intro v2 u2 hown2 hgrow2
                refine hK.out _ _ trivial (fun hHeld => ?_)
                clear hK K
                try simp only [Act.put, List.setIfInBounds_toArray, List.set_cons_zero, List.set_cons_succ]
                refine takeH (i := 10) (v := ?_) (a' := ?_) ({ dst := some 19, op := Op.assign (Operand.tmp 147), type := 62, pos := "law.go:194", after := #[{ on := 9, ground := Ground.data }, { on := 9, ground := Ground.chain }, { on := 0, ground := Ground.phase }, { on := 1, ground := Ground.phase }, { on := 2, ground := Ground.phase }, { on := 3, ground := Ground.phase }, { on := 4, ground := Ground.phase }, { on := 5, ground := Ground.phase }, { on := 6, ground := Ground.phase }, { on := 7, ground := Ground.phase }, { on := 8, ground := Ground.phase }, { on := 9, ground := Ground.phase }], guard := none }) rfl (by kernel_rfl) (by kernel_rfl) (by kernel_rfl) (fun _ _ _ h => h) (by rfl) ?_ (by assumption) ?_ ?_
                rotate_left 2
                · (intro w' hSw; go_simp; try with_reducible rfl)
                · (simp only [Act.put, List.setIfInBounds_toArray, List.set_cons_zero, List.set_cons_succ]; try rfl)
                refine wpAnyH_done (by kernel_rfl) ?_ _
                refine NoPanic.normal ?_
                have hbF : Below w9.heap.size w9 u2 := ((Below.refl w9.heap.size w9).drew.grown hgrow1 (Nat.le_refl _) (fun k hk => by cases hk)).grown hgrow2 hgrow1.size (fun k hk => (hown1.lt k hk).1)
                have omF : Hid (OM w1.heap.size w2.heap.size ab K w1 (putP qs y (B, if B = 4294967295 then 2 else 0)) (L.take i ++ L.drop (i + 1)) (D ++ [(B, y)]) (0 + i + (nL - (i + 1))) (nD + 1) v2 (.slice (some ⟨g9, 0, none⟩) (nD + 1) cap9) u2) := by
                  refine ⟨om9.out.sa.more hbF, ?_, (Keep.below hbF).row om9.out.rd, ?_⟩
                  · rw [hcs_append]
                    exact row_mono (by simpa using hown2) hhi9
                  · cases hv2 : v2.ownBlock with
                    | none => exact Or.inl rfl
                    | some k2 =>
                      refine Or.inr (fun e => ?_)
                      have h1 := (hown2.lt k2 hv2).1
                      have h2 := (om9.out.rd.lt k2 e.symm).2
                      omega
                obtain ⟨qs9, hq9⟩ : ∃ qs9, putP qs y (B, if B = 4294967295 then 2 else 0) = qs9 := ⟨_, rfl⟩
                obtain ⟨L9, hL9⟩ : ∃ L9, L.take i ++ L.drop (i + 1) = L9 := ⟨_, rfl⟩
                obtain ⟨D9, hD9⟩ : ∃ D9, D ++ [(B, y)] = D9 := ⟨_, rfl⟩
                obtain ⟨nL9, hnL9⟩ : ∃ nL9, 0 + i + (nL - (i + 1)) = nL9 := ⟨_, rfl⟩
                obtain ⟨nD9, hnD9⟩ : ∃ nD9, nD + 1 = nD9 := ⟨_, rfl⟩
                have ol9x := hid ol9.out
                rw [hq9, hL9, hD9] at omF ol9x
                rw [hnL9, hnD9] at omF
                have hlt9 : nL9 ≤ t + 1 ∧ nD9 ≤ t + 1 := by omega
                generalize hgd : Value.slice (some ⟨g9, 0, none⟩) nD9 cap9 = vD9 at omF
                obtain ⟨la9, lc9, hvL9⟩ := row_slice omF.out.rl
                obtain ⟨da9, dc9, hvD9⟩ := row_slice omF.out.rd
                subst hvL9
                rw [hvD9] at hgd omF
                clear had8 hown1 hown2 hgrow1 hgrow2 om9 ol9 hrl9 hcL hcT hcD hlenT hlenD hne hat hq9 hL9 hD9 hnL9 q0 q1 q2 q3 q4 q5 q6 qw hpih hbs hvD9
                rw [hnD9, hgd]
                clear hgd hnD9
                obtain ⟨hlL, hlD⟩ := omF.out.lens
                go_wp2_with fail
                go_loopw [20] (fun u wr => ∃ j4 : Nat, j4 ≤ nL9 ∧ u = .int .i64 (j4 : Int) ∧ Below u2.heap.size u2 wr)
                  (fun u _ => nL9 - (intOf u).toNat)
                case atStart => exact ⟨0, by omega, by go_num, Below.refl _ _⟩
                case round =>
                  obtain ⟨j4, hj, rfl, hbr⟩ := hrel
                  rcases Nat.lt_or_ge j4 nL9 with hlt | hge
                  · obtain ⟨⟨Aj, xj⟩, hpj⟩ : ∃ p, L9[j4]? = some p := ⟨_, List.getElem?_eq_getElem (by omega)⟩
                    obtain ⟨gj, hgj, c0, c1⟩ := row_hand (omF.out.more hbr).rl hpj
                    have hat := hid (ol9x.out.live _ (List.mem_of_getElem? hpj))
                    have hxj : xj < 4294967296 := by have := live_lt (show (atP qs9 xj).2 = 1 by rw [hat.out]); have := omF.out.sa.hiLe; omega
                    have hcb := hid (fun y (hy : Below wr.heap.size wr y) => row_hand ((omF.out.more hbr).more hy).rl hpj)
                    clear hpj
                    subst hgj
                    go_wp2_with fail
                    refine ((omF.out.more hbr).sa.find (A := Aj) xj hat.out).mono ?_
                    rintro e w9 ⟨rfl, b9⟩
                    have hb9 := hbr.trans (b9.mono hbr.size)
                    obtain ⟨g9, hg9, d0, d1⟩ := hcb.out w9 b9
                    obtain rfl : gj = g9 := by injection hg9 with e1; injection e1
                    clear c0 c1 b9 hcb hg9
                    go_wp2_with fail
                    go_roundw
                    case rel => exact ⟨j4 + 1, by omega, by go_num, hb9⟩
                    case measure => simp [intOf]; omega
                  · obtain rfl : j4 = nL9 := by omega
                    have om2 := hid (omF.out.more hbr)
                    obtain ⟨wm, hwm⟩ : ∃ wm, wm = wr := ⟨wr, rfl⟩
                    subst hwm
                    clear omF hge hj hbr
                    go_wp2_with fail
                    go_loopw [23] (fun u wr => ∃ k5 : Nat, k5 ≤ nD9 ∧ u = .int .i64 (k5 : Int) ∧ Below wm.heap.size wm wr)
                      (fun u _ => nD9 - (intOf u).toNat)
                    case atStart => exact ⟨0, by omega, by go_num, Below.refl _ _⟩
                    case round =>
                      obtain ⟨k5, hk, rfl, hbr⟩ := hrel
                      rcases Nat.lt_or_ge k5 nD9 with hlt | hge
                      · obtain ⟨⟨Aj, xj⟩, hpj⟩ : ∃ p, D9[k5]? = some p := ⟨_, List.getElem?_eq_getElem (by omega)⟩
                        obtain ⟨gj, hgj, c0, c1⟩ := row_hand (om2.out.more hbr).rd hpj
                        have hde := hid (ol9x.out.dead _ (List.mem_of_getElem? hpj))
                        have hxn : xj < K := hde.out.2.2
                        clear hpj
                        subst hgj
                        go_wp2_with fail
                        refine ((om2.out.more hbr).sa.findErr (A := Aj) xj (by omega) 13 (Or.inr ⟨hxn, hde.out.2.1, rfl⟩)).mono ?_
                        rintro e w9 ⟨rfl, b9⟩
                        have hb9 := hbr.trans (b9.mono hbr.size)
                        clear c0 c1 b9
                        go_wp2_with fail
                        refine (num_err 13 _ ((om2.out.more hb9).sa.handleIs hE1.out.1)).mono ?_
                        rintro e w10 ⟨rfl, b10⟩
                        have hb10 := hb9.trans (b10.mono hb9.size)
                        clear b10
                        go_wp2_with fail
                        go_roundw
                        case rel => exact ⟨k5 + 1, by omega, by go_num, hb10⟩
                        case measure => simp [intOf]; omega
                      · obtain rfl : k5 = nD9 := by omega
                        have om3 := hid (om2.out.more hbr)
                        clear om2 hge hk hbr
                        go_wp2_with fail
                        go_roundw
                        case rel => exact ⟨t + 1, qs9, L9, D9, j4, k5, by omega, by omega, by omega, by omega, by go_num, om3, ol9x⟩
                        case measure => simp [intOf]; omega
      · have hstop : zs.length ≤ t ∨ (t < zs.length ∧ 80 ≤ t) := by omega
        clear hgo
        rcases hstop with hstop | ⟨hstop1, hstop2⟩
        all_goals
          go_wp2_with fail
          refine (sure_ok _ om.out.sa.env).mono ?_
          rintro e w8 ⟨rfl, b8⟩
          have om8 := hid (om.out.more b8)
          clear om b8
          go_wp2_with fail
          go_ret
          exact ⟨rfl, hb1.out.trans (om8.out.sa.below.mono hb1.out.size)⟩
  · have hld := load3_bad K ad1 ps cap1 w1 hp1 hK1 (by omega) hf
    clear hp1 h01 b1 hph hf
    go_wp2_with fail
    try rw [hK]
    refine hld.mono ?_
    rintro e w2 ⟨rfl, b2⟩
    have hE2 := hid (hE1.out.below b2)
    have hb2 := hid (hb1.out.trans (b2.mono hb1.out.size))
    clear hld b2
    go_wp2_with fail
    refine (sure_ok _ hE2.out.2).mono ?_
    rintro e w3 ⟨rfl, b3⟩
    have hb3 := hid (hb2.out.trans (b3.mono hb2.out.size))
    clear b3
    go_wp2_with fail
    go_ret
    exact ⟨rfl, hb3.out⟩

end Go.Proofs.YtldflphjnanfbaaDoor
