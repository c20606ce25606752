/- 'KinBare', walked. -/
import Derived.Test.YtghpjljnbdjmaaaGreatDoorBare15
import Derived.Test.YtghpjljnbdjmaaaGreatDoorBknear
import Derived.Test.YtghpjljnbdjmaaaGreatDoorBksure
import Derived.Test.YtghpjljnbdjmaaaGreatDoorLaws11
import Derived.Test.YtghpjljnbdjmaaaGreatDoorMade11
import Derived.Deep.CutBlock
namespace Go.Proofs.YtghpjljnbdjmaaaGreatDoor
open Go.RowKit
set_option linter.unusedVariables false

open Pq (fl fl_length fl_succ fl_get fl_congr)

/-- Where the law stands. -/
structure Bq (w : World) (tb gx V : Nat) (L : Nat → Nat) (gv ax : Value) (R : Nat → List Nat) (e : Nat) (wr : World) : Prop where
  ta : TA wr w.heap.size tb V 8 R
  tw_ : Tw V 8 R
  lb_ : lb V 8 R = L
  br : ∀ k, k < e → In V R (2 * k) → Br V R k
  row : NL wr gv (fl V L)
  blk : wr.heap[gx]? = some (.cells #[.int .i64 8, ax] 27 (0, 0))
  bel : Below w.heap.size w wr

theorem Bq.more {w : World} {tb gx V : Nat} {L : Nat → Nat} {gv ax : Value} {R : Nat → List Nat} {e : Nat} {wr wy : World} (h : Bq w tb gx V L gv ax R e wr) (hb : Below wr.heap.size wr wy) : Bq w tb gx V L gv ax R e wy :=
  ⟨h.ta.more hb, h.tw_, h.lb_, h.br, h.row.below hb, by rw [hb.block gx (Array.getElem?_eq_some_iff.1 h.blk).1]; exact h.blk, h.bel.trans (hb.mono h.bel.size)⟩

theorem Bq.skip {w : World} {tb gx V : Nat} {L : Nat → Nat} {gv ax : Value} {R : Nat → List Nat} {e : Nat} {wr : World} (h : Bq w tb gx V L gv ax R e wr) (hb : In V R (2 * e) → Br V R e) : Bq w tb gx V L gv ax R (e + 1) wr := by
  refine { h with br := fun k hk hi => ?_ }
  by_cases c : k = e
  · exact c ▸ hb (c ▸ hi)
  · exact h.br k (by omega) hi

theorem Bq.lift {w : World} {tb gx V : Nat} {L : Nat → Nat} {gv ax : Value} {R : Nat → List Nat} {e : Nat} {wr wy : World} (h : Bq w tb gx V L gv ax R e wr) (he : e < 8) (hi : In V R (2 * e)) (hn : ¬ Br V R e) (hta : TA wy w.heap.size tb V 8 (liftR R e)) (hk : Kp w.heap.size wr wy) : Bq w tb gx V L gv ax (liftR R e) (e + 1) wy := by
  have ht := h.ta.tn
  have hl := ht.lift h.tw_ (e := e)
  refine ⟨hta, hl.2.1, by rw [lb_nobridge ht h.tw_ he hi hn]; exact h.lb_, fun k hk2 hik => ?_, h.row.al hk.al, ?_, h.bel.trans (hk.below h.bel.size)⟩
  · by_cases c : k = e
    · subst c
      exact absurd rfl ((hl.2.2 _).1 hik).2.1
    · exact br_more ht h.tw_ hik (by omega) (h.br k (by omega) ((hl.2.2 _).1 hik).1)
  · rw [hk.keep ⟨_, _, h.blk⟩ (by decide) (by decide) (by decide)]
    exact h.blk

set_option maxRecDepth 100000 in
set_option maxHeartbeats 8000000 in
theorem bare_law (n : Int) (v : Value) (l : List Ac) (w : World) (hg : Handle w) (hv : AV w v l) :
    Calls Tryz.prog 7 #[.int .i64 n, v] w fun x w' => x = .returned (.bool true) ∧ Below w.heap.size w w' := by
  have hm := hid (made_ok n v l w hg hv)
  have hsu := hid (fun y => sure_ok15 y)
  clear hg hv
  go_enter Tryz.func7, Tryz.ntmps7
  go_wp2_with fail
  refine hm.out.mono ?_
  rintro x w1 ⟨tb, V, R0, ad, cap, rfl, hV1, hV6, hbo, b1⟩
  have hls := hid (Md.ls hbo b1)
  have hblk : Hid ((w1.alloc (.cells #[.int .i64 8, .slice ad V cap] 27)).heap[w1.heap.size]? = some (.cells #[.int .i64 8, .slice ad V cap] 27 (0, 0))) := hid (heap_alloc_new _ _)
  clear hbo b1 hm
  obtain ⟨w2, hw2⟩ : ∃ w2, w1.alloc (.cells #[.int .i64 8, .slice ad V cap] 27) = w2 := ⟨_, rfl⟩
  rw [hw2] at hls hblk
  replace hw2 := hid hw2
  have hta := hid hls.out.ta
  have htw := hid hls.out.tw
  have hgr := hid (kgroups_ok hta.out htw.out)
  have hbe := hid hls.out.bel
  go_upto_region 2 with fail
  try rw [hw2.out]
  clear hw2
  go_wp2_with fail
  refine hgr.out.mono ?_
  rintro x w3 ⟨gv, rfl, hgl, b3⟩
  have hst0 : Hid (Bq w tb w1.heap.size V (lb V 8 R0) gv (.slice ad V cap) R0 0 w3) := hid ⟨hta.out.more b3, htw.out, rfl, fun k hk => by omega, hgl.nl, by rw [b3.block _ (Array.getElem?_eq_some_iff.1 hblk.out).1]; exact hblk.out, hbe.out.trans (b3.mono hbe.out.size)⟩
  have hle : Hid (∀ x, lb V 8 R0 x ≤ x) := hid (lb_lab V 8 R0).le
  clear hgr hls hblk hta htw hbe hgl b3
  generalize lb V 8 R0 = L at hst0 hle
  generalize w1.heap.size = gx at hst0 ⊢
  go_wp2_with fail
  go_loopw [9, 10, 11] (fun u _ _ wr => ∃ (e : Nat) (R : Nat → List Nat), e ≤ 8 ∧ u = .int .i64 (e : Int) ∧ Hid (Bq w tb gx V L gv (.slice ad V cap) R e wr)) (fun u _ _ _ => 8 - (intOf u).toNat)
  case atStart => exact ⟨0, R0, by omega, by go_num, hst0⟩
  case round =>
    obtain ⟨e, R, he, rfl, hst⟩ := hrel
    clear hst0
    rcases Nat.lt_or_ge e 8 with hlt | hge
    · have v1 : decide ((e : Int) < 8) = true := decide_eq_true (by omega)
      by_cases hi : In V R (2 * e)
      · by_cases hb : Br V R e
        · have hcall := hid (kbridge_ok hst.out.ta hst.out.tw_ e hlt hi true (by simp [hb]))
          have hnw := hid (hst.out.skip (fun _ => hb))
          clear hst hi hb
          go_wp2_with fail
          refine hcall.out.mono ?_
          rintro x w4 ⟨rfl, b4⟩
          have hnew := hid (hnw.out.more b4)
          clear hcall hnw b4
          go_wp2_with fail
          go_roundw
          case rel => exact ⟨e + 1, R, by omega, by go_num, hnew⟩
          case measure => simp [intOf]; omega
        · have hcall := hid (kbridge_ok hst.out.ta hst.out.tw_ e hlt hi false (by simp [hb]))
          have hi2 := (hst.out.tw_ e hlt).1 hi
          have hlf := hid (fun y (hy : Below wr.heap.size wr y) => lift_ok (hst.out.more hy).ta e hlt hi hi2)
          have hnw := hid (fun y z (hy : Below wr.heap.size wr y) (k1 : TA z w.heap.size tb V 8 (liftR R e)) (k2 : Kp w.heap.size y z) => (hst.out.more hy).lift hlt hi hb k1 k2)
          clear hst hi hb hi2
          go_wp2_with fail
          refine hcall.out.mono ?_
          rintro x w4 ⟨rfl, b4⟩
          have hlf4 := hid (hlf.out w4 b4)
          clear hcall hlf
          replace b4 := hid b4
          go_wp2_with fail
          refine hlf4.out.mono ?_
          rintro x w5 ⟨rfl, k1, k2⟩
          have hnew := hid (hnw.out w4 w5 b4.out k1 k2)
          clear hlf4 hnw b4 k1 k2
          go_wp2_with fail
          go_roundw
          case rel => exact ⟨e + 1, liftR R e, by omega, by go_num, hnew⟩
          case measure => simp [intOf]; omega
      · have hcall := hid (kbridge_stale hst.out.ta e hlt hi)
        have hnw := hid (hst.out.skip (fun q => absurd q hi))
        clear hst hi
        go_wp2_with fail
        refine hcall.out.mono ?_
        rintro x w4 ⟨rfl, b4⟩
        have hnew := hid (hnw.out.more b4)
        clear hcall hnw b4
        go_wp2_with fail
        go_roundw
        case rel => exact ⟨e + 1, R, by omega, by go_num, hnew⟩
        case measure => simp [intOf]; omega
    · have he8 : Hid (e = 8) := hid (by omega)
      have v1 : decide ((e : Int) < 8) = false := decide_eq_false (by omega)
      -- what stays from here on
      have hcc : (es V R 8).length + Un.fix V L = V := by
        have := all_bridges (V := V) (E := 8) _ R hst.out.ta.tn hst.out.tw_ rfl (fun k hk hi => hst.out.br k (by omega) hi)
        unfold cc at this
        rw [hst.out.lb_] at this
        exact this
      have hbr : Hid (brs V 8 R = es V R 8) := hid (brs_all (fun k hk hi => hst.out.br k (by omega) hi))
      replace hcc := hid hcc
      clear he hge
      go_wp2_with fail
      go_loopw [12, 13] (fun c u wr => ∃ (i m : Nat), i ≤ 8 ∧ u = .int .i64 (i : Int) ∧ c = .int .i64 (m : Int) ∧ m ≤ i ∧ Hid (m = (es V R i).length ∧ Bq w tb gx V L gv (.slice ad V cap) R e wr)) (fun _ u _ => 8 - (intOf u).toNat)
      case atStart => exact ⟨0, 0, by omega, by go_num, by go_num, by omega, hid ⟨by simp [es], hst.out⟩⟩
      case round =>
        obtain ⟨i, m, hi8, rfl, rfl, hmi, hs2⟩ := hrel
        clear hst
        rcases Nat.lt_or_ge i 8 with hlt | hge
        · have v2 : decide ((i : Int) < 8) = true := decide_eq_true (by omega)
          by_cases hi : In V R (2 * i)
          · have hcall := hid (has_ok hs2.out.2.ta i true hlt (by simp [hi]))
            have hnw : Hid (m + 1 = (es V R (i + 1)).length) := hid (by rw [es_yes hi, List.length_append, ← hs2.out.1]; rfl)
            have hq := hid hs2.out.2
            clear hs2 hi
            go_wp2_with fail
            refine hcall.out.mono ?_
            rintro x w4 ⟨rfl, b4⟩
            have hnew := hid (And.intro hnw.out (hq.out.more b4))
            clear hcall hnw b4 hq
            go_wp2_with fail
            go_roundw
            case rel => exact ⟨i + 1, m + 1, by omega, by go_num, by go_num, by omega, hnew⟩
            case measure => simp [intOf]; omega
          · have hcall := hid (has_ok hs2.out.2.ta i false hlt (by simp [hi]))
            have hnw : Hid (m = (es V R (i + 1)).length) := hid (by rw [lb_step_no hi]; exact hs2.out.1)
            have hq := hid hs2.out.2
            clear hs2 hi
            go_wp2_with fail
            refine hcall.out.mono ?_
            rintro x w4 ⟨rfl, b4⟩
            have hnew := hid (And.intro hnw.out (hq.out.more b4))
            clear hcall hnw b4 hq
            go_wp2_with fail
            go_roundw
            case rel => exact ⟨i + 1, m, by omega, by go_num, rfl, by omega, hnew⟩
            case measure => simp [intOf]; omega
        · have v2 : decide ((i : Int) < 8) = false := decide_eq_false (by omega)
          have hq := hid hs2.out.2
          have hmes : Hid (m = (es V R 8).length) := hid (by have := hs2.out.1; rw [show i = 8 by omega] at this; exact this)
          have hm8 : m ≤ 8 := by omega
          clear hs2 hge hmi hi8
          obtain ⟨ag, cg, rfl⟩ : ∃ ag cg, gv = .slice ag V cg := by
            obtain ⟨ag, ng, cg, e3, hng, _⟩ := hq.out.row
            rw [fl_length] at hng
            exact ⟨ag, cg, by rw [e3, hng]⟩
          go_wp2_with fail
          go_loopw [14, 15] (fun c u wr => ∃ (j r : Nat), j ≤ V ∧ u = .int .i64 (j : Int) ∧ c = .int .i64 (r : Int) ∧ r ≤ j ∧ Hid (r = Un.fix j L ∧ Bq w tb gx V L (.slice ag V cg) (.slice ad V cap) R e wr)) (fun _ u _ => V - (intOf u).toNat)
          case atStart => exact ⟨0, 0, by omega, by go_num, by go_num, by omega, hid ⟨rfl, hq.out⟩⟩
          case round =>
            obtain ⟨j, r, hjV, rfl, rfl, hrj, hs3⟩ := hrel
            clear hq
            rcases Nat.lt_or_ge j V with hlt | hge
            · obtain ⟨g5, q5, c5, e5, _, _, _, hI⟩ := hs3.out.2.row
              obtain ⟨rfl, rfl, rfl⟩ : ag = g5 ∧ V = q5 ∧ cg = c5 := by simpa using e5
              obtain ⟨b6, o6, rfl, c6⟩ := hI j _ (fl_get hlt)
              have j1 : (0 : Int) ≤ (j : Int) := by omega
              have j2 : (j : Int) < (V : Int) := by omega
              have hq := hid hs3.out.2
              by_cases hL : L j = j
              · have v3 : ((L j : Int) == (j : Int)) = true := by simp [hL]
                have hnew : Hid (r + 1 = Un.fix (j + 1) L ∧ Bq w tb gx V L (.slice (some ⟨b6, o6, none⟩) V cg) (.slice ad V cap) R e wr) := hid ⟨by
                  have h1 := hs3.out.1
                  unfold Un.fix at h1 ⊢
                  unfold Un.cnt
                  rw [← h1]
                  simp [hL], hq.out⟩
                generalize L j = Lj at c6 v3
                clear hs3 hL e5 hI hq
                go_wp2_with fail
                go_roundw
                case rel => exact ⟨j + 1, r + 1, by omega, by go_num, by go_num, by omega, hnew⟩
                case measure => simp [intOf]; omega
              · have v3 : ((L j : Int) == (j : Int)) = false := by simp; omega
                have hnew : Hid (r = Un.fix (j + 1) L ∧ Bq w tb gx V L (.slice (some ⟨b6, o6, none⟩) V cg) (.slice ad V cap) R e wr) := hid ⟨by
                  have h1 := hs3.out.1
                  unfold Un.fix at h1 ⊢
                  unfold Un.cnt
                  rw [← h1]
                  simp [hL], hq.out⟩
                generalize L j = Lj at c6 v3
                clear hs3 hL e5 hI hq
                go_wp2_with fail
                go_roundw
                case rel => exact ⟨j + 1, r, by omega, by go_num, rfl, by omega, hnew⟩
                case measure => simp [intOf]; omega
            · have hjV2 : j = V := by omega
              have hq := hid hs3.out.2
              have hrf : m + r = V := by
                have h1 := hs3.out.1
                rw [hjV2] at h1
                have := hcc.out
                rw [← hmes.out, ← h1] at this
                exact this
              have hgr : Hid (∀ y, Below wr.heap.size wr y → Calls Tryz.prog 9 #[.pointer (some ⟨tb, 0, none⟩)] y fun x w' => ∃ u, x = .returned u ∧ Rw y.heap.size w' u (fl V L) ∧ Below y.heap.size y w') := hid fun y hy => by
                have := kgroups_ok (hq.out.more hy).ta hq.out.tw_
                rw [hq.out.lb_] at this
                exact this
              have hbg : Hid (∀ y, Below wr.heap.size wr y → Calls Tryz.prog 10 #[.pointer (some ⟨tb, 0, none⟩)] y fun x w' => ∃ u, x = .returned u ∧ Rw y.heap.size w' u (es V R 8) ∧ Below y.heap.size y w') := hid fun y hy => by
                have := kbridges_ok (hq.out.more hy).ta hq.out.tw_
                rw [hbr.out] at this
                exact this
              clear hs3 hge hbr hcc
              go_wp2_with fail
              refine (hgr.out wr (Below.refl _ _)).mono ?_
              rintro x w5 ⟨u5, rfl, hr5, b5⟩
              have hint := hid (ints_ok u5 (.slice ag V cg) (fl V L) w5 hr5.nl (hq.out.more b5).row)
              replace b5 := hid b5
              clear hr5 hgr
              go_wp2_with fail
              refine hint.out.mono ?_
              rintro x w6 ⟨rfl, m6, rfl⟩
              have b6 := hid (below_thru b5.out (belowN (Below.refl w5.heap.size w5) m6))
              generalize w5.drewN m6 = w6 at b6 ⊢
              clear hint b5
              go_wp2_with fail
              refine (hbg.out w6 b6.out).mono ?_
              rintro x w7 ⟨u7, rfl, hr7, b7⟩
              obtain ⟨a7, c7, rfl⟩ : ∃ a7 c7, u7 = .slice a7 m c7 := by
                obtain ⟨x1, x2, h1, _⟩ := own_any hr7
                exact ⟨x1, x2, by rw [h1, ← hmes.out]⟩
              have b8 := below_thru b6.out b7
              have hq8 := hq.out.more b8
              have c81 : w7.cell? ⟨gx, 1, none⟩ = some (.slice ad V cap) := by simp [World.cell?, hq8.blk]
              have v5 : ((m : Int) == (m : Int)) = true := by simp
              have v6 : wrap64 ((V : Int) - (r : Int)) = (m : Int) := by rw [IntWalk.wrap64_in _ ⟨by omega, by omega⟩]; omega
              have v7 : IntKind.i64.wrap ((V : Int) - (r : Int)) = (m : Int) := by rw [IntKind.wrap_i64]; omega
              have hb8 := hid hq8.bel
              clear hbg hr7 b7 b8 hq8 hq hrf
              go_wp2_with fail
              refine (hsu.out _).mono ?_
              rintro x w9 ⟨rfl, b9⟩
              have fin := hid (hb8.out.trans (b9.mono hb8.out.size))
              clear b9
              go_wp2_with fail
              go_ret
              exact ⟨rfl, fin.out⟩

end Go.Proofs.YtghpjljnbdjmaaaGreatDoor
