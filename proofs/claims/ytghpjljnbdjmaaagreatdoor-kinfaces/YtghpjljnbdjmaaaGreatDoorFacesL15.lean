/- 'KinFaces', walked. -/
import Derived.Test.YtghpjljnbdjmaaaGreatDoorBcount
import Derived.Test.YtghpjljnbdjmaaaGreatDoorBface
import Derived.Test.YtghpjljnbdjmaaaGreatDoorBknear
import Derived.Test.YtghpjljnbdjmaaaGreatDoorBksure
import Derived.Test.YtghpjljnbdjmaaaGreatDoorFaces15
import Derived.Test.YtghpjljnbdjmaaaGreatDoorLaws11
import Derived.Test.YtghpjljnbdjmaaaGreatDoorMade11
import Derived.Test.YtghpjljnbdjmaaaGreatDoorTLay10
import Derived.Deep.CutBlock
import Derived.Deep.CutRange
namespace Go.Proofs.YtghpjljnbdjmaaaGreatDoor
open Go.RowKit
set_option linter.unusedVariables false

open Pq (fl fl_length fl_succ fl_get fl_congr)

abbrev cob (V E0 F0 C : Nat) : Obj := .cells #[.int .i64 (V : Int), .int .i64 (E0 : Int), .int .i64 (F0 : Int), .int .i64 (C : Int)] 51 (0, 0)

/-- Where the law stands. -/
structure Fs (w : World) (tb V D E0 F0 C : Nat) (av : Value) (R : Nat → List Nat) (wr : World) : Prop where
  ta : TA wr w.heap.size tb V 8 R
  row : NL wr av (List.range V)
  blk : wr.heap[D]? = some (cob V E0 F0 C)
  bel : Below w.heap.size w wr

theorem Fs.more {w : World} {tb V D E0 F0 C : Nat} {av : Value} {R : Nat → List Nat} {wr wy : World} (h : Fs w tb V D E0 F0 C av R wr) (hb : Below wr.heap.size wr wy) : Fs w tb V D E0 F0 C av R wy :=
  ⟨h.ta.more hb, h.row.below hb, by rw [hb.block D (Array.getElem?_eq_some_iff.1 h.blk).1]; exact h.blk, h.bel.trans (hb.mono h.bel.size)⟩

theorem Fs.kp {w : World} {tb V D E0 F0 C : Nat} {av : Value} {R R' : Nat → List Nat} {wr wy : World} (h : Fs w tb V D E0 F0 C av R wr) (hta : TA wy w.heap.size tb V 8 R') (hk : Kp w.heap.size wr wy) : Fs w tb V D E0 F0 C av R' wy :=
  ⟨hta, h.row.al hk.al, by rw [hk.keep ⟨_, _, h.blk⟩ (by decide) (by decide) (by decide)]; exact h.blk, h.bel.trans (hk.below h.bel.size)⟩

theorem cc_six {V : Nat} (R : Nat → List Nat) (hV : V ≤ 6) : cc V 8 R ≤ 6 := by
  unfold cc
  rw [fix_countP]
  exact Nat.le_trans List.countP_le_length (by simp; omega)

theorem cob_c3 {w : World} {D V E0 F0 C : Nat} (h : w.heap[D]? = some (cob V E0 F0 C)) : w.cell? ⟨D, 3, none⟩ = some (.int .i64 (C : Int)) := by
  unfold World.cell?
  rw [h]
  rfl

theorem Fs.setc {w : World} {tb V D E0 F0 C : Nat} {av : Value} {R : Nat → List Nat} {wr : World} {g : Nat} (h : Fs w tb V D E0 F0 C av R wr) (hg : Ty wr g 60) (hl : w.heap.size ≤ g) (u : Value) : Fs w tb V D E0 F0 C av R (wr.setCell ⟨g, 1, none⟩ u) := by
  refine ⟨h.ta.setc hg u, h.row.al (fun b hb => Below.heap_setCell _ _ _ _ (fun e => ?_)), ?_, h.bel.os, h.bel.tape, h.bel.output, ?_, fun k hk => (Below.heap_setCell _ _ _ _ (fun e => ?_)).trans (h.bel.block k hk)⟩
  · have e' : b = g := e
    subst e'
    rcases hb with hb | hb
    · exact absurd (hb.uniq hg) (by decide)
    · exact absurd (hb.uniq hg) (by decide)
  · rw [Below.heap_setCell _ _ _ _ (fun e => ?_)]
    · exact h.blk
    · have e' : D = g := e
      subst e'
      exact absurd (Ty.uniq ⟨_, _, h.blk⟩ hg) (by decide)
  · have := h.bel.size
    simpa [World.setCell] using this
  · have e' : k = g := e
    omega

/-- Where the law stands behind the corners' making. -/
structure Cn (w : World) (tb V D E0 F0 C : Nat) (av : Value) (R : Nat → List Nat) (P : Nat) (a ca b cb : Int) (wr : World) : Prop where
  fs : Fs w tb V D E0 F0 C av R wr
  lk : Lk wr P a ca b cb
  lo : w.heap.size ≤ P

section
variable {w : World} {tb V D E0 F0 C : Nat} {av : Value} {R : Nat → List Nat} {P : Nat} {a ca b cb : Int} {wr : World}
theorem Cn.more {wy : World} (h : Cn w tb V D E0 F0 C av R P a ca b cb wr) (hb : Below wr.heap.size wr wy) : Cn w tb V D E0 F0 C av R P a ca b cb wy := ⟨h.fs.more hb, h.lk.below hb, h.lo⟩
theorem Cn.set0 (h : Cn w tb V D E0 F0 C av R P a ca b cb wr) (z : Int) : Cn w tb V D E0 F0 C av R P a z b cb (wr.setCell ⟨P, 1, none⟩ (.int .i64 z)) := by
  refine ⟨h.fs.setc ⟨_, _, h.lk.1⟩ h.lo _, ⟨set_block (k := 1) h.lk.1 (.int .i64 z), ?_⟩, h.lo⟩
  rw [Below.heap_setCell _ _ _ _ (by show P + 1 ≠ P; omega)]
  exact h.lk.2
theorem Cn.set1 (h : Cn w tb V D E0 F0 C av R P a ca b cb wr) (z : Int) : Cn w tb V D E0 F0 C av R P a ca b z (wr.setCell ⟨P + 1, 1, none⟩ (.int .i64 z)) := by
  refine ⟨h.fs.setc ⟨_, _, h.lk.2⟩ (by have := h.lo; omega) _, ⟨?_, set_block (k := 1) h.lk.2 (.int .i64 z)⟩, h.lo⟩
  rw [Below.heap_setCell _ _ _ _ (by show P ≠ P + 1; omega)]
  exact h.lk.1
end

theorem lf_len (l : List Nat) : (lf l).length = l.length := by unfold lf; exact rot_len _ _

theorem prev_in {w : World} {lo tb V E : Nat} {R : Nat → List Nat} (h : TA w lo tb V E R) (k u : Nat) (hu : u < V) (hm : k ∈ R u) : Calls Tryz.prog 26 #[.pointer (some ⟨tb, 0, none⟩), .int .i64 (k : Int)] w fun e w' => e = .returned (.tuple #[.int .i64 (pv (R u) k : Int), .nilIface]) ∧ Below w.heap.size w w' := by
  obtain ⟨n, p, o, r, hN, _, hp, _⟩ := three_ok h (k : Int)
  have hl := (show In V R k from ⟨u, hu, hm⟩).low h.tn
  rcases hN with ⟨_, _, _, _, q⟩ | ⟨_, _, _, _, k', q1, _, q2⟩ | ⟨rfl, k', u', q1, q2, q3, _, rfl, _⟩
  · omega
  · obtain rfl : k = k' := by omega
    exact absurd ⟨u, hu, hm⟩ q2
  · obtain rfl : k = k' := by omega
    obtain rfl := h.tn.one u u' k hu q2 hm q3
    exact hp w (Below.refl _ _)

set_option maxRecDepth 100000 in
set_option maxHeartbeats 16000000 in
theorem faces_law (n : Int) (v : Value) (l : List Ac) (w : World) (hg : Handle w) (hv : AV w v l) :
    Calls Tryz.prog 5 #[.int .i64 n, v] w fun x w' => x = .returned (.bool true) ∧ Below w.heap.size w w' := by
  obtain ⟨j0, hjf, hy0, hy1, hy2⟩ := info_parts infoInt
  have hm := hid (made_ok n v l w hg hv)
  have hsu := hid (fun y => sure_ok15 y)
  clear hg hv
  go_enter Tryz.func5, Tryz.ntmps5
  go_wp2_with fail
  refine hm.out.mono ?_
  rintro x w1 ⟨tb, V, R0, ad, cap, rfl, hV1, hV6, hbo, b1⟩
  have hls := hid (Md.ls hbo b1)
  obtain ⟨c0, c1⟩ := two_new w1 (.int .i64 8) (.slice ad V cap) 27
  clear hbo b1 hm
  obtain ⟨w2, hw2⟩ : ∃ w2, w1.alloc (.cells #[.int .i64 8, .slice ad V cap] 27) = w2 := ⟨_, rfl⟩
  rw [hw2] at hls c0 c1
  have hcc := hid (fun (y : World) (hy : Below w2.heap.size w2 y) => And.intro ((hy.cell (World.block_lt_of_cell? w2 _ c0)).trans c0) ((hy.cell (World.block_lt_of_cell? w2 _ c1)).trans c1))
  replace hw2 := hid hw2
  have hta0 := hid hls.out.ta
  have htw0 := hid hls.out.tw
  have hbe0 := hid hls.out.bel
  clear hls c0 c1
  go_upto_region 2 with fail
  try rw [hw2.out]
  clear hw2
  go_wp2_with fail
  go_loopw [8, 9] (fun s8 s9 wr => ∃ j : Nat, j ≤ V ∧ s9 = .int .i64 (j : Int) ∧ Hid (wr.ownsRow w2.heap.size 3 1 s8 j (ncs (List.range j)) ∧ Below w2.heap.size w2 wr)) (fun _ s9 _ => V - (intOf s9).toNat)
  case atStart => exact ⟨0, by omega, by go_num, hid ⟨World.ownsRow_nil _ _ _ _, Below.refl _ _⟩⟩
  case round =>
   obtain ⟨jv, hj, rfl, hst⟩ := hrel
   obtain ⟨c0, c1⟩ := hcc.out wr hst.out.2
   rcases Nat.lt_or_ge jv V with hjl | hjg
   · have v2 : decide ((jv : Int) < (V : Int)) = true := decide_eq_true (by omega)
     have v2' : decide (jv < V) = true := decide_eq_true (by omega)
     have hown := hst.out.1
     have hbw' := hst.out.2
     have hsz := hbw'.size
     clear hst
     go_wp2_with (at_builtin; refine wpList_append_own _ rfl (.tmp 53) (.tmp 55) 30 rfl w2.heap.size 3 j0 _ 1 8 Tryz.underlying30 hjf hy0 hy1 hy2 rfl (by decide) _ _ _ rfl (hown.alloc _) ⟨wr.heap.size, 0, none⟩ 1 1 [.int .i64 (jv : Int)] rfl rfl (one_new wr _ _) (by simp [Value.oneCell']) (by unfold maxLen; omega) (by omega) (by simp; omega) ?_; intro v' w' ho' hg' _)
     have hnew : Hid (w'.ownsRow w2.heap.size 3 1 v' (jv + 1) (ncs (List.range (jv + 1))) ∧ Below w2.heap.size w2 w') :=
       hid ⟨by rw [List.range_succ, ncs_append]; exact ho', below_row (hbw'.alloc hsz _) (Nat.le_refl _) (hown.alloc _) (Nat.le_refl _) hg'⟩
     clear ho' hg' hown hbw' c0 c1
     go_wp2_with fail
     go_roundw
     case rel => exact ⟨jv + 1, by omega, by go_num, hnew⟩
     case measure => simp [intOf]; omega
   · obtain rfl : V = jv := by omega
     have v2 : decide ((V : Int) < (V : Int)) = false := decide_eq_false (by omega)
     have hnl : Hid (NL wr u8 (List.range V)) := hid (nl_of (l := List.range V) (base := w2.heap.size) (by simpa using hst.out.1))
     have hbr := hid hst.out.2
     have hta := hid (hta0.out.more hbr.out)
     have hbe : Hid (Below w.heap.size w wr) := hid (hbe0.out.trans (hbr.out.mono hbe0.out.size))
     obtain ⟨s0, hs0⟩ : ∃ s : Bool, s = true ↔ Xi V 8 R0 = 0 := by classical exact ⟨decide (Xi V 8 R0 = 0), by simp⟩
     have hfl := hid (sflat_all hta.out htw0.out (by decide) hV1 (by omega) u8 hnl.out.rn s0 hs0)
     have hct := hid (fun y (hy : Below wr.heap.size wr y) => scount_all (hta.out.more hy) htw0.out (by decide) hV1 (by omega) u8 (hnl.out.below hy).rn)
     obtain ⟨E0, hE0⟩ : ∃ x, (es V R0 8).length = x := ⟨_, rfl⟩
     obtain ⟨F0, hF0⟩ : ∃ x, iso R0 V + (fcs V R0 (2 * 8)).length = x := ⟨_, rfl⟩
     obtain ⟨C, hC⟩ : ∃ x, cc V 8 R0 = x := ⟨_, rfl⟩
     have hC6 : C ≤ 6 := by rw [← hC]; exact cc_six R0 hV6
     rw [hE0, hF0, hC] at hct
     replace hs0 := hid hs0
     replace hC := hid hC
     clear hst hta0 hbe0 hbr hE0 hF0
     go_wp2_with fail
     refine hfl.out.mono ?_
     rintro x w3 ⟨rfl, b3⟩
     have hct3 := hid (hct.out w3 b3)
     clear hfl hct c0 c1
     replace b3 := hid b3
     go_wp2_with fail
     refine hct3.out.mono ?_
     rintro x w4 ⟨rfl, b4⟩
     have hbl := hid (heap_alloc_new w4 (cob V E0 F0 C))
     have b5 := below_thru b3.out (b4.trans ((balloc w4 (cob V E0 F0 C)).mono b4.size))
     have hst0 : Hid (Fs w tb V w4.heap.size E0 F0 C u8 R0 (w4.alloc (cob V E0 F0 C)) ∧ Tw V 8 R0 ∧ cc V 8 R0 = C ∧ (s0 = true ↔ Xi V 8 R0 = 0)) := hid ⟨⟨hta.out.more b5, hnl.out.below b5, hbl.out, hbe.out.trans (b5.mono hbe.out.size)⟩, htw0.out, hC.out, hs0.out⟩
     obtain ⟨D, hD⟩ : ∃ D, w4.heap.size = D := ⟨_, rfl⟩
     obtain ⟨w5, hw5⟩ : ∃ y, w4.alloc (cob V E0 F0 C) = y := ⟨_, rfl⟩
     rw [hD, hw5] at hst0
     replace hw5 := hid hw5
     clear b4 b5 hbl b3 hct3 hta hnl hbe hs0 hC htw0
     go_upto_region 11 with fail
     try rw [hw5.out]
     try rw [hD]
     clear hw5 hD
     go_wp2_with fail
     go_loopw [10, 11, 14, 15, 16, 17, 18, 19, 20, 21, 22, 23, 24, 25, 26, 27, 28, 29, 30, 31, 32, 33, 34, 35, 36] (fun s10 _ s14 _ _ _ _ _ _ _ _ _ _ _ _ _ _ _ _ _ _ _ _ _ _ wr => ∃ (e : Nat) (R : Nat → List Nat) (s : Bool), e ≤ 8 ∧ s14 = .int .i64 (e : Int) ∧ s10 = .bool s ∧ Hid (Fs w tb V D E0 F0 C u8 R wr ∧ Tw V 8 R ∧ cc V 8 R = C ∧ (s = true ↔ Xi V 8 R = 0))) (fun _ _ s14 _ _ _ _ _ _ _ _ _ _ _ _ _ _ _ _ _ _ _ _ _ _ _ => 8 - (intOf s14).toNat)
     case atStart => exact ⟨0, R0, s0, by omega, by go_num, rfl, hst0⟩
     case round =>
      obtain ⟨e, R, s, he, rfl, rfl, hst⟩ := hrel
      clear hst0
      rcases Nat.lt_or_ge e 8 with hlt | hge
      · have v1 : decide ((e : Int) < 8) = true := decide_eq_true (by omega)
        by_cases hi : In V R (2 * e)
        · have hj := (hst.out.2.1 e hlt).1 hi
          obtain ⟨sb, hsb⟩ : ∃ x : Bool, x = true ↔ Br V R e := by classical exact ⟨decide (Br V R e), by simp⟩
          have hhas := hid (has_ok hst.out.1.ta e true hlt (by simp [hi]))
          have hbrc := hid (fun y (hy : Below wr.heap.size wr y) => kbridge_ok (hst.out.1.ta.more hy) hst.out.2.1 e hlt hi sb hsb)
          have hwk := fun y (hy : Below wr.heap.size wr y) => walk_ok (hst.out.1.ta.more hy) hst.out.2.1 (2 * e) hi
          rw [show ((2 * e : Nat) : Int) = 2 * (e : Int) by omega] at hwk
          replace hwk := hid hwk
          obtain ⟨o, ho⟩ : ∃ o, Pq.orb (fx V R) (2 * e) = o := ⟨_, rfl⟩
          have hol : o.length ≤ 16 := by
            have := (fx_pm hst.out.1.ta.tn hst.out.2.1).per_is (hi.low hst.out.1.ta.tn)
            rw [← ho]
            unfold Pq.orb
            rw [fl_length]
            exact this.2
          have hod : Hid (∀ k d, o[k]? = some d → d < 16) := hid fun k d hk => (orb_in hst.out.1.ta.tn hst.out.2.1 hi (by rw [ho]; exact List.mem_of_getElem? hk)).low hst.out.1.ta.tn
          have hone : Hid (s = true → (sb = true ↔ 2 * e + 1 ∈ o)) := hid fun q => by
            rw [hsb, ← ho]
            exact br_face hst.out.1.ta.tn hst.out.2.1 hlt hi (hst.out.2.2.2.1 q)
          rw [ho] at hwk
          replace hsb := hid hsb
          replace hi := hid hi
          replace hj := hid hj
          clear ho
          go_wp2_with fail
          refine hhas.out.mono ?_
          rintro x w6 ⟨rfl, b6⟩
          replace b6 := hid b6
          clear hhas
          go_wp2_with fail
          refine (hbrc.out w6 b6.out).mono ?_
          rintro x w7 ⟨rfl, b7⟩
          replace b7 := hid (below_thru b6.out b7)
          clear b6 hbrc
          go_wp2_with fail
          refine (hwk.out w7 b7.out).mono ?_
          rintro x w8 ⟨wv, rfl, hwr, b8⟩
          replace b8 := hid (below_thru b7.out b8)
          obtain ⟨wa, wc_, rfl⟩ : ∃ wa wc, wv = .slice wa o.length wc := by
            obtain ⟨x1, x2, h1, _⟩ := own_any hwr
            exact ⟨x1, x2, h1⟩
          have hnl := hid hwr.nl
          obtain ⟨K, hK⟩ : ∃ K, o.length = K := ⟨_, rfl⟩
          rw [hK] at hnl hol ⊢
          replace hK := hid hK
          have hst1 : Hid (((false : Bool) = true ↔ 2 * e + 1 ∈ o.take 0) ∧ NL w8 (.slice wa K wc_) o ∧ Below wr.heap.size wr w8) := hid ⟨by simp, hnl.out, b8.out⟩
          clear hwr hwk b7 b8 hnl
          obtain ⟨wo, rfl⟩ : ∃ y, y = wr := ⟨_, rfl⟩
          go_wp2_with fail
          go_loopw [19, 20] (fun s19 s20 wy => ∃ (k : Nat) (x : Bool), k ≤ K ∧ s20 = .int .i64 (k : Int) ∧ s19 = .bool x ∧ Hid ((x = true ↔ 2 * e + 1 ∈ o.take k) ∧ NL wy (.slice wa K wc_) o ∧ Below wo.heap.size wo wy)) (fun _ s20 _ => K - (intOf s20).toNat)
          case atStart => exact ⟨0, false, by omega, by go_num, rfl, hst1⟩
          case round =>
           obtain ⟨k, xb, hk, rfl, rfl, hs1⟩ := hrel
           clear hst1
           rcases Nat.lt_or_ge k K with hkl | hkg
           · have v3 : decide ((k : Int) < (K : Int)) = true := decide_eq_true (by omega)
             have v3' : decide (k < K) = true := decide_eq_true hkl
             obtain ⟨d, hd⟩ : ∃ d, o[k]? = some d := by
               rcases hq0 : o[k]? with _ | d
               · rw [List.getElem?_eq_none_iff, hK.out] at hq0; omega
               · exact ⟨d, rfl⟩
             have hd16 := hod.out k d hd
             obtain ⟨g5, q5, c5, e5, _, _, _, hI⟩ := hs1.out.2.1
             obtain ⟨rfl, rfl, rfl⟩ : wa = g5 ∧ K = q5 ∧ wc_ = c5 := by simpa using e5
             obtain ⟨b6, o6, rfl, c6⟩ := hI k d hd
             have htk : o.take (k + 1) = o.take k ++ [d] := by rw [List.take_add_one, hd]; rfl
             have j1 : (0 : Int) ≤ (k : Int) := by omega
             have j2 : (k : Int) < (K : Int) := by omega
             cases xb with
             | true =>
               have hnew : Hid (((true : Bool) = true ↔ 2 * e + 1 ∈ o.take (k + 1)) ∧ NL wr (.slice (some ⟨b6, o6, none⟩) K wc_) o ∧ Below wo.heap.size wo wr) := hid ⟨⟨fun _ => by rw [htk]; exact List.mem_append_left _ (hs1.out.1.1 rfl), fun _ => rfl⟩, hs1.out.2⟩
               clear hs1 hI e5 htk hd
               go_wp2_with fail
               go_roundw
               case rel => exact ⟨k + 1, true, by omega, by go_num, rfl, hnew⟩
               case measure => simp [intOf]; omega
             | false =>
               by_cases hde : d = 2 * e + 1
               · have hnew : Hid (((true : Bool) = true ↔ 2 * e + 1 ∈ o.take (k + 1)) ∧ NL wr (.slice (some ⟨b6, o6, none⟩) K wc_) o ∧ Below wo.heap.size wo wr) := hid ⟨⟨fun _ => by rw [htk, hde]; simp, fun _ => rfl⟩, hs1.out.2⟩
                 have t3 : ((d : Int) == 2 * (e : Int) + 1) = true := by rw [beq_iff_eq]; omega
                 clear hs1 hI e5 htk hd hde
                 go_wp2_with fail
                 go_roundw
                 case rel => exact ⟨k + 1, true, by omega, by go_num, rfl, hnew⟩
                 case measure => simp [intOf]; omega
               · have hnew : Hid (((false : Bool) = true ↔ 2 * e + 1 ∈ o.take (k + 1)) ∧ NL wr (.slice (some ⟨b6, o6, none⟩) K wc_) o ∧ Below wo.heap.size wo wr) := hid ⟨⟨fun q => (by cases q), fun q => by
                   rw [htk] at q
                   rcases List.mem_append.1 q with q | q
                   · exact hs1.out.1.2 q
                   · simp at q; omega⟩, hs1.out.2⟩
                 have t3 : ((d : Int) == 2 * (e : Int) + 1) = false := beq_false_of_ne (by omega)
                 clear hs1 hI e5 htk hd hde
                 go_wp2_with fail
                 go_roundw
                 case rel => exact ⟨k + 1, false, by omega, by go_num, rfl, hnew⟩
                 case measure => simp [intOf]; omega
           · obtain rfl : K = k := by omega
             have v3 : decide ((K : Int) < (K : Int)) = false := decide_eq_false (by omega)
             have hsx : Hid (s = true → sb = xb) := hid fun q => by
               have h1 := hone.out q
               have h2 := hs1.out.1
               rw [← hK.out, List.take_length] at h2
               cases sb <;> cases xb <;> simp_all
             have hfs := hid (hst.out.1.more hs1.out.2.2)
             have htw := hid hst.out.2.1
             have hcR := hid hst.out.2.2.1
             clear hs1 hone hod hst hK
             go_upto_region 26 with fail
             go_cut [124] from 119 to 124 (fun s124 wx => s124 = .bool false ∧ wr = wx)
             case first =>
               cases s with
               | false =>
                 go_wp2_with fail
                 go_meet
                 case rel => exact ⟨rfl, rfl⟩
               | true =>
                 obtain rfl := hsx.out rfl
                 go_wp2_with fail
                 go_meet
                 case rel => exact ⟨rfl, rfl⟩
             case rest =>
               obtain ⟨rfl, rfl⟩ := hcut
               clear hsx
               -- what is known of the edge's ends
               have hl := hfs.out.ta.tn.lift htw.out (e := e)
               obtain ⟨R1, hR1⟩ : ∃ x, liftR R e = x := ⟨_, rfl⟩
               obtain ⟨A, hAe⟩ : ∃ x, og V R (2 * e) = x := ⟨_, rfl⟩
               obtain ⟨B, hBe⟩ : ∃ x, og V R (2 * e + 1) = x := ⟨_, rfl⟩
               have hAi := og_is hi.out
               have hBi := og_is hj.out
               rw [hAe] at hAi
               rw [hBe] at hBi
               obtain ⟨hA, hAm⟩ := hAi
               obtain ⟨hB, hBm⟩ := hBi
               have hrl := fun (p q : Int) hp hq => relay hfs.out.ta.tn htw.out hlt hi.out (p := p) (q := q) hp hq
               have hcc1 := cc_lift hfs.out.ta.tn htw.out hlt hi.out
               have hor1 := fun y (hy : Below wr.heap.size wr y) => origin_in (hfs.out.ta.more hy) (2 * e) hi.out
               have hor2 := fun y (hy : Below wr.heap.size wr y) => origin_in (hfs.out.ta.more hy) (2 * e + 1) hj.out
               have hpr1 := fun y (hy : Below wr.heap.size wr y) => prev_in (hfs.out.ta.more hy) (2 * e) A hA hAm
               have hpr2 := fun y (hy : Below wr.heap.size wr y) => prev_in (hfs.out.ta.more hy) (2 * e + 1) B hB hBm
               have hlf := fun y (hy : Below wr.heap.size wr y) => lift_ok (hfs.out.ta.more hy) e hlt hi.out hj.out
               have hc1 := co_prev (e := e) hfs.out.ta.tn hA hAm
               have hc2 := co_prev (e := e) hfs.out.ta.tn hB hBm
               have hp1l := In.low hfs.out.ta.tn (d := pv (R A) (2 * e)) ⟨A, hA, (pv_mem (hfs.out.ta.tn.nd A hA) hAm).1⟩
               have hp2l := In.low hfs.out.ta.tn (d := pv (R B) (2 * e + 1)) ⟨B, hB, (pv_mem (hfs.out.ta.tn.nd B hB) hBm).1⟩
               have hno1 : ¬ In V (liftR R e) (2 * e) := fun z => ((hl.2.2 _).1 z).2.1 rfl
               have hno2 : ¬ In V (liftR R e) (2 * e + 1) := fun z => ((hl.2.2 _).1 z).2.2 rfl
               have htw1 := hl.2.1
               obtain ⟨p1, hp1⟩ : ∃ x, pv (R A) (2 * e) = x := ⟨_, rfl⟩
               obtain ⟨p2, hp2⟩ : ∃ x, pv (R B) (2 * e + 1) = x := ⟨_, rfl⟩
               rw [hAe, hBe, hR1] at hrl
               rw [hAe, show ((2 * e : Nat) : Int) = 2 * (e : Int) by omega] at hor1
               rw [hBe, show ((2 * e + 1 : Nat) : Int) = 2 * (e : Int) + 1 by omega] at hor2
               rw [hp1, show ((2 * e : Nat) : Int) = 2 * (e : Int) by omega] at hpr1
               rw [hp2, show ((2 * e + 1 : Nat) : Int) = 2 * (e : Int) + 1 by omega] at hpr2
               rw [hR1] at hlf hno1 hno2 htw1 hcc1
               rw [hp1] at hp1l
               rw [hp2] at hp2l
               rw [hp1, hR1] at hc1
               rw [hp2, hR1] at hc2
               obtain ⟨h1, hh1⟩ : ∃ x, p1 / 2 = x := ⟨_, rfl⟩
               obtain ⟨h2, hh2⟩ : ∃ x, p2 / 2 = x := ⟨_, rfl⟩
               rw [hh1] at hc1
               rw [hh2] at hc2
               have z1 : Int.tdiv (p1 : Int) 2 = (h1 : Int) := by rw [Int.tdiv_eq_ediv_of_nonneg (by omega)]; omega
               have z2 : Int.tdiv (p2 : Int) 2 = (h2 : Int) := by rw [Int.tdiv_eq_ediv_of_nonneg (by omega)]; omega
               have h18 : h1 ≤ 8 := by omega
               have h28 : h2 ≤ 8 := by omega
               obtain ⟨C1, hC1⟩ : ∃ x, cc V 8 R1 = x := ⟨_, rfl⟩
               rw [hC1, hcR.out] at hcc1
               have t5 : ((C1 : Int) == (C : Int) + 1) = sb := by
                 rcases hcc1 with ⟨q1, q2⟩ | ⟨q1, q2⟩
                 · rw [hsb.out.2 q1, beq_iff_eq]; omega
                 · have : sb = false := by
                     cases sb
                     · rfl
                     · exact absurd (hsb.out.1 rfl) q1
                   rw [this]
                   exact beq_false_of_ne (by omega)
               have hC1b : C1 ≤ 7 := by rcases hcc1 with ⟨_, q⟩ | ⟨_, q⟩ <;> omega
               have hlay := hid (fun y (hy : TA y w.heap.size tb V 8 R1) (ca cb : Int) (k1 : Co V R1 (A : Int) ca) (k2 : Co V R1 (B : Int) cb) => lay_ok hy e A B ca cb hlt hno1 hno2 k1 k2)
               have hcnt := hid (fun y (hy : TA y w.heap.size tb V 8 R1) (hn : NL y u8 (List.range V)) => scount_all hy htw1 (by decide) hV1 (by omega) u8 hn.rn)
               obtain ⟨E1, hE1⟩ : ∃ x, (es V R1 8).length = x := ⟨_, rfl⟩
               obtain ⟨F1, hF1⟩ : ∃ x, iso R1 V + (fcs V R1 (2 * 8)).length = x := ⟨_, rfl⟩
               rw [hE1, hF1, hC1] at hcnt
               replace hrl := hid hrl
               replace hor1 := hid hor1
               replace hor2 := hid hor2
               replace hpr1 := hid hpr1
               replace hpr2 := hid hpr2
               replace hlf := hid hlf
               replace hc1 := hid hc1
               replace hc2 := hid hc2
               clear hl hcc1 hno1 hno2 htw1 hE1 hF1 hC1 hh1 hh2 hp1 hp2 hAe hBe hAm hBm hi hj hsb hR1 htw
               go_wp2_with fail
               refine (hor1.out wr (Below.refl _ _)).mono ?_
               rintro x y1 ⟨rfl, b1⟩
               replace b1 := hid b1
               clear hor1
               go_wp2_with fail
               refine (hor2.out y1 b1.out).mono ?_
               rintro x y2 ⟨rfl, b2⟩
               replace b2 := hid (below_thru b1.out b2)
               clear hor2 b1
               go_wp2_with fail
               refine (hpr1.out y2 b2.out).mono ?_
               rintro x y3 ⟨rfl, b3⟩
               replace b3 := hid (below_thru b2.out b3)
               clear hpr1 b2
               go_wp2_with fail
               refine (hpr2.out y3 b3.out).mono ?_
               rintro x y4 ⟨rfl, b4⟩
               replace b4 := hid (below_thru b3.out b4)
               clear hpr2 b3
               go_wp2_with fail
               refine (hlf.out y4 b4.out).mono ?_
               rintro x y5 ⟨rfl, ta5, kp5⟩
               have f5 := hid ((hfs.out.more b4.out).kp ta5 kp5)
               have hc5 := hid (hcnt.out y5 ta5 f5.out.row)
               clear hlf b4 ta5 kp5 hfs hcnt
               go_wp2_with fail
               refine hc5.out.mono ?_
               rintro x y6 ⟨rfl, b6⟩
               have f6 := hid (f5.out.more b6)
               have f7 := hid (f6.out.more (balloc y6 (cob V E1 F1 C1)))
               have g7 := heap_alloc_new y6 (cob V E1 F1 C1)
               obtain ⟨G, hG⟩ : ∃ G, y6.heap.size = G := ⟨_, rfl⟩
               obtain ⟨y7, hy7⟩ : ∃ y, y6.alloc (cob V E1 F1 C1) = y := ⟨_, rfl⟩
               rw [hy7] at f7 g7
               rw [hG] at g7
               replace g7 := hid g7
               replace hy7 := hid hy7
               replace hG := hid hG
               clear b6 hc5 f5 f6
               go_upto_region 35 with fail
               try rw [hy7.out]
               try rw [hG.out]
               clear hy7 hG
               have r1 := cob_c3 g7.out
               have r2 := cob_c3 f7.out.blk
               go_upto_region 37 with fail
               clear r1 r2 t5 g7
               have k8 : Hid (Lk ((y7.alloc (.cells #[.int .i64 (A : Int), .int .i64 (p1 : Int)] 60)).alloc (.cells #[.int .i64 (B : Int), .int .i64 (p2 : Int)] 60)) y7.heap.size (A : Int) (p1 : Int) (B : Int) (p2 : Int)) := hid (Lk.new y7 _ _ _ _)
               have bb8 : Below y7.heap.size y7 ((y7.alloc (.cells #[.int .i64 (A : Int), .int .i64 (p1 : Int)] 60)).alloc (.cells #[.int .i64 (B : Int), .int .i64 (p2 : Int)] 60)) := (balloc _ _).alloc (by simp) _
               have f8 := hid (f7.out.more bb8)
               have lo8 := f7.out.bel.size
               obtain ⟨P, hP⟩ : ∃ P, y7.heap.size = P := ⟨_, rfl⟩
               obtain ⟨y8, hy8⟩ : ∃ y, (y7.alloc (.cells #[.int .i64 (A : Int), .int .i64 (p1 : Int)] 60)).alloc (.cells #[.int .i64 (B : Int), .int .i64 (p2 : Int)] 60) = y := ⟨_, rfl⟩
               rw [hy8] at f8 k8
               rw [hP] at k8 lo8
               have hk8 : Hid (Cn w tb V D E0 F0 C u8 R1 P (A : Int) (p1 : Int) (B : Int) (p2 : Int) y8) := hid ⟨f8.out, k8.out, lo8⟩
               replace hy8 := hid hy8
               replace hP := hid hP
               clear bb8 f8 k8 lo8 f7
               go_upto_region 38 with fail
               try rw [hy8.out]
               try rw [hP.out]
               clear hy8 hP
               go_upto_if 186 with fail
               go_cut [33, 34] from 183 to 200 (fun _ _ wx => ∃ ca : Int, Hid (Co V R1 (A : Int) ca ∧ Cn w tb V D E0 F0 C u8 R1 P (A : Int) ca (B : Int) (p2 : Int) wx))
               case first =>
                 by_cases hpe : h1 = e
                 · have t1 : ((h1 : Int) == (e : Int)) = true := by simp [hpe]
                   have t1' : (h1 == e) = true := by simp [hpe]
                   replace hpe := hid hpe
                   obtain ⟨_, _, _, f1⟩ := blk2' hk8.out.lk.1
                   have n1 := hid (hk8.out.set0 (-1))
                   go_upto_region 40 with fail
                   generalize y8.setCell ⟨P, 1, none⟩ (.int .i64 (-1)) = z1 at n1 ⊢
                   clear f1 t1 t1'
                   have hr1 := hid (round_ok n1.out.fs.ta A hA)
                   go_wp2_with fail
                   refine hr1.out.mono ?_
                   rintro x z2 ⟨rv, rfl, hrow, b2⟩
                   have n2 := hid (n1.out.more b2)
                   clear b2 hr1 n1
                   obtain ⟨m, hm⟩ : ∃ m, (R1 A).length = m := ⟨_, rfl⟩
                   rcases Nat.eq_zero_or_pos m with hm0 | hm0
                   · have hbare : Hid (Co V R1 (A : Int) (-1)) := hid (co_bare hA (List.eq_nil_of_length_eq_zero (by omega)))
                     rw [hm] at hrow
                     obtain ⟨rad, rcap, rfl, _, _⟩ := own_any hrow
                     subst hm0
                     have t2 : decide ((0 : Int) < ((0 : Nat) : Int)) = false := by decide
                     clear hrow hm
                     go_wp2_with fail
                     go_meet
                     case rel => exact ⟨-1, hid ⟨hbare.out, n2.out⟩⟩
                   · have hnl := nl_of (l := lf (R1 A)) (by rw [lf_len]; exact hrow)
                     rw [hm] at hrow
                     obtain ⟨rg, rcap, rfl, _, _⟩ := own_form hrow hm0
                     obtain ⟨x0, hx0⟩ : ∃ x0, (lf (R1 A))[0]? = some x0 := by
                       rcases hq0 : (lf (R1 A))[0]? with _ | x0
                       · rw [List.getElem?_eq_none_iff, lf_len] at hq0; omega
                       · exact ⟨x0, rfl⟩
                     have hfst : Hid (Co V R1 (A : Int) (x0 : Int)) := hid (co_first hA hx0)
                     have c6 : z2.cell? ⟨rg, 0, none⟩ = some (.int .i64 (x0 : Int)) := by
                       obtain ⟨ad5, n5, c5, e5, _, _, _, hI⟩ := hnl
                       obtain ⟨b6, o6, e6, c6⟩ := hI 0 x0 hx0
                       rw [e6] at e5
                       obtain ⟨⟨rfl, rfl⟩, _, _⟩ : (rg = b6 ∧ 0 = o6) ∧ m = n5 ∧ rcap = c5 := by simpa using e5
                       exact c6
                     have t2 : decide ((0 : Int) < (m : Int)) = true := decide_eq_true (by omega)
                     have t2' : decide (0 < m) = true := decide_eq_true hm0
                     have j1 : (0 : Int) < (m : Int) := by omega
                     obtain ⟨_, _, _, f1⟩ := blk2' n2.out.lk.1
                     have n3 := hid (n2.out.set0 (x0 : Int))
                     clear hrow hm hnl hx0
                     go_wp2_with fail
                     go_meet
                     case rel => exact ⟨(x0 : Int), hid ⟨hfst.out, n3.out⟩⟩
                 · have t1 : ((h1 : Int) == (e : Int)) = false := beq_false_of_ne (by omega)
                   have t1' : (h1 == e) = false := beq_false_of_ne hpe
                   have hco := hid (hc1.out hpe)
                   clear hpe
                   go_wp2_with fail
                   go_meet
                   case rel => exact ⟨(p1 : Int), hid ⟨hco.out, hk8.out⟩⟩
               case rest =>
                obtain ⟨ca, hcc9⟩ := hcut
                have hca := hid hcc9.out.1
                have hk9 := hid hcc9.out.2
                clear hcc9 hk8 hc1 z1
                obtain ⟨y9, hy9⟩ : ∃ y, y = wc := ⟨wc, rfl⟩
                subst hy9
                go_upto_if 204 with fail
                go_cut [35, 36] from 201 to 218 (fun _ _ wx => ∃ cb : Int, Hid (Co V R1 (B : Int) cb ∧ Cn w tb V D E0 F0 C u8 R1 P (A : Int) ca (B : Int) cb wx))
                case first =>
                  by_cases hpe : h2 = e
                  · have t1 : ((h2 : Int) == (e : Int)) = true := by simp [hpe]
                    have t1' : (h2 == e) = true := by simp [hpe]
                    replace hpe := hid hpe
                    obtain ⟨_, _, _, f1⟩ := blk2' hk9.out.lk.2
                    have n1 := hid (hk9.out.set1 (-1))
                    go_upto_region 45 with fail
                    generalize y9.setCell ⟨P + 1, 1, none⟩ (.int .i64 (-1)) = z1 at n1 ⊢
                    clear f1 t1 t1'
                    have hr1 := hid (round_ok n1.out.fs.ta B hB)
                    go_wp2_with fail
                    refine hr1.out.mono ?_
                    rintro x z2 ⟨rv, rfl, hrow, b2⟩
                    have n2 := hid (n1.out.more b2)
                    clear b2 hr1 n1
                    obtain ⟨m, hm⟩ : ∃ m, (R1 B).length = m := ⟨_, rfl⟩
                    rcases Nat.eq_zero_or_pos m with hm0 | hm0
                    · have hbare : Hid (Co V R1 (B : Int) (-1)) := hid (co_bare hB (List.eq_nil_of_length_eq_zero (by omega)))
                      rw [hm] at hrow
                      obtain ⟨rad, rcap, rfl, _, _⟩ := own_any hrow
                      subst hm0
                      have t2 : decide ((0 : Int) < ((0 : Nat) : Int)) = false := by decide
                      clear hrow hm
                      go_wp2_with fail
                      go_meet
                      case rel => exact ⟨-1, hid ⟨hbare.out, n2.out⟩⟩
                    · have hnl := nl_of (l := lf (R1 B)) (by rw [lf_len]; exact hrow)
                      rw [hm] at hrow
                      obtain ⟨rg, rcap, rfl, _, _⟩ := own_form hrow hm0
                      obtain ⟨x0, hx0⟩ : ∃ x0, (lf (R1 B))[0]? = some x0 := by
                        rcases hq0 : (lf (R1 B))[0]? with _ | x0
                        · rw [List.getElem?_eq_none_iff, lf_len] at hq0; omega
                        · exact ⟨x0, rfl⟩
                      have hfst : Hid (Co V R1 (B : Int) (x0 : Int)) := hid (co_first hB hx0)
                      have c6 : z2.cell? ⟨rg, 0, none⟩ = some (.int .i64 (x0 : Int)) := by
                        obtain ⟨ad5, n5, c5, e5, _, _, _, hI⟩ := hnl
                        obtain ⟨b6, o6, e6, c6⟩ := hI 0 x0 hx0
                        rw [e6] at e5
                        obtain ⟨⟨rfl, rfl⟩, _, _⟩ : (rg = b6 ∧ 0 = o6) ∧ m = n5 ∧ rcap = c5 := by simpa using e5
                        exact c6
                      have t2 : decide ((0 : Int) < (m : Int)) = true := decide_eq_true (by omega)
                      have t2' : decide (0 < m) = true := decide_eq_true hm0
                      have j1 : (0 : Int) < (m : Int) := by omega
                      obtain ⟨_, _, _, f1⟩ := blk2' n2.out.lk.2
                      have n3 := hid (n2.out.set1 (x0 : Int))
                      clear hrow hm hnl hx0
                      go_wp2_with fail
                      go_meet
                      case rel => exact ⟨(x0 : Int), hid ⟨hfst.out, n3.out⟩⟩
                  · have t1 : ((h2 : Int) == (e : Int)) = false := beq_false_of_ne (by omega)
                    have t1' : (h2 == e) = false := beq_false_of_ne hpe
                    have hco := hid (hc2.out hpe)
                    clear hpe
                    go_wp2_with fail
                    go_meet
                    case rel => exact ⟨(p2 : Int), hid ⟨hco.out, hk9.out⟩⟩
                case rest =>
                 obtain ⟨cb, hcc10⟩ := hcut
                 have hcb := hid hcc10.out.1
                 have hk10 := hid hcc10.out.2
                 clear hcc10 hk9 hc2 z2
                 obtain ⟨y10, hy10⟩ : ∃ y, y = wc := ⟨wc, rfl⟩
                 subst hy10
                 obtain ⟨q0, q1, _, _⟩ := blk2' hk10.out.lk.1
                 obtain ⟨q2, q3, _, _⟩ := blk2' hk10.out.lk.2
                 have hly := hid (hlay.out y10 hk10.out.fs.ta ca cb hca.out hcb.out)
                 have hre := hid (hrl.out ca cb hca.out hcb.out)
                 obtain ⟨R2, hR2⟩ : ∃ x, layR R1 e A B (co ca) (co cb) = x := ⟨_, rfl⟩
                 rw [hR2] at hly hre
                 clear hlay hrl hR2
                 obtain ⟨s2, hs2⟩ : ∃ s : Bool, s = true ↔ Xi V 8 R2 = 0 := by classical exact ⟨decide (Xi V 8 R2 = 0), by simp⟩
                 replace hs2 := hid hs2
                 go_wp2_with fail
                 refine hly.out.mono ?_
                 rintro x y11 ⟨rfl, ta11, kp11⟩
                 have f11 := hid (hk10.out.fs.kp ta11 kp11)
                 have hfl := hid (sflat_all ta11 hre.out.1 (by decide) hV1 (by omega) u8 f11.out.row.rn s2 hs2.out)
                 clear hly ta11 kp11 q0 q1 q2 q3 hk10
                 go_wp2_with fail
                 refine hfl.out.mono ?_
                 rintro x y12 ⟨rfl, b12⟩
                 have hnew : Hid (Fs w tb V D E0 F0 C u8 R2 y12 ∧ Tw V 8 R2 ∧ cc V 8 R2 = C ∧ (s2 = true ↔ Xi V 8 R2 = 0)) := hid ⟨f11.out.more b12, hre.out.1, hre.out.2.trans hcR.out, hs2.out⟩
                 clear hfl f11 b12 hre hs2 hcR
                 go_wp2_with fail
                 go_roundw
                 case rel => exact ⟨e + 1, R2, s2, by omega, by go_num, rfl, hnew⟩
                 case measure => simp [intOf]; omega
        · have hcall := hid (has_ok hst.out.1.ta e false hlt (by simp [hi]))
          have hnw := hid hst.out
          clear hst hi
          go_wp2_with fail
          refine hcall.out.mono ?_
          rintro x w6 ⟨rfl, b6⟩
          have hnew := hid (And.intro (hnw.out.1.more b6) hnw.out.2)
          clear hcall hnw b6
          go_wp2_with fail
          go_roundw
          case rel => exact ⟨e + 1, R, s, by omega, by go_num, rfl, hnew⟩
          case measure => simp [intOf]; omega
      · have he8 : Hid (e = 8) := hid (by omega)
        have v1 : decide ((e : Int) < 8) = false := decide_eq_false (by omega)
        have hbe := hid hst.out.1.bel
        clear hst
        go_wp2_with fail
        refine (hsu.out _).mono ?_
        rintro x w9 ⟨rfl, b9⟩
        have fin := hid (hbe.out.trans (b9.mono hbe.out.size))
        clear b9
        go_wp2_with fail
        go_ret
        exact ⟨rfl, fin.out⟩

end Go.Proofs.YtghpjljnbdjmaaaGreatDoor
