/- 'FaceNexts', walked. -/
import Derived.Test.YtieglcjfphmglaaDoorLaws11
namespace Go.Proofs.YtieglcjfphmglaaDoor
open Go.RowKit
set_option linter.unusedVariables false

set_option maxRecDepth 100000 in
set_option maxHeartbeats 4000000 in
theorem nexts_law (n : Int) (v : Value) (l : List Ac) (w : World) (hg : Handle w) (hv : AV w v l) :
    Calls Tryd.prog 7 #[.int .i64 n, v] w fun x w' => x = .returned (.bool true) ∧ Below w.heap.size w w' := by
  obtain ⟨i0, hif, hz0, hz1, hz2⟩ := info_parts infoBool
  have hm := hid (made_ok n v l w hg hv)
  have hsu := hid (fun y => sure_ok y)
  clear hg hv
  go_enter Tryd.func7, Tryd.ntmps7
  go_wp2_with fail
  refine hm.out.mono ?_
  rintro x w1 ⟨tb, V, R, ad, cap, rfl, hV1, hV6, hbo, b1⟩
  have hls := hid (Md.ls hbo b1)
  clear hbo b1 hm
  obtain ⟨w2, hw2⟩ : ∃ w2, w1.alloc (.cells #[.int .i64 8, .slice ad V cap] 26) = w2 := ⟨_, rfl⟩
  rw [hw2] at hls
  replace hw2 := hid hw2
  have hsz := Nat.le_refl w2.heap.size
  go_upto_region 2 with fail
  try rw [hw2.out]
  go_wp2_with (at_make; refine wpList_make_full _ rfl (.const (.int .i64 16)) (.const (.int .i64 16)) 64 rfl w2.heap.size 4 i0 (.bool false) 1 Tryd.underlying64 hif hz0 hz1 .i64 .i64 _ _ 16 rfl rfl rfl rfl (by rw [hz2]; omega) (by unfold maxLen; omega) hsz ?_; intro w3 hown hgrow)
  have hst0 : Hid (Mk w2.heap.size w2 w3 (.slice (some ⟨w2.heap.size, 0, none⟩) 16 16) 16 (marks ((laid V R 0).map (fx V R)))) := by
    rw [bl_made] at hown
    refine ⟨?_, (Below.refl w2.heap.size w2).grown hgrow hsz (by simp), Nat.le_refl _⟩
    rw [show bl 16 (marks ((laid V R 0).map (fx V R))) = bl 16 (fun _ => false) from bl_congr (fun i _ => by simp [marks, laid])]
    exact hown
  clear hown hgrow
  have htn := hid hls.out.tn
  have htw := hid hls.out.tw
  go_wp2_with fail
  go_loopw [9, 10, 11, 12, 13, 14, 15, 16, 17] (fun s9 _ _ _ _ _ _ _ _ wr => ∃ d : Nat, d ≤ 16 ∧ s9 = .int .i64 (d : Int) ∧ Hid (Mk w2.heap.size w2 wr (.slice (some ⟨w2.heap.size, 0, none⟩) 16 16) 16 (marks ((laid V R d).map (fx V R)))))
    (fun s9 _ _ _ _ _ _ _ _ _ => 16 - (intOf s9).toNat)
  case atStart => exact ⟨0, by omega, by go_num, hst0⟩
  case round =>
    obtain ⟨d, hd, rfl, hst⟩ := hrel
    clear hst0
    rcases Nat.lt_or_ge d 16 with hlt | hge
    · have hls1 := hls.out.more hst.out.bel
      obtain ⟨ad', cap', hrt, c0, c1⟩ := hls1.rt
      have hta := hid hls1.ta
      have hf := hid (rfind_ok _ 8 V R (d : Int) wr hrt (by omega) (len16 htn.out))
      have v1 : decide ((d : Int) < 16) = true := decide_eq_true (by omega)
      clear hls1 hrt
      go_wp2_with fail
      refine hf.out.mono ?_
      rintro e w4 ⟨r, s, rfl, hat, b4⟩
      have hst4 := hid (hst.out.more b4)
      have hta4 := hid (hta.out.more b4)
      clear hst hta b4 c0 c1 hf
      rcases hat.in with ⟨hr0, hin⟩ | ⟨rfl, hin⟩
      · have t1 : decide (r ≥ 0) = true := decide_eq_true hr0
        have t1' : decide (0 ≤ r) = true := decide_eq_true hr0
        have hfn := hid (fnext_in hta4.out htw.out d hin)
        have hinh := hid hin
        clear hat
        go_wp2_with fail
        refine hfn.out.mono ?_
        rintro e w5 ⟨rfl, b5⟩
        have hst5 := hid (hst4.out.more b5)
        have hta5 := hid (hta4.out.more b5)
        have hor := hid (origin_in hta5.out (tw d) (hin.tw htn.out htw.out))
        have hbit := hid (bits_nat d (by omega))
        have hog : Hid (og V R (fx V R d) = og V R (tw d)) := by rw [fx_yes hin]; exact hid (vx_og htn.out (hin.tw htn.out htw.out))
        have hyi : Hid (In V R (fx V R d)) := hid ((fx_in htn.out htw.out).2 hin)
        have hyl := hyi.out.low htn.out
        have hno : fx V R d ∉ (laid V R d).map (fx V R) := fun q => by
          obtain ⟨z, hz, e⟩ := List.mem_map.1 q
          have := fx_inj htn.out htw.out e
          have := (mem_laid.1 hz).1
          omega
        have hap : Hid ((laid V R (d + 1)).map (fx V R) = (laid V R d).map (fx V R) ++ [fx V R d]) := by rw [laid_yes hin, List.map_append]; exact hid rfl
        obtain ⟨y, hy⟩ : ∃ y, fx V R d = y := ⟨_, rfl⟩
        obtain ⟨o, ho⟩ : ∃ o, og V R (tw d) = o := ⟨_, rfl⟩
        rw [hy] at hog hyi hyl hno hap ⊢
        rw [ho] at hog hor
        replace hno := hid hno
        clear hst4 hta4 b5 hfn hin hy ho
        go_upto_region 13 with fail
        go_wp2_with fail
        rw [hbit.out]
        refine hor.out.mono ?_
        rintro e w6 ⟨rfl, b6⟩
        have hst6 := hid (hst5.out.more b6)
        have hta6 := hid (hta5.out.more b6)
        have hor2 := hid (origin_in hta6.out y hyi.out)
        rw [hog.out] at hor2
        clear hst5 hta5 b6 hor
        go_wp2_with fail
        refine hor2.out.mono ?_
        rintro e w7 ⟨rfl, b7⟩
        have hst7 := hst6.out.more b7
        clear hst6 hta6 b7 hor2
        have hcell : w7.cell? ⟨w2.heap.size, y, none⟩ = some (.bool false) := by
          rw [hst7.row.cellAt y (by omega), bl_get (by omega)]
          simp [marks, hno.out]
        obtain ⟨s1, s2⟩ := hst7.row.stored y (.bool true)
        rw [bl_set, marks_on, ← hap.out] at s1
        have hfz := hst7.row.frozenAt y
        have hnew := hid (Mk.mk s1 (below_row hst7.bel hst7.low hst7.row (Nat.le_refl _) s2) hst7.low)
        clear s1 s2 hst7
        have t2 : ((o : Int) != (o : Int)) = false := by simp
        have t3 : decide ((y : Int) < 0) = false := decide_eq_false (by omega)
        have t4 : decide ((y : Int) > 15) = false := decide_eq_false (by omega)
        have t4' : decide (15 < (y : Int)) = false := decide_eq_false (by omega)
        have t5 : decide (15 < y) = false := decide_eq_false (by omega)
        have j5 : (0 : Int) ≤ (y : Int) := by omega
        have j6 : (y : Int) < 16 := by omega
        have j7 : y < 16 := by omega
        go_wp2_with fail
        go_roundw
        case rel => exact ⟨d + 1, by omega, by go_num, hnew⟩
        case measure => simp [intOf]; omega
      · have hfn := hid (fnext_out hta4.out htw.out d hin hlt)
        have hap : Hid (laid V R (d + 1) = laid V R d) := hid (laid_no hin)
        clear hat hin
        go_wp2_with fail
        refine hfn.out.mono ?_
        rintro e w5 ⟨rfl, b5⟩
        have hst5 := hid (hst4.out.more b5)
        rw [← hap.out] at hst5
        clear hst4 hta4 b5 hfn
        go_wp2_with fail
        go_roundw
        case rel => exact ⟨d + 1, by omega, by go_num, hst5⟩
        case measure => simp [intOf]; omega
    · obtain rfl : d = 16 := by omega
      have hb := hid (hls.out.bel.trans (hst.out.bel.mono hls.out.bel.size))
      clear hst
      go_wp2_with fail
      refine (hsu.out _).mono ?_
      rintro e w9 ⟨rfl, b9⟩
      have hb9 := hid (hb.out.trans (b9.mono hb.out.size))
      clear b9
      go_wp2_with fail
      go_ret
      exact ⟨rfl, hb9.out⟩

end Go.Proofs.YtieglcjfphmglaaDoor
