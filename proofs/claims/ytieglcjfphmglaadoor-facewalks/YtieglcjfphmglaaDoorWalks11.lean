/- 'FaceWalks', walked. -/
import Derived.Test.YtieglcjfphmglaaDoorLaws11
import Derived.Test.YtieglcjfphmglaaDoorRAll11
namespace Go.Proofs.YtieglcjfphmglaaDoor
open Go.RowKit
set_option linter.unusedVariables false

theorem wf64 {d : Int} (h : (Lit.int .i64 d).wf = true) : -9223372036854775808 ≤ d ∧ d ≤ 9223372036854775807 := by
  simp only [Lit.wf, Bool.and_eq_true, decide_eq_true_eq] at h
  have h1 : IntKind.i64.min = -9223372036854775808 := by decide
  have h2 : IntKind.i64.max = 9223372036854775807 := by decide
  rw [h1, h2] at h
  exact h

set_option maxRecDepth 100000 in
set_option maxHeartbeats 4000000 in
theorem walks_law (n : Int) (v : Value) (l : List Ac) (d : Int) (w : World) (hg : Handle w) (hv : AV w v l) (hdw : (Lit.int .i64 d).wf = true) :
    Calls Tryd.prog 3 #[.int .i64 n, v, .int .i64 d] w fun x w' => x = .returned (.bool true) ∧ Below w.heap.size w w' := by
  obtain ⟨hd1, hd2⟩ := wf64 hdw
  have hm := hid (made_ok n v l w hg hv)
  have hsu := hid (fun y => sure_ok y)
  have hn0 := hid (fun y => fnext_nil d y hd1 hd2)
  have han := hid (fun y => all_nil y)
  replace hg := hid hg
  clear hv hdw
  go_enter Tryd.func3, Tryd.ntmps3
  go_wp2_with fail
  refine hm.out.mono ?_
  rintro x w1 ⟨tb, V, R, ad, cap, rfl, hV1, hV6, hbo, b1⟩
  have hls := hid (Md.ls hbo b1)
  clear hbo b1 hm
  obtain ⟨w2, hw2⟩ : ∃ w2, w1.alloc (.cells #[.int .i64 8, .slice ad V cap] 26) = w2 := ⟨_, rfl⟩
  rw [hw2] at hls
  replace hw2 := hid hw2
  have htn := hid hls.out.tn
  have htw := hid hls.out.tw
  have hg2 : Hid (∀ y, Below w2.heap.size w2 y → Handle y) := hid (fun y hy => hg.out.below (hls.out.bel.trans (hy.mono hls.out.bel.size)))
  obtain ⟨ad', cap', hrt, c0, c1⟩ := hls.out.rt
  have hF := hid (two_at c0 c1)
  have hall := hid (fun y (hy : Below w2.heap.size w2 y) => all_ok (hls.out.ta.more hy) htw.out (by decide))
  have hral := hid (fun y (hy : Below w2.heap.size w2 y) => rall_ok _ 8 V R y (hrt.below hy) htn.out htw.out (by decide) (by omega) (len16 htn.out))
  have hfi := hid (fun y (hy : Below w2.heap.size w2 y) => rfind_ok _ 8 V R d y (hrt.below hy) (by omega) (len16 htn.out))
  have hrw := hid (fun (k : Nat) (hk : In V R k) y (hy : Below w2.heap.size w2 y) => rwalk_ok _ 8 V k R y (hrt.below hy) htn.out htw.out hk (by decide) (by omega) (len16 htn.out))
  have hrn := hid (fun (k : Nat) (hk : In V R k) y (hy : Below w2.heap.size w2 y) => rfnext_ok _ 8 V k R y (hrt.below hy) htn.out htw.out hk (by decide) (by omega) (len16 htn.out))
  obtain ⟨fn, r, hfn, hfc⟩ := fnext_any hls.out.ta htw.out d hd1 hd2
  replace hfc := hid hfc
  have hbl := hid hls.out.bel
  clear hrt c0 c1
  generalize fcs V R (2 * 8) = ms at *
  go_upto_region 2 with fail
  try rw [hw2.out]
  clear hw2
  rcases hfn with ⟨rfl, rfl, hrg⟩ | ⟨rfl, rfl, k, rfl, hk, hin⟩ | ⟨rfl, k, rfl, hin, rfl⟩
  · have hwb := hid (walk_bad d 0 12 w2 (hfc.out w2 (Below.refl _ _)))
    go_wp2_with fail
    refine (hwb.out).mono ?_
    rintro x w3 ⟨rfl, bq⟩
    have b23 := hid bq
    clear bq
    have b3 := hid (Below.refl w3.heap.size w3)
    have re3 : Hid (∀ y, Below w3.heap.size w3 y → Below w2.heap.size w2 y) := hid (fun y hy => b23.out.trans (hy.mono b23.out.size))
    have hF3 := hid (fun y (hy : Below w3.heap.size w3 y) => hF.out y (re3.out y hy))
    have hg3 := hid (fun y (hy : Below w3.heap.size w3 y) => hg2.out y (re3.out y hy))
    have hall3 := hid (fun y (hy : Below w3.heap.size w3 y) => hall.out y (re3.out y hy))
    have hral3 := hid (fun y (hy : Below w3.heap.size w3 y) => hral.out y (re3.out y hy))
    have hfi3 := hid (fun y (hy : Below w3.heap.size w3 y) => hfi.out y (re3.out y hy))
    have hbl3 := hid (hbl.out.trans (b23.out.mono hbl.out.size))
    clear hF hg2 hall hral hfi hbl
    go_wp2_with fail
    refine (hfc.out w3 b23.out).mono ?_
    rintro x w4 ⟨rfl, bq⟩
    have b4 : Hid (Below w3.heap.size w3 w4) := b3.out.trans (bq.mono b3.out.size)
    clear bq
    go_wp2_with fail
    refine (hn0.out w4).mono ?_
    rintro x w5 ⟨rfl, bq⟩
    have b5 : Hid (Below w3.heap.size w3 w5) := b4.out.trans (bq.mono b4.out.size)
    clear bq
    go_upto_region 7 with fail
    go_region_held3 (fun y => y.cell? ⟨w1.heap.size, 0, none⟩ = some (.int .i64 8) ∧ y.cell? ⟨w1.heap.size, 1, none⟩ = some (.slice ad' V cap')) (first | exact hF3.out _ (b5.out.drew) | exact hF3.out _ b6.out | exact hF3.out _ b7.out | exact hF3.out _ b8.out | exact hF3.out _ b9.out | exact hF3.out _ b10.out | go_keep) ((first
      | (go_at_call 12; refine (num_err 1 _ (hg3.out _ b5.out.drew)).mono ?_; rintro x w6 ⟨rfl, bq⟩; have b6 : Hid (Below w3.heap.size w3 w6) := b5.out.drew.trans (bq.mono b5.out.size); clear bq)
      | (go_at_call 13; refine (hall3.out w7 b7.out).mono ?_; rintro x w8 ⟨u8, rfl, hr8, bq⟩; obtain ⟨a8, k8, rfl⟩ := rl_form hr8.rl; have b8 : Hid (Below w3.heap.size w3 w8) := b7.out.trans (bq.mono b7.out.size); replace hr8 := hid hr8; clear bq)
      | (go_at_call 13; refine (han.out w6).mono ?_; rintro x w7 ⟨u7, rfl, rfl, bq⟩; have b7 : Hid (Below w3.heap.size w3 w7) := b6.out.trans (bq.mono b6.out.size); clear bq)
      | (go_at_call 15; refine (hral3.out w8 b8.out).mono ?_; rintro x w9 ⟨u9, rfl, hr9, bq⟩; obtain ⟨a9, k9, rfl⟩ := rl_form hr9.rl; have b9 : Hid (Below w3.heap.size w3 w9) := b8.out.trans (bq.mono b8.out.size); replace hr9 := hid hr9; have hr8' := hid (hr8.out.more bq); clear bq)
      | (go_at_call 14; refine (lists_ok _ _ _ w9 hr8'.out.rl hr9.out.rl).mono ?_; rintro x w10 ⟨rfl, m10, rfl⟩; have b10 : Hid (Below w3.heap.size w3 (w9.drewN m10)) := hid (belowN b9.out m10))))
    obtain ⟨w10, hw10⟩ : ∃ w10, w9.drewN m10 = w10 := ⟨_, rfl⟩
    rw [hw10] at b10 ⊢
    clear hw10
    have hex : (decide (d < 0) = true) ∨ (decide (d < 0) = false ∧ decide (d ≥ 16) = true ∧ decide (16 ≤ d) = true) := by
      by_cases h : d < 0
      · exact .inl (decide_eq_true h)
      · exact .inr ⟨decide_eq_false h, decide_eq_true (by omega), decide_eq_true (by omega)⟩
    rcases hex with t1 | ⟨t1, t2, t3⟩
    · go_wp2_with fail
      refine (num_err 12 _ (hg3.out _ b10.out)).mono ?_
      rintro x w11 ⟨rfl, bq⟩
      have b11 : Hid (Below w3.heap.size w3 w11) := b10.out.trans (bq.mono b10.out.size)
      clear bq
      go_wp2_with fail
      refine (num_err 12 _ (hg3.out _ b11.out)).mono ?_
      rintro x w12 ⟨rfl, bq⟩
      have b12 : Hid (Below w3.heap.size w3 w12) := b11.out.trans (bq.mono b11.out.size)
      clear bq
      go_wp2_with fail
      refine (hsu.out _).mono ?_
      rintro x w13 ⟨rfl, bq⟩
      have fin : Hid (Below w.heap.size w w13) := hid (hbl3.out.trans ((b12.out.trans (bq.mono b12.out.size)).mono hbl3.out.size))
      clear bq
      go_wp2_with fail
      go_ret
      exact ⟨rfl, fin.out⟩
    · go_wp2_with fail
      refine (num_err 12 _ (hg3.out _ b10.out)).mono ?_
      rintro x w11 ⟨rfl, bq⟩
      have b11 : Hid (Below w3.heap.size w3 w11) := b10.out.trans (bq.mono b10.out.size)
      clear bq
      go_wp2_with fail
      refine (num_err 12 _ (hg3.out _ b11.out)).mono ?_
      rintro x w12 ⟨rfl, bq⟩
      have b12 : Hid (Below w3.heap.size w3 w12) := b11.out.trans (bq.mono b11.out.size)
      clear bq
      go_wp2_with fail
      refine (hsu.out _).mono ?_
      rintro x w13 ⟨rfl, bq⟩
      have fin : Hid (Below w.heap.size w w13) := hid (hbl3.out.trans ((b12.out.trans (bq.mono b12.out.size)).mono hbl3.out.size))
      clear bq
      go_wp2_with fail
      go_ret
      exact ⟨rfl, fin.out⟩
  · have hwb := hid (walk_bad (k : Int) 0 13 w2 (hfc.out w2 (Below.refl _ _)))
    go_wp2_with fail
    refine (hwb.out).mono ?_
    rintro x w3 ⟨rfl, bq⟩
    have b23 := hid bq
    clear bq
    have b3 := hid (Below.refl w3.heap.size w3)
    have re3 : Hid (∀ y, Below w3.heap.size w3 y → Below w2.heap.size w2 y) := hid (fun y hy => b23.out.trans (hy.mono b23.out.size))
    have hF3 := hid (fun y (hy : Below w3.heap.size w3 y) => hF.out y (re3.out y hy))
    have hg3 := hid (fun y (hy : Below w3.heap.size w3 y) => hg2.out y (re3.out y hy))
    have hall3 := hid (fun y (hy : Below w3.heap.size w3 y) => hall.out y (re3.out y hy))
    have hral3 := hid (fun y (hy : Below w3.heap.size w3 y) => hral.out y (re3.out y hy))
    have hfi3 := hid (fun y (hy : Below w3.heap.size w3 y) => hfi.out y (re3.out y hy))
    have hbl3 := hid (hbl.out.trans (b23.out.mono hbl.out.size))
    clear hF hg2 hall hral hfi hbl
    go_wp2_with fail
    refine (hfc.out w3 b23.out).mono ?_
    rintro x w4 ⟨rfl, bq⟩
    have b4 : Hid (Below w3.heap.size w3 w4) := b3.out.trans (bq.mono b3.out.size)
    clear bq
    go_wp2_with fail
    refine (hn0.out w4).mono ?_
    rintro x w5 ⟨rfl, bq⟩
    have b5 : Hid (Below w3.heap.size w3 w5) := b4.out.trans (bq.mono b4.out.size)
    clear bq
    go_upto_region 7 with fail
    go_region_held3 (fun y => y.cell? ⟨w1.heap.size, 0, none⟩ = some (.int .i64 8) ∧ y.cell? ⟨w1.heap.size, 1, none⟩ = some (.slice ad' V cap')) (first | exact hF3.out _ (b5.out.drew) | exact hF3.out _ b6.out | exact hF3.out _ b7.out | exact hF3.out _ b8.out | exact hF3.out _ b9.out | exact hF3.out _ b10.out | go_keep) ((first
      | (go_at_call 12; refine (num_err 1 _ (hg3.out _ b5.out.drew)).mono ?_; rintro x w6 ⟨rfl, bq⟩; have b6 : Hid (Below w3.heap.size w3 w6) := b5.out.drew.trans (bq.mono b5.out.size); clear bq)
      | (go_at_call 13; refine (hall3.out w7 b7.out).mono ?_; rintro x w8 ⟨u8, rfl, hr8, bq⟩; obtain ⟨a8, k8, rfl⟩ := rl_form hr8.rl; have b8 : Hid (Below w3.heap.size w3 w8) := b7.out.trans (bq.mono b7.out.size); replace hr8 := hid hr8; clear bq)
      | (go_at_call 13; refine (han.out w6).mono ?_; rintro x w7 ⟨u7, rfl, rfl, bq⟩; have b7 : Hid (Below w3.heap.size w3 w7) := b6.out.trans (bq.mono b6.out.size); clear bq)
      | (go_at_call 15; refine (hral3.out w8 b8.out).mono ?_; rintro x w9 ⟨u9, rfl, hr9, bq⟩; obtain ⟨a9, k9, rfl⟩ := rl_form hr9.rl; have b9 : Hid (Below w3.heap.size w3 w9) := b8.out.trans (bq.mono b8.out.size); replace hr9 := hid hr9; have hr8' := hid (hr8.out.more bq); clear bq)
      | (go_at_call 14; refine (lists_ok _ _ _ w9 hr8'.out.rl hr9.out.rl).mono ?_; rintro x w10 ⟨rfl, m10, rfl⟩; have b10 : Hid (Below w3.heap.size w3 (w9.drewN m10)) := hid (belowN b9.out m10))))
    obtain ⟨w10, hw10⟩ : ∃ w10, w9.drewN m10 = w10 := ⟨_, rfl⟩
    rw [hw10] at b10 ⊢
    clear hw10
    have t1 : decide ((k : Int) < 0) = false := decide_eq_false (by omega)
    have t2 : decide ((k : Int) ≥ 16) = false := decide_eq_false (by omega)
    have t2' : decide (16 ≤ (k : Int)) = false := decide_eq_false (by omega)
    have t2'' : decide (16 ≤ k) = false := decide_eq_false (by omega)
    obtain ⟨q0, q1⟩ := hF3.out _ b10.out
    go_wp2_with fail
    refine (hfi3.out w10 b10.out).mono ?_
    rintro x wf ⟨r1, s1, rfl, hat, bq⟩
    have bf : Hid (Below w3.heap.size w3 wf) := b10.out.trans (bq.mono b10.out.size)
    obtain ⟨rfl, rfl⟩ := At.notin hin hat
    clear bq hat hin q0 q1
    go_wp2_with fail
    refine (num_err 13 _ (hg3.out _ bf.out)).mono ?_
    rintro x w11 ⟨rfl, bq⟩
    have b11 : Hid (Below w3.heap.size w3 w11) := bf.out.trans (bq.mono bf.out.size)
    clear bq
    go_wp2_with fail
    refine (num_err 13 _ (hg3.out _ b11.out)).mono ?_
    rintro x w12 ⟨rfl, bq⟩
    have b12 : Hid (Below w3.heap.size w3 w12) := b11.out.trans (bq.mono b11.out.size)
    clear bq
    go_wp2_with fail
    refine (hsu.out _).mono ?_
    rintro x w13 ⟨rfl, bq⟩
    have fin : Hid (Below w.heap.size w w13) := hid (hbl3.out.trans ((b12.out.trans (bq.mono b12.out.size)).mono hbl3.out.size))
    clear bq
    go_wp2_with fail
    go_ret
    exact ⟨rfl, fin.out⟩
  · have hwb := hid (walk_ok hls.out.ta htw.out k hin)
    have hinh := hid hin
    have hkl := hin.low htn.out
    have hrw' := hid (hrw.out k hin)
    have hrn' := hid (hrn.out k hin)
    clear hin hrw hrn
    generalize Pq.orb (fx V R) k = ws at *
    generalize fx V R k = fk at *
    go_wp2_with fail
    refine (hwb.out).mono ?_
    rintro x w3 ⟨rv, rfl, hr3, bq⟩
    obtain ⟨a3, c3, hrv, _⟩ := own_any hr3
    subst hrv
    have b23 := hid bq
    replace hr3 := hid hr3
    clear bq
    have b3 := hid (Below.refl w3.heap.size w3)
    have re3 : Hid (∀ y, Below w3.heap.size w3 y → Below w2.heap.size w2 y) := hid (fun y hy => b23.out.trans (hy.mono b23.out.size))
    have hF3 := hid (fun y (hy : Below w3.heap.size w3 y) => hF.out y (re3.out y hy))
    have hg3 := hid (fun y (hy : Below w3.heap.size w3 y) => hg2.out y (re3.out y hy))
    have hall3 := hid (fun y (hy : Below w3.heap.size w3 y) => hall.out y (re3.out y hy))
    have hral3 := hid (fun y (hy : Below w3.heap.size w3 y) => hral.out y (re3.out y hy))
    have hfi3 := hid (fun y (hy : Below w3.heap.size w3 y) => hfi.out y (re3.out y hy))
    have hbl3 := hid (hbl.out.trans (b23.out.mono hbl.out.size))
    clear hF hg2 hall hral hfi hbl
    go_wp2_with fail
    refine (hfc.out w3 b23.out).mono ?_
    rintro x w4 ⟨rfl, bq⟩
    have b4 : Hid (Below w3.heap.size w3 w4) := b3.out.trans (bq.mono b3.out.size)
    clear bq
    go_wp2_with fail
    refine (hn0.out w4).mono ?_
    rintro x w5 ⟨rfl, bq⟩
    have b5 : Hid (Below w3.heap.size w3 w5) := b4.out.trans (bq.mono b4.out.size)
    clear bq
    go_upto_region 7 with fail
    go_region_held3 (fun y => y.cell? ⟨w1.heap.size, 0, none⟩ = some (.int .i64 8) ∧ y.cell? ⟨w1.heap.size, 1, none⟩ = some (.slice ad' V cap')) (first | exact hF3.out _ (b5.out.drew) | exact hF3.out _ b6.out | exact hF3.out _ b7.out | exact hF3.out _ b8.out | exact hF3.out _ b9.out | exact hF3.out _ b10.out | go_keep) ((first
      | (go_at_call 12; refine (num_err 1 _ (hg3.out _ b5.out.drew)).mono ?_; rintro x w6 ⟨rfl, bq⟩; have b6 : Hid (Below w3.heap.size w3 w6) := b5.out.drew.trans (bq.mono b5.out.size); clear bq)
      | (go_at_call 13; refine (hall3.out w7 b7.out).mono ?_; rintro x w8 ⟨u8, rfl, hr8, bq⟩; obtain ⟨a8, k8, rfl⟩ := rl_form hr8.rl; have b8 : Hid (Below w3.heap.size w3 w8) := b7.out.trans (bq.mono b7.out.size); replace hr8 := hid hr8; clear bq)
      | (go_at_call 13; refine (han.out w6).mono ?_; rintro x w7 ⟨u7, rfl, rfl, bq⟩; have b7 : Hid (Below w3.heap.size w3 w7) := b6.out.trans (bq.mono b6.out.size); clear bq)
      | (go_at_call 15; refine (hral3.out w8 b8.out).mono ?_; rintro x w9 ⟨u9, rfl, hr9, bq⟩; obtain ⟨a9, k9, rfl⟩ := rl_form hr9.rl; have b9 : Hid (Below w3.heap.size w3 w9) := b8.out.trans (bq.mono b8.out.size); replace hr9 := hid hr9; have hr8' := hid (hr8.out.more bq); clear bq)
      | (go_at_call 14; refine (lists_ok _ _ _ w9 hr8'.out.rl hr9.out.rl).mono ?_; rintro x w10 ⟨rfl, m10, rfl⟩; have b10 : Hid (Below w3.heap.size w3 (w9.drewN m10)) := hid (belowN b9.out m10))))
    obtain ⟨w10, hw10⟩ : ∃ w10, w9.drewN m10 = w10 := ⟨_, rfl⟩
    rw [hw10] at b10 ⊢
    clear hw10
    have t1 : decide ((k : Int) < 0) = false := decide_eq_false (by omega)
    have t2 : decide ((k : Int) ≥ 16) = false := decide_eq_false (by omega)
    have t2' : decide (16 ≤ (k : Int)) = false := decide_eq_false (by omega)
    have t2'' : decide (16 ≤ k) = false := decide_eq_false (by omega)
    obtain ⟨q0, q1⟩ := hF3.out _ b10.out
    go_wp2_with fail
    refine (hfi3.out w10 b10.out).mono ?_
    rintro x wf ⟨r1, s1, rfl, hat, bq⟩
    have bf : Hid (Below w3.heap.size w3 wf) := b10.out.trans (bq.mono b10.out.size)
    have hr0 : 0 ≤ r1 := by
      rcases hat.in with ⟨h, _⟩ | ⟨_, h⟩
      · exact h
      · exact absurd hinh.out h
    have t4 : decide (r1 < 0) = false := decide_eq_false (by omega)
    clear bq hat q0 q1
    obtain ⟨q0, q1⟩ := hF3.out _ bf.out
    go_wp2_with fail
    refine (hrw'.out wf (re3.out _ bf.out)).mono ?_
    rintro x w14 ⟨ru, rfl, hr4, bq⟩
    obtain ⟨a4, c4, hru, _⟩ := own_any hr4
    subst hru
    have b14 : Hid (Below w3.heap.size w3 w14) := bf.out.trans (bq.mono bf.out.size)
    have hi := hid (ints_ok _ _ ws w14 (hr3.out.more b14.out).nl hr4.nl)
    obtain ⟨q2, q3⟩ := hF3.out _ b14.out
    clear bq hr4 q0 q1
    go_wp2_with fail
    refine hi.out.mono ?_
    rintro x w15 ⟨rfl, m15, rfl⟩
    have b15 : Hid (Below w3.heap.size w3 (w14.drewN m15)) := hid (belowN b14.out m15)
    obtain ⟨w15, hw15⟩ : ∃ w15, w14.drewN m15 = w15 := ⟨_, rfl⟩
    rw [hw15] at b15 ⊢
    obtain ⟨q4, q5⟩ := hF3.out _ b15.out
    clear hi hw15 q2 q3
    go_wp2_with fail
    refine (hrn'.out w15 (re3.out _ b15.out)).mono ?_
    rintro x w12 ⟨rfl, bq⟩
    have b12 : Hid (Below w3.heap.size w3 w12) := b15.out.trans (bq.mono b15.out.size)
    clear bq q4 q5
    go_wp2_with fail
    refine (hsu.out _).mono ?_
    rintro x w13 ⟨rfl, bq⟩
    have fin : Hid (Below w.heap.size w w13) := hid (hbl3.out.trans ((b12.out.trans (bq.mono b12.out.size)).mono hbl3.out.size))
    clear bq
    go_wp2_with fail
    go_ret
    exact ⟨rfl, fin.out⟩

end Go.Proofs.YtieglcjfphmglaaDoor
