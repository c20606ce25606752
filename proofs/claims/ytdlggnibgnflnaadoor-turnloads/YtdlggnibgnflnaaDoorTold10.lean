/- 'told', walked. -/
import Derived.Test.YtdlggnibgnflnaaDoorDoL10
namespace Go.Proofs.YtdlggnibgnflnaaDoor
open Go.RowKit
set_option linter.unusedVariables false

theorem At.notin {V : Nat} {R : Nat → List Nat} {k : Nat} {r s : Int} (hin : ¬ In V R k) (hat : At V R (k : Int) r s) : r = -1 ∧ s = -1 := by
  refine At.none (fun u hu x hx hxe => hin ⟨u, hu, ?_⟩) hat
  obtain rfl : x = k := by omega
  exact hx

theorem lf_length (l : List Nat) : (lf l).length = l.length := by unfold lf; exact rot_len _ _

set_option maxRecDepth 100000 in
set_option maxHeartbeats 4000000 in
theorem told_range_vout {w : World} {lo tb V E : Nat} {xv : Value} {R : Nat → List Nat} (h : Bo w lo tb xv V E E R) (d v : Int) (hg : Handle w) (hV : V ≤ 1000) (hE : E ≤ 100) (hd : d < 0 ∨ 2 * (E : Int) ≤ d) (hv : v < 0 ∨ (V : Int) ≤ v) :
    Calls Tryd.prog 13 #[.pointer (some ⟨tb, 0, none⟩), xv, .int .i64 d, .int .i64 v] w fun x w' => x = .returned (.bool true) ∧ Below w.heap.size w w' := by
  have ht := h.tn
  have hl' : ∀ u, u < V → (R u).length ≤ 1000 := fun u hu => by have := ht.len hu; omega
  obtain ⟨n, p, o, r, hnx, h3a, h3b, h3c⟩ := three_ok h.ta d
  have hf := hid (fun y (hy : Below w.heap.size w y) => rfind_ok xv E V R d y (h.rt.below hy) hV hl')
  obtain ⟨rfl, rfl, rfl, rfl⟩ : r = .iface 65 (.int .i64 12) ∧ n = 0 ∧ p = 0 ∧ o = 0 := by
    rcases hnx with ⟨h1, h2, h3, h4, _⟩ | ⟨_, _, _, _, k, hk, hk2, _⟩ | ⟨_, k, u, hk, hu, hm, _⟩
    · exact ⟨h1, h2, h3, h4⟩
    · omega
    · have := ht.low u k hu hm; omega
  have hnum1 := hid (fun y hy => num_any (.iface 65 (.int .i64 12)) 12 y hy (.inr ⟨rfl, by decide⟩))
  clear hnx
  replace h3a := hid h3a
  replace h3b := hid h3b
  replace h3c := hid h3c
  have hro := hid (fun y (hy : Below w.heap.size w y) => round_range (h.ta.more hy) v hv)
  have hde := hid (fun y (hy : Below w.heap.size w y) => degree_range (h.ta.more hy) v hv)
  have hnum2 := hid (fun y hy => num_any (.iface 65 (.int .i64 12)) 12 y hy (.inr ⟨rfl, by decide⟩))
  have hrt := hid h.rt
  replace hg := hid hg
  have hrt' := h.rt
  obtain ⟨lv, rfl, ad, cap, rfl, hcp, _⟩ := hrt'
  have hbb := hid (balloc w (.cells #[.int .i64 (E : Int), .slice ad V cap] 31))
  have hq := hid (heap_alloc_new w (.cells #[.int .i64 (E : Int), .slice ad V cap] 31))
  obtain ⟨w1, hw1⟩ : ∃ w1, w.alloc (.cells #[.int .i64 (E : Int), .slice ad V cap] 31) = w1 := ⟨_, rfl⟩
  rw [hw1] at hbb hq
  replace hw1 := hid hw1
  have up : Hid (∀ y, Below w1.heap.size w1 y → y.heap[w.heap.size]? = some (.cells #[.int .i64 (E : Int), .slice ad V cap] 31 (0, 0))) := fun y hy => (hy.block _ (Array.getElem?_eq_some_iff.1 hq.out).1).trans hq.out
  have tot : Hid (∀ y, Below w1.heap.size w1 y → Below w.heap.size w y) := fun y hy => hbb.out.trans (hy.mono hbb.out.size)
  have hdd : (decide (d < 0) = true) ∨ (decide (d < 0) = false ∧ decide (2 * (E : Int) ≤ d) = true) := by
    by_cases h0 : d < 0
    · exact .inl (decide_eq_true h0)
    · exact .inr ⟨decide_eq_false h0, decide_eq_true (by omega)⟩
  have hvv : (decide (v < 0) = true) ∨ (decide (v < 0) = false ∧ decide ((V : Int) ≤ v) = true) := by
    by_cases h0 : v < 0
    · exact .inl (decide_eq_true h0)
    · exact .inr ⟨decide_eq_false h0, decide_eq_true (by omega)⟩
  clear hv
  clear h hd
  rcases hdd with d1 | ⟨d1, d2⟩
  all_goals
    rcases hvv with v1 | ⟨v1, v2⟩
    all_goals
      go_enter Tryd.func13, Tryd.ntmps13
      go_upto_region 1 with fail
      rw [hw1.out]
      go_wp2_with fail
      refine (h3a.out w1 (tot.out w1 (Below.refl w1.heap.size w1))).mono ?_
      rintro x w2 ⟨rfl, bq⟩
      have c2 : Hid (Below w1.heap.size w1 w2) := Below.trans (Below.refl w1.heap.size w1) (bq.mono (Below.size (Below.refl w1.heap.size w1)))
      clear bq
      go_wp2_with fail
      refine (h3b.out w2 (tot.out w2 c2.out)).mono ?_
      rintro x w3 ⟨rfl, bq⟩
      have c3 : Hid (Below w1.heap.size w1 w3) := Below.trans c2.out (bq.mono (Below.size c2.out))
      clear bq
      go_wp2_with fail
      refine (h3c.out w3 (tot.out w3 c3.out)).mono ?_
      rintro x w4 ⟨rfl, bq⟩
      have c4 : Hid (Below w1.heap.size w1 w4) := Below.trans c3.out (bq.mono (Below.size c3.out))
      clear bq
      obtain ⟨e0, e1, _, _⟩ := blk2 (up.out w4 c4.out)
      go_wp2_with fail
      refine (hf.out w4 (tot.out w4 c4.out)).mono ?_
      rintro x w5 ⟨at0, as0, rfl, hat, bq⟩
      have c5 : Hid (Below w1.heap.size w1 w5) := c4.out.trans (bq.mono c4.out.size)
      clear bq e0 e1
      clear hat
      obtain ⟨e0, e1, _, _⟩ := blk2 (up.out w5 c5.out)
      go_wp2_with fail
      refine (hnum1.out w5 (hg.out.below (tot.out w5 c5.out))).mono ?_
      rintro x w6 ⟨rfl, bq⟩
      have c6 : Hid (Below w1.heap.size w1 w6) := c5.out.trans (bq.mono c5.out.size)
      clear bq
      go_wp2_with fail
      refine (hnum1.out w6 (hg.out.below (tot.out w6 c6.out))).mono ?_
      rintro x w7 ⟨rfl, bq⟩
      have c7 : Hid (Below w1.heap.size w1 w7) := c6.out.trans (bq.mono c6.out.size)
      clear bq
      go_wp2_with fail
      refine (hnum1.out w7 (hg.out.below (tot.out w7 c7.out))).mono ?_
      rintro x w8 ⟨rfl, bq⟩
      have c8 : Hid (Below w1.heap.size w1 w8) := c7.out.trans (bq.mono c7.out.size)
      clear bq
      go_wp2_with fail
      refine (hro.out w8 (tot.out w8 c8.out)).mono ?_
      rintro x w10 ⟨rfl, bq⟩
      have c10 : Hid (Below w1.heap.size w1 w10) := c8.out.trans (bq.mono c8.out.size)
      clear bq
      go_wp2_with fail
      refine (hde.out w10 (tot.out w10 c10.out)).mono ?_
      rintro x w11 ⟨rfl, bq⟩
      have c11 : Hid (Below w1.heap.size w1 w11) := c10.out.trans (bq.mono c10.out.size)
      clear bq
      try clear e0 e1
      obtain ⟨e0, e1, _, _⟩ := blk2 (up.out w11 c11.out)
      go_wp2_with fail
      refine (hnum2.out w11 (hg.out.below (tot.out w11 c11.out))).mono ?_
      rintro x w12 ⟨rfl, bq⟩
      have c12 : Hid (Below w1.heap.size w1 w12) := c11.out.trans (bq.mono c11.out.size)
      clear bq
      go_wp2_with fail
      refine (hnum2.out w12 (hg.out.below (tot.out w12 c12.out))).mono ?_
      rintro x w13 ⟨rfl, bq⟩
      have c13 : Hid (Below w1.heap.size w1 w13) := c12.out.trans (bq.mono c12.out.size)
      clear bq
      go_wp2_with fail
      go_ret
      exact ⟨rfl, tot.out _ c13.out⟩

set_option maxRecDepth 100000 in
set_option maxHeartbeats 4000000 in
theorem told_range_vin {w : World} {lo tb V E : Nat} {xv : Value} {R : Nat → List Nat} (h : Bo w lo tb xv V E E R) (d v : Int) (hg : Handle w) (hV : V ≤ 1000) (hE : E ≤ 100) (hd : d < 0 ∨ 2 * (E : Int) ≤ d) (z : Nat) (hvz : v = (z : Int)) (hz : z < V) :
    Calls Tryd.prog 13 #[.pointer (some ⟨tb, 0, none⟩), xv, .int .i64 d, .int .i64 v] w fun x w' => x = .returned (.bool true) ∧ Below w.heap.size w w' := by
  have ht := h.tn
  have hl' : ∀ u, u < V → (R u).length ≤ 1000 := fun u hu => by have := ht.len hu; omega
  obtain ⟨n, p, o, r, hnx, h3a, h3b, h3c⟩ := three_ok h.ta d
  have hf := hid (fun y (hy : Below w.heap.size w y) => rfind_ok xv E V R d y (h.rt.below hy) hV hl')
  obtain ⟨rfl, rfl, rfl, rfl⟩ : r = .iface 65 (.int .i64 12) ∧ n = 0 ∧ p = 0 ∧ o = 0 := by
    rcases hnx with ⟨h1, h2, h3, h4, _⟩ | ⟨_, _, _, _, k, hk, hk2, _⟩ | ⟨_, k, u, hk, hu, hm, _⟩
    · exact ⟨h1, h2, h3, h4⟩
    · omega
    · have := ht.low u k hu hm; omega
  have hnum1 := hid (fun y hy => num_any (.iface 65 (.int .i64 12)) 12 y hy (.inr ⟨rfl, by decide⟩))
  clear hnx
  replace h3a := hid h3a
  replace h3b := hid h3b
  replace h3c := hid h3c
  subst hvz
  have hro := hid (fun y (hy : Below w.heap.size w y) => round_ok (h.ta.more hy) z hz)
  have hde := hid (fun y (hy : Below w.heap.size w y) => degree_ok (h.ta.more hy) z hz)
  have hrr := hid (fun y (hy : Below w.heap.size w y) => rround_ok xv E V z R y (h.rt.below hy) (ht.nd z hz) hz (hl' z hz))
  obtain ⟨m, hmm⟩ : ∃ m, (R z).length = m := ⟨_, rfl⟩
  have hm1 : m ≤ 1000 := by rw [← hmm]; exact hl' z hz
  rw [hmm] at hro hde
  have hlfm : Hid ((lf (R z)).length = m) := by rw [lf_length]; exact hid hmm
  replace hmm := hid hmm
  have hrt := hid h.rt
  replace hg := hid hg
  have hrt' := h.rt
  obtain ⟨lv, rfl, ad, cap, rfl, hcp, _⟩ := hrt'
  have hbb := hid (balloc w (.cells #[.int .i64 (E : Int), .slice ad V cap] 31))
  have hq := hid (heap_alloc_new w (.cells #[.int .i64 (E : Int), .slice ad V cap] 31))
  obtain ⟨w1, hw1⟩ : ∃ w1, w.alloc (.cells #[.int .i64 (E : Int), .slice ad V cap] 31) = w1 := ⟨_, rfl⟩
  rw [hw1] at hbb hq
  replace hw1 := hid hw1
  have up : Hid (∀ y, Below w1.heap.size w1 y → y.heap[w.heap.size]? = some (.cells #[.int .i64 (E : Int), .slice ad V cap] 31 (0, 0))) := fun y hy => (hy.block _ (Array.getElem?_eq_some_iff.1 hq.out).1).trans hq.out
  have tot : Hid (∀ y, Below w1.heap.size w1 y → Below w.heap.size w y) := fun y hy => hbb.out.trans (hy.mono hbb.out.size)
  have hdd : (decide (d < 0) = true) ∨ (decide (d < 0) = false ∧ decide (2 * (E : Int) ≤ d) = true) := by
    by_cases h0 : d < 0
    · exact .inl (decide_eq_true h0)
    · exact .inr ⟨decide_eq_false h0, decide_eq_true (by omega)⟩
  have v1 : decide ((z : Int) < 0) = false := decide_eq_false (by omega)
  have v2 : decide ((V : Int) ≤ (z : Int)) = false := decide_eq_false (by omega)
  have v2' : decide (V ≤ z) = false := decide_eq_false (by omega)
  have i1 : (0 : Int) ≤ (z : Int) := by omega
  have i2 : (z : Int) < (V : Int) := by omega
  clear h hd
  rcases hdd with d1 | ⟨d1, d2⟩
  all_goals
    go_enter Tryd.func13, Tryd.ntmps13
    go_upto_region 1 with fail
    rw [hw1.out]
    go_wp2_with fail
    refine (h3a.out w1 (tot.out w1 (Below.refl w1.heap.size w1))).mono ?_
    rintro x w2 ⟨rfl, bq⟩
    have c2 : Hid (Below w1.heap.size w1 w2) := Below.trans (Below.refl w1.heap.size w1) (bq.mono (Below.size (Below.refl w1.heap.size w1)))
    clear bq
    go_wp2_with fail
    refine (h3b.out w2 (tot.out w2 c2.out)).mono ?_
    rintro x w3 ⟨rfl, bq⟩
    have c3 : Hid (Below w1.heap.size w1 w3) := Below.trans c2.out (bq.mono (Below.size c2.out))
    clear bq
    go_wp2_with fail
    refine (h3c.out w3 (tot.out w3 c3.out)).mono ?_
    rintro x w4 ⟨rfl, bq⟩
    have c4 : Hid (Below w1.heap.size w1 w4) := Below.trans c3.out (bq.mono (Below.size c3.out))
    clear bq
    obtain ⟨e0, e1, _, _⟩ := blk2 (up.out w4 c4.out)
    go_wp2_with fail
    refine (hf.out w4 (tot.out w4 c4.out)).mono ?_
    rintro x w5 ⟨at0, as0, rfl, hat, bq⟩
    have c5 : Hid (Below w1.heap.size w1 w5) := c4.out.trans (bq.mono c4.out.size)
    clear bq e0 e1
    clear hat
    obtain ⟨e0, e1, _, _⟩ := blk2 (up.out w5 c5.out)
    go_wp2_with fail
    refine (hnum1.out w5 (hg.out.below (tot.out w5 c5.out))).mono ?_
    rintro x w6 ⟨rfl, bq⟩
    have c6 : Hid (Below w1.heap.size w1 w6) := c5.out.trans (bq.mono c5.out.size)
    clear bq
    go_wp2_with fail
    refine (hnum1.out w6 (hg.out.below (tot.out w6 c6.out))).mono ?_
    rintro x w7 ⟨rfl, bq⟩
    have c7 : Hid (Below w1.heap.size w1 w7) := c6.out.trans (bq.mono c6.out.size)
    clear bq
    go_wp2_with fail
    refine (hnum1.out w7 (hg.out.below (tot.out w7 c7.out))).mono ?_
    rintro x w8 ⟨rfl, bq⟩
    have c8 : Hid (Below w1.heap.size w1 w8) := c7.out.trans (bq.mono c7.out.size)
    clear bq
    go_wp2_with fail
    refine (hro.out w8 (tot.out w8 c8.out)).mono ?_
    rintro x w10 ⟨rv, rfl, hrow, bq⟩
    have hnl : NL w10 rv (lf (R z)) := nl_of (by rw [hlfm.out]; exact hrow)
    obtain ⟨ra, rn, rc, rfl, hrest⟩ := hnl
    have hnl : Hid (NL w10 (.slice ra rn rc) (lf (R z))) := ⟨ra, rn, rc, rfl, hrest⟩
    clear hrow hrest
    have c10 : Hid (Below w1.heap.size w1 w10) := c8.out.trans (bq.mono c8.out.size)
    clear bq
    go_wp2_with fail
    refine (hde.out w10 (tot.out w10 c10.out)).mono ?_
    rintro x w11 ⟨rfl, bq⟩
    have c11 : Hid (Below w1.heap.size w1 w11) := c10.out.trans (bq.mono c10.out.size)
    replace hnl := hid (hnl.out.below bq)
    clear bq
    try clear e0 e1
    obtain ⟨e0, e1, _, _⟩ := blk2 (up.out w11 c11.out)
    go_wp2_with fail
    refine (hrr.out w11 (tot.out w11 c11.out)).mono ?_
    rintro x w12 ⟨tv, rfl, hn2, bq⟩
    have c12 : Hid (Below w1.heap.size w1 w12) := c11.out.trans (bq.mono c11.out.size)
    replace hnl := hid (hnl.out.below bq)
    replace hn2 := hid hn2
    clear bq e0 e1
    go_wp2_with fail
    refine (ints_ok _ _ _ w12 hnl.out hn2.out).mono ?_
    rintro x w13 ⟨rfl, m13, rfl⟩
    have c13 : Hid (Below w1.heap.size w1 (w12.drewN m13)) := belowN c12.out m13
    generalize w12.drewN m13 = w13 at c13 ⊢
    clear hnl hn2 c12
    obtain ⟨e0, e1, _, _⟩ := blk2 (up.out w13 c13.out)
    have hrt13 := hrt.out.below (tot.out w13 c13.out)
    obtain ⟨lv2, el, ad2, cap2, e2, hc1, hc2, hro2⟩ := hrt13
    simp only [Value.agg.injEq, Array.mk.injEq, List.cons.injEq, true_and, and_true] at el
    subst el
    simp only [Value.slice.injEq] at e2
    obtain ⟨rfl, _, rfl⟩ := e2
    obtain ⟨b1, o1, x1, rfl, cx, a3, n3, cap3, rfl, hn3, _⟩ := hro2 z hz
    obtain rfl : n3 = m := by rw [← hn3]; exact hmm.out
    clear hn3 hro2 hc1 hc2
    go_wp2_with fail
    go_ret
    exact ⟨by simp, tot.out _ c13.out⟩

set_option maxRecDepth 100000 in
set_option maxHeartbeats 4000000 in
theorem told_stale_vout {w : World} {lo tb V E : Nat} {xv : Value} {R : Nat → List Nat} (h : Bo w lo tb xv V E E R) (d v : Int) (hg : Handle w) (hV : V ≤ 1000) (hE : E ≤ 100) (k : Nat) (hdk : d = (k : Int)) (hk : k < 2 * E) (hin : ¬ In V R k) (hv : v < 0 ∨ (V : Int) ≤ v) :
    Calls Tryd.prog 13 #[.pointer (some ⟨tb, 0, none⟩), xv, .int .i64 d, .int .i64 v] w fun x w' => x = .returned (.bool true) ∧ Below w.heap.size w w' := by
  have ht := h.tn
  have hl' : ∀ u, u < V → (R u).length ≤ 1000 := fun u hu => by have := ht.len hu; omega
  obtain ⟨n, p, o, r, hnx, h3a, h3b, h3c⟩ := three_ok h.ta d
  have hf := hid (fun y (hy : Below w.heap.size w y) => rfind_ok xv E V R d y (h.rt.below hy) hV hl')
  obtain ⟨rfl, rfl, rfl, rfl⟩ : r = .iface 65 (.int .i64 13) ∧ n = 0 ∧ p = 0 ∧ o = 0 := by
    rcases hnx with ⟨_, _, _, _, h5⟩ | ⟨h1, h2, h3, h4, _⟩ | ⟨_, k', u, hk', hu, hm, _⟩
    · omega
    · exact ⟨h1, h2, h3, h4⟩
    · obtain rfl : k = k' := by omega
      exact absurd ⟨u, hu, hm⟩ hin
  have hnum1 := hid (fun y hy => num_any (.iface 65 (.int .i64 13)) 13 y hy (.inr ⟨rfl, by decide⟩))
  clear hnx
  replace h3a := hid h3a
  replace h3b := hid h3b
  replace h3c := hid h3c
  have hro := hid (fun y (hy : Below w.heap.size w y) => round_range (h.ta.more hy) v hv)
  have hde := hid (fun y (hy : Below w.heap.size w y) => degree_range (h.ta.more hy) v hv)
  have hnum2 := hid (fun y hy => num_any (.iface 65 (.int .i64 12)) 12 y hy (.inr ⟨rfl, by decide⟩))
  have hrt := hid h.rt
  replace hg := hid hg
  have hrt' := h.rt
  obtain ⟨lv, rfl, ad, cap, rfl, hcp, _⟩ := hrt'
  have hbb := hid (balloc w (.cells #[.int .i64 (E : Int), .slice ad V cap] 31))
  have hq := hid (heap_alloc_new w (.cells #[.int .i64 (E : Int), .slice ad V cap] 31))
  obtain ⟨w1, hw1⟩ : ∃ w1, w.alloc (.cells #[.int .i64 (E : Int), .slice ad V cap] 31) = w1 := ⟨_, rfl⟩
  rw [hw1] at hbb hq
  replace hw1 := hid hw1
  have up : Hid (∀ y, Below w1.heap.size w1 y → y.heap[w.heap.size]? = some (.cells #[.int .i64 (E : Int), .slice ad V cap] 31 (0, 0))) := fun y hy => (hy.block _ (Array.getElem?_eq_some_iff.1 hq.out).1).trans hq.out
  have tot : Hid (∀ y, Below w1.heap.size w1 y → Below w.heap.size w y) := fun y hy => hbb.out.trans (hy.mono hbb.out.size)
  subst hdk
  have d1 : decide ((k : Int) < 0) = false := decide_eq_false (by omega)
  have d2 : decide (2 * (E : Int) ≤ (k : Int)) = false := decide_eq_false (by omega)
  have hvv : (decide (v < 0) = true) ∨ (decide (v < 0) = false ∧ decide ((V : Int) ≤ v) = true) := by
    by_cases h0 : v < 0
    · exact .inl (decide_eq_true h0)
    · exact .inr ⟨decide_eq_false h0, decide_eq_true (by omega)⟩
  clear hv
  clear h
  rcases hvv with v1 | ⟨v1, v2⟩
  all_goals
    go_enter Tryd.func13, Tryd.ntmps13
    go_upto_region 1 with fail
    rw [hw1.out]
    go_wp2_with fail
    refine (h3a.out w1 (tot.out w1 (Below.refl w1.heap.size w1))).mono ?_
    rintro x w2 ⟨rfl, bq⟩
    have c2 : Hid (Below w1.heap.size w1 w2) := Below.trans (Below.refl w1.heap.size w1) (bq.mono (Below.size (Below.refl w1.heap.size w1)))
    clear bq
    go_wp2_with fail
    refine (h3b.out w2 (tot.out w2 c2.out)).mono ?_
    rintro x w3 ⟨rfl, bq⟩
    have c3 : Hid (Below w1.heap.size w1 w3) := Below.trans c2.out (bq.mono (Below.size c2.out))
    clear bq
    go_wp2_with fail
    refine (h3c.out w3 (tot.out w3 c3.out)).mono ?_
    rintro x w4 ⟨rfl, bq⟩
    have c4 : Hid (Below w1.heap.size w1 w4) := Below.trans c3.out (bq.mono (Below.size c3.out))
    clear bq
    obtain ⟨e0, e1, _, _⟩ := blk2 (up.out w4 c4.out)
    go_wp2_with fail
    refine (hf.out w4 (tot.out w4 c4.out)).mono ?_
    rintro x w5 ⟨at0, as0, rfl, hat, bq⟩
    have c5 : Hid (Below w1.heap.size w1 w5) := c4.out.trans (bq.mono c4.out.size)
    clear bq e0 e1
    obtain ⟨rfl, rfl⟩ := At.notin hin hat
    clear hat
    obtain ⟨e0, e1, _, _⟩ := blk2 (up.out w5 c5.out)
    go_wp2_with fail
    refine (hnum1.out w5 (hg.out.below (tot.out w5 c5.out))).mono ?_
    rintro x w6 ⟨rfl, bq⟩
    have c6 : Hid (Below w1.heap.size w1 w6) := c5.out.trans (bq.mono c5.out.size)
    clear bq
    go_wp2_with fail
    refine (hnum1.out w6 (hg.out.below (tot.out w6 c6.out))).mono ?_
    rintro x w7 ⟨rfl, bq⟩
    have c7 : Hid (Below w1.heap.size w1 w7) := c6.out.trans (bq.mono c6.out.size)
    clear bq
    go_wp2_with fail
    refine (hnum1.out w7 (hg.out.below (tot.out w7 c7.out))).mono ?_
    rintro x w8 ⟨rfl, bq⟩
    have c8 : Hid (Below w1.heap.size w1 w8) := c7.out.trans (bq.mono c7.out.size)
    clear bq
    go_wp2_with fail
    refine (hro.out w8 (tot.out w8 c8.out)).mono ?_
    rintro x w10 ⟨rfl, bq⟩
    have c10 : Hid (Below w1.heap.size w1 w10) := c8.out.trans (bq.mono c8.out.size)
    clear bq
    go_wp2_with fail
    refine (hde.out w10 (tot.out w10 c10.out)).mono ?_
    rintro x w11 ⟨rfl, bq⟩
    have c11 : Hid (Below w1.heap.size w1 w11) := c10.out.trans (bq.mono c10.out.size)
    clear bq
    try clear e0 e1
    obtain ⟨e0, e1, _, _⟩ := blk2 (up.out w11 c11.out)
    go_wp2_with fail
    refine (hnum2.out w11 (hg.out.below (tot.out w11 c11.out))).mono ?_
    rintro x w12 ⟨rfl, bq⟩
    have c12 : Hid (Below w1.heap.size w1 w12) := c11.out.trans (bq.mono c11.out.size)
    clear bq
    go_wp2_with fail
    refine (hnum2.out w12 (hg.out.below (tot.out w12 c12.out))).mono ?_
    rintro x w13 ⟨rfl, bq⟩
    have c13 : Hid (Below w1.heap.size w1 w13) := c12.out.trans (bq.mono c12.out.size)
    clear bq
    go_wp2_with fail
    go_ret
    exact ⟨rfl, tot.out _ c13.out⟩

set_option maxRecDepth 100000 in
set_option maxHeartbeats 4000000 in
theorem told_stale_vin {w : World} {lo tb V E : Nat} {xv : Value} {R : Nat → List Nat} (h : Bo w lo tb xv V E E R) (d v : Int) (hg : Handle w) (hV : V ≤ 1000) (hE : E ≤ 100) (k : Nat) (hdk : d = (k : Int)) (hk : k < 2 * E) (hin : ¬ In V R k) (z : Nat) (hvz : v = (z : Int)) (hz : z < V) :
    Calls Tryd.prog 13 #[.pointer (some ⟨tb, 0, none⟩), xv, .int .i64 d, .int .i64 v] w fun x w' => x = .returned (.bool true) ∧ Below w.heap.size w w' := by
  have ht := h.tn
  have hl' : ∀ u, u < V → (R u).length ≤ 1000 := fun u hu => by have := ht.len hu; omega
  obtain ⟨n, p, o, r, hnx, h3a, h3b, h3c⟩ := three_ok h.ta d
  have hf := hid (fun y (hy : Below w.heap.size w y) => rfind_ok xv E V R d y (h.rt.below hy) hV hl')
  obtain ⟨rfl, rfl, rfl, rfl⟩ : r = .iface 65 (.int .i64 13) ∧ n = 0 ∧ p = 0 ∧ o = 0 := by
    rcases hnx with ⟨_, _, _, _, h5⟩ | ⟨h1, h2, h3, h4, _⟩ | ⟨_, k', u, hk', hu, hm, _⟩
    · omega
    · exact ⟨h1, h2, h3, h4⟩
    · obtain rfl : k = k' := by omega
      exact absurd ⟨u, hu, hm⟩ hin
  have hnum1 := hid (fun y hy => num_any (.iface 65 (.int .i64 13)) 13 y hy (.inr ⟨rfl, by decide⟩))
  clear hnx
  replace h3a := hid h3a
  replace h3b := hid h3b
  replace h3c := hid h3c
  subst hvz
  have hro := hid (fun y (hy : Below w.heap.size w y) => round_ok (h.ta.more hy) z hz)
  have hde := hid (fun y (hy : Below w.heap.size w y) => degree_ok (h.ta.more hy) z hz)
  have hrr := hid (fun y (hy : Below w.heap.size w y) => rround_ok xv E V z R y (h.rt.below hy) (ht.nd z hz) hz (hl' z hz))
  obtain ⟨m, hmm⟩ : ∃ m, (R z).length = m := ⟨_, rfl⟩
  have hm1 : m ≤ 1000 := by rw [← hmm]; exact hl' z hz
  rw [hmm] at hro hde
  have hlfm : Hid ((lf (R z)).length = m) := by rw [lf_length]; exact hid hmm
  replace hmm := hid hmm
  have hrt := hid h.rt
  replace hg := hid hg
  have hrt' := h.rt
  obtain ⟨lv, rfl, ad, cap, rfl, hcp, _⟩ := hrt'
  have hbb := hid (balloc w (.cells #[.int .i64 (E : Int), .slice ad V cap] 31))
  have hq := hid (heap_alloc_new w (.cells #[.int .i64 (E : Int), .slice ad V cap] 31))
  obtain ⟨w1, hw1⟩ : ∃ w1, w.alloc (.cells #[.int .i64 (E : Int), .slice ad V cap] 31) = w1 := ⟨_, rfl⟩
  rw [hw1] at hbb hq
  replace hw1 := hid hw1
  have up : Hid (∀ y, Below w1.heap.size w1 y → y.heap[w.heap.size]? = some (.cells #[.int .i64 (E : Int), .slice ad V cap] 31 (0, 0))) := fun y hy => (hy.block _ (Array.getElem?_eq_some_iff.1 hq.out).1).trans hq.out
  have tot : Hid (∀ y, Below w1.heap.size w1 y → Below w.heap.size w y) := fun y hy => hbb.out.trans (hy.mono hbb.out.size)
  subst hdk
  have d1 : decide ((k : Int) < 0) = false := decide_eq_false (by omega)
  have d2 : decide (2 * (E : Int) ≤ (k : Int)) = false := decide_eq_false (by omega)
  have v1 : decide ((z : Int) < 0) = false := decide_eq_false (by omega)
  have v2 : decide ((V : Int) ≤ (z : Int)) = false := decide_eq_false (by omega)
  have v2' : decide (V ≤ z) = false := decide_eq_false (by omega)
  have i1 : (0 : Int) ≤ (z : Int) := by omega
  have i2 : (z : Int) < (V : Int) := by omega
  clear h
  go_enter Tryd.func13, Tryd.ntmps13
  go_upto_region 1 with fail
  rw [hw1.out]
  go_wp2_with fail
  refine (h3a.out w1 (tot.out w1 (Below.refl w1.heap.size w1))).mono ?_
  rintro x w2 ⟨rfl, bq⟩
  have c2 : Hid (Below w1.heap.size w1 w2) := Below.trans (Below.refl w1.heap.size w1) (bq.mono (Below.size (Below.refl w1.heap.size w1)))
  clear bq
  go_wp2_with fail
  refine (h3b.out w2 (tot.out w2 c2.out)).mono ?_
  rintro x w3 ⟨rfl, bq⟩
  have c3 : Hid (Below w1.heap.size w1 w3) := Below.trans c2.out (bq.mono (Below.size c2.out))
  clear bq
  go_wp2_with fail
  refine (h3c.out w3 (tot.out w3 c3.out)).mono ?_
  rintro x w4 ⟨rfl, bq⟩
  have c4 : Hid (Below w1.heap.size w1 w4) := Below.trans c3.out (bq.mono (Below.size c3.out))
  clear bq
  obtain ⟨e0, e1, _, _⟩ := blk2 (up.out w4 c4.out)
  go_wp2_with fail
  refine (hf.out w4 (tot.out w4 c4.out)).mono ?_
  rintro x w5 ⟨at0, as0, rfl, hat, bq⟩
  have c5 : Hid (Below w1.heap.size w1 w5) := c4.out.trans (bq.mono c4.out.size)
  clear bq e0 e1
  obtain ⟨rfl, rfl⟩ := At.notin hin hat
  clear hat
  obtain ⟨e0, e1, _, _⟩ := blk2 (up.out w5 c5.out)
  go_wp2_with fail
  refine (hnum1.out w5 (hg.out.below (tot.out w5 c5.out))).mono ?_
  rintro x w6 ⟨rfl, bq⟩
  have c6 : Hid (Below w1.heap.size w1 w6) := c5.out.trans (bq.mono c5.out.size)
  clear bq
  go_wp2_with fail
  refine (hnum1.out w6 (hg.out.below (tot.out w6 c6.out))).mono ?_
  rintro x w7 ⟨rfl, bq⟩
  have c7 : Hid (Below w1.heap.size w1 w7) := c6.out.trans (bq.mono c6.out.size)
  clear bq
  go_wp2_with fail
  refine (hnum1.out w7 (hg.out.below (tot.out w7 c7.out))).mono ?_
  rintro x w8 ⟨rfl, bq⟩
  have c8 : Hid (Below w1.heap.size w1 w8) := c7.out.trans (bq.mono c7.out.size)
  clear bq
  go_wp2_with fail
  refine (hro.out w8 (tot.out w8 c8.out)).mono ?_
  rintro x w10 ⟨rv, rfl, hrow, bq⟩
  have hnl : NL w10 rv (lf (R z)) := nl_of (by rw [hlfm.out]; exact hrow)
  obtain ⟨ra, rn, rc, rfl, hrest⟩ := hnl
  have hnl : Hid (NL w10 (.slice ra rn rc) (lf (R z))) := ⟨ra, rn, rc, rfl, hrest⟩
  clear hrow hrest
  have c10 : Hid (Below w1.heap.size w1 w10) := c8.out.trans (bq.mono c8.out.size)
  clear bq
  go_wp2_with fail
  refine (hde.out w10 (tot.out w10 c10.out)).mono ?_
  rintro x w11 ⟨rfl, bq⟩
  have c11 : Hid (Below w1.heap.size w1 w11) := c10.out.trans (bq.mono c10.out.size)
  replace hnl := hid (hnl.out.below bq)
  clear bq
  try clear e0 e1
  obtain ⟨e0, e1, _, _⟩ := blk2 (up.out w11 c11.out)
  go_wp2_with fail
  refine (hrr.out w11 (tot.out w11 c11.out)).mono ?_
  rintro x w12 ⟨tv, rfl, hn2, bq⟩
  have c12 : Hid (Below w1.heap.size w1 w12) := c11.out.trans (bq.mono c11.out.size)
  replace hnl := hid (hnl.out.below bq)
  replace hn2 := hid hn2
  clear bq e0 e1
  go_wp2_with fail
  refine (ints_ok _ _ _ w12 hnl.out hn2.out).mono ?_
  rintro x w13 ⟨rfl, m13, rfl⟩
  have c13 : Hid (Below w1.heap.size w1 (w12.drewN m13)) := belowN c12.out m13
  generalize w12.drewN m13 = w13 at c13 ⊢
  clear hnl hn2 c12
  obtain ⟨e0, e1, _, _⟩ := blk2 (up.out w13 c13.out)
  have hrt13 := hrt.out.below (tot.out w13 c13.out)
  obtain ⟨lv2, el, ad2, cap2, e2, hc1, hc2, hro2⟩ := hrt13
  simp only [Value.agg.injEq, Array.mk.injEq, List.cons.injEq, true_and, and_true] at el
  subst el
  simp only [Value.slice.injEq] at e2
  obtain ⟨rfl, _, rfl⟩ := e2
  obtain ⟨b1, o1, x1, rfl, cx, a3, n3, cap3, rfl, hn3, _⟩ := hro2 z hz
  obtain rfl : n3 = m := by rw [← hn3]; exact hmm.out
  clear hn3 hro2 hc1 hc2
  go_wp2_with fail
  go_ret
  exact ⟨by simp, tot.out _ c13.out⟩

set_option maxRecDepth 100000 in
set_option maxHeartbeats 4000000 in
theorem told_ok_vout {w : World} {lo tb V E : Nat} {xv : Value} {R : Nat → List Nat} (h : Bo w lo tb xv V E E R) (d v : Int) (hg : Handle w) (hV : V ≤ 1000) (hE : E ≤ 100) (k u : Nat) (hdk : d = (k : Int)) (hu : u < V) (hm : k ∈ R u) (hv : v < 0 ∨ (V : Int) ≤ v) :
    Calls Tryd.prog 13 #[.pointer (some ⟨tb, 0, none⟩), xv, .int .i64 d, .int .i64 v] w fun x w' => x = .returned (.bool true) ∧ Below w.heap.size w w' := by
  have ht := h.tn
  have hl' : ∀ u, u < V → (R u).length ≤ 1000 := fun u hu => by have := ht.len hu; omega
  obtain ⟨n, p, o, r, hnx, h3a, h3b, h3c⟩ := three_ok h.ta d
  have hf := hid (fun y (hy : Below w.heap.size w y) => rfind_ok xv E V R d y (h.rt.below hy) hV hl')
  obtain ⟨zn, hzn⟩ : ∃ zn, nx (R u) k = zn := ⟨_, rfl⟩
  obtain ⟨zp', hzp⟩ : ∃ zp', pv (R u) k = zp' := ⟨_, rfl⟩
  obtain ⟨rfl, rfl, rfl, rfl⟩ : r = .nilIface ∧ n = (zn : Int) ∧ p = (zp' : Int) ∧ o = (u : Int) := by
    rcases hnx with ⟨_, _, _, _, h5⟩ | ⟨_, _, _, _, k', hk', _, hn'⟩ | ⟨h1, k', u', hk', hu', hm', h2, h3, h4⟩
    · have := ht.low u k hu hm; omega
    · obtain rfl : k = k' := by omega
      exact absurd ⟨u, hu, hm⟩ hn'
    · obtain rfl : k = k' := by omega
      obtain rfl := ht.one u u' k hu hu' hm hm'
      exact ⟨h1, by rw [h2, hzn], by rw [h3, hzp], h4⟩
  have hr1 := hid (fun y (hy : Below w.heap.size w y) => rnext_ok xv E V u k zn R 1 y (h.rt.below hy) ht hu hm (.inl rfl) (fun _ => hzn) (fun e => by omega) hV hl')
  have hr2 := hid (fun y (hy : Below w.heap.size w y) => rnext_ok xv E V u k zp' R (-1) y (h.rt.below hy) ht hu hm (.inr rfl) (fun e => by omega) (fun _ => hzp) hV hl')
  have hkl := ht.low u k hu hm
  have hfu : Hid (∀ r s, At V R (k : Int) r s → r = (u : Int)) := fun r s hat => (At.found ht hu hm hat).1
  clear hnx hzn hzp
  replace h3a := hid h3a
  replace h3b := hid h3b
  replace h3c := hid h3c
  have hro := hid (fun y (hy : Below w.heap.size w y) => round_range (h.ta.more hy) v hv)
  have hde := hid (fun y (hy : Below w.heap.size w y) => degree_range (h.ta.more hy) v hv)
  have hnum2 := hid (fun y hy => num_any (.iface 65 (.int .i64 12)) 12 y hy (.inr ⟨rfl, by decide⟩))
  have hrt := hid h.rt
  replace hg := hid hg
  have hrt' := h.rt
  obtain ⟨lv, rfl, ad, cap, rfl, hcp, _⟩ := hrt'
  have hbb := hid (balloc w (.cells #[.int .i64 (E : Int), .slice ad V cap] 31))
  have hq := hid (heap_alloc_new w (.cells #[.int .i64 (E : Int), .slice ad V cap] 31))
  obtain ⟨w1, hw1⟩ : ∃ w1, w.alloc (.cells #[.int .i64 (E : Int), .slice ad V cap] 31) = w1 := ⟨_, rfl⟩
  rw [hw1] at hbb hq
  replace hw1 := hid hw1
  have up : Hid (∀ y, Below w1.heap.size w1 y → y.heap[w.heap.size]? = some (.cells #[.int .i64 (E : Int), .slice ad V cap] 31 (0, 0))) := fun y hy => (hy.block _ (Array.getElem?_eq_some_iff.1 hq.out).1).trans hq.out
  have tot : Hid (∀ y, Below w1.heap.size w1 y → Below w.heap.size w y) := fun y hy => hbb.out.trans (hy.mono hbb.out.size)
  subst hdk
  have d1 : decide ((k : Int) < 0) = false := decide_eq_false (by omega)
  have d2 : decide (2 * (E : Int) ≤ (k : Int)) = false := decide_eq_false (by omega)
  have d3 : decide ((u : Int) < 0) = false := decide_eq_false (by omega)
  have hvv : (decide (v < 0) = true) ∨ (decide (v < 0) = false ∧ decide ((V : Int) ≤ v) = true) := by
    by_cases h0 : v < 0
    · exact .inl (decide_eq_true h0)
    · exact .inr ⟨decide_eq_false h0, decide_eq_true (by omega)⟩
  clear hv
  clear h
  rcases hvv with v1 | ⟨v1, v2⟩
  all_goals
    go_enter Tryd.func13, Tryd.ntmps13
    go_upto_region 1 with fail
    rw [hw1.out]
    go_wp2_with fail
    refine (h3a.out w1 (tot.out w1 (Below.refl w1.heap.size w1))).mono ?_
    rintro x w2 ⟨rfl, bq⟩
    have c2 : Hid (Below w1.heap.size w1 w2) := Below.trans (Below.refl w1.heap.size w1) (bq.mono (Below.size (Below.refl w1.heap.size w1)))
    clear bq
    go_wp2_with fail
    refine (h3b.out w2 (tot.out w2 c2.out)).mono ?_
    rintro x w3 ⟨rfl, bq⟩
    have c3 : Hid (Below w1.heap.size w1 w3) := Below.trans c2.out (bq.mono (Below.size c2.out))
    clear bq
    go_wp2_with fail
    refine (h3c.out w3 (tot.out w3 c3.out)).mono ?_
    rintro x w4 ⟨rfl, bq⟩
    have c4 : Hid (Below w1.heap.size w1 w4) := Below.trans c3.out (bq.mono (Below.size c3.out))
    clear bq
    obtain ⟨e0, e1, _, _⟩ := blk2 (up.out w4 c4.out)
    go_wp2_with fail
    refine (hf.out w4 (tot.out w4 c4.out)).mono ?_
    rintro x w5 ⟨at0, as0, rfl, hat, bq⟩
    have c5 : Hid (Below w1.heap.size w1 w5) := c4.out.trans (bq.mono c4.out.size)
    clear bq e0 e1
    obtain rfl : at0 = (u : Int) := hfu.out _ _ hat
    clear hat
    obtain ⟨e0, e1, _, _⟩ := blk2 (up.out w5 c5.out)
    go_wp2_with fail
    refine (hr1.out w5 (tot.out w5 c5.out)).mono ?_
    rintro x w6 ⟨rfl, bq⟩
    have c6 : Hid (Below w1.heap.size w1 w6) := c5.out.trans (bq.mono c5.out.size)
    clear bq e0 e1
    obtain ⟨e0, e1, _, _⟩ := blk2 (up.out w6 c6.out)
    go_wp2_with fail
    refine (hr2.out w6 (tot.out w6 c6.out)).mono ?_
    rintro x w7 ⟨rfl, bq⟩
    have c7 : Hid (Below w1.heap.size w1 w7) := c6.out.trans (bq.mono c6.out.size)
    clear bq e0 e1
    go_wp2_with fail
    refine (hro.out w7 (tot.out w7 c7.out)).mono ?_
    rintro x w10 ⟨rfl, bq⟩
    have c10 : Hid (Below w1.heap.size w1 w10) := c7.out.trans (bq.mono c7.out.size)
    clear bq
    go_wp2_with fail
    refine (hde.out w10 (tot.out w10 c10.out)).mono ?_
    rintro x w11 ⟨rfl, bq⟩
    have c11 : Hid (Below w1.heap.size w1 w11) := c10.out.trans (bq.mono c10.out.size)
    clear bq
    try clear e0 e1
    obtain ⟨e0, e1, _, _⟩ := blk2 (up.out w11 c11.out)
    go_wp2_with fail
    refine (hnum2.out w11 (hg.out.below (tot.out w11 c11.out))).mono ?_
    rintro x w12 ⟨rfl, bq⟩
    have c12 : Hid (Below w1.heap.size w1 w12) := c11.out.trans (bq.mono c11.out.size)
    clear bq
    go_wp2_with fail
    refine (hnum2.out w12 (hg.out.below (tot.out w12 c12.out))).mono ?_
    rintro x w13 ⟨rfl, bq⟩
    have c13 : Hid (Below w1.heap.size w1 w13) := c12.out.trans (bq.mono c12.out.size)
    clear bq
    go_wp2_with fail
    go_ret
    exact ⟨rfl, tot.out _ c13.out⟩

set_option maxRecDepth 100000 in
set_option maxHeartbeats 4000000 in
theorem told_ok_vin {w : World} {lo tb V E : Nat} {xv : Value} {R : Nat → List Nat} (h : Bo w lo tb xv V E E R) (d v : Int) (hg : Handle w) (hV : V ≤ 1000) (hE : E ≤ 100) (k u : Nat) (hdk : d = (k : Int)) (hu : u < V) (hm : k ∈ R u) (z : Nat) (hvz : v = (z : Int)) (hz : z < V) :
    Calls Tryd.prog 13 #[.pointer (some ⟨tb, 0, none⟩), xv, .int .i64 d, .int .i64 v] w fun x w' => x = .returned (.bool true) ∧ Below w.heap.size w w' := by
  have ht := h.tn
  have hl' : ∀ u, u < V → (R u).length ≤ 1000 := fun u hu => by have := ht.len hu; omega
  obtain ⟨n, p, o, r, hnx, h3a, h3b, h3c⟩ := three_ok h.ta d
  have hf := hid (fun y (hy : Below w.heap.size w y) => rfind_ok xv E V R d y (h.rt.below hy) hV hl')
  obtain ⟨zn, hzn⟩ : ∃ zn, nx (R u) k = zn := ⟨_, rfl⟩
  obtain ⟨zp', hzp⟩ : ∃ zp', pv (R u) k = zp' := ⟨_, rfl⟩
  obtain ⟨rfl, rfl, rfl, rfl⟩ : r = .nilIface ∧ n = (zn : Int) ∧ p = (zp' : Int) ∧ o = (u : Int) := by
    rcases hnx with ⟨_, _, _, _, h5⟩ | ⟨_, _, _, _, k', hk', _, hn'⟩ | ⟨h1, k', u', hk', hu', hm', h2, h3, h4⟩
    · have := ht.low u k hu hm; omega
    · obtain rfl : k = k' := by omega
      exact absurd ⟨u, hu, hm⟩ hn'
    · obtain rfl : k = k' := by omega
      obtain rfl := ht.one u u' k hu hu' hm hm'
      exact ⟨h1, by rw [h2, hzn], by rw [h3, hzp], h4⟩
  have hr1 := hid (fun y (hy : Below w.heap.size w y) => rnext_ok xv E V u k zn R 1 y (h.rt.below hy) ht hu hm (.inl rfl) (fun _ => hzn) (fun e => by omega) hV hl')
  have hr2 := hid (fun y (hy : Below w.heap.size w y) => rnext_ok xv E V u k zp' R (-1) y (h.rt.below hy) ht hu hm (.inr rfl) (fun e => by omega) (fun _ => hzp) hV hl')
  have hkl := ht.low u k hu hm
  have hfu : Hid (∀ r s, At V R (k : Int) r s → r = (u : Int)) := fun r s hat => (At.found ht hu hm hat).1
  clear hnx hzn hzp
  replace h3a := hid h3a
  replace h3b := hid h3b
  replace h3c := hid h3c
  subst hvz
  have hro := hid (fun y (hy : Below w.heap.size w y) => round_ok (h.ta.more hy) z hz)
  have hde := hid (fun y (hy : Below w.heap.size w y) => degree_ok (h.ta.more hy) z hz)
  have hrr := hid (fun y (hy : Below w.heap.size w y) => rround_ok xv E V z R y (h.rt.below hy) (ht.nd z hz) hz (hl' z hz))
  obtain ⟨m, hmm⟩ : ∃ m, (R z).length = m := ⟨_, rfl⟩
  have hm1 : m ≤ 1000 := by rw [← hmm]; exact hl' z hz
  rw [hmm] at hro hde
  have hlfm : Hid ((lf (R z)).length = m) := by rw [lf_length]; exact hid hmm
  replace hmm := hid hmm
  have hrt := hid h.rt
  replace hg := hid hg
  have hrt' := h.rt
  obtain ⟨lv, rfl, ad, cap, rfl, hcp, _⟩ := hrt'
  have hbb := hid (balloc w (.cells #[.int .i64 (E : Int), .slice ad V cap] 31))
  have hq := hid (heap_alloc_new w (.cells #[.int .i64 (E : Int), .slice ad V cap] 31))
  obtain ⟨w1, hw1⟩ : ∃ w1, w.alloc (.cells #[.int .i64 (E : Int), .slice ad V cap] 31) = w1 := ⟨_, rfl⟩
  rw [hw1] at hbb hq
  replace hw1 := hid hw1
  have up : Hid (∀ y, Below w1.heap.size w1 y → y.heap[w.heap.size]? = some (.cells #[.int .i64 (E : Int), .slice ad V cap] 31 (0, 0))) := fun y hy => (hy.block _ (Array.getElem?_eq_some_iff.1 hq.out).1).trans hq.out
  have tot : Hid (∀ y, Below w1.heap.size w1 y → Below w.heap.size w y) := fun y hy => hbb.out.trans (hy.mono hbb.out.size)
  subst hdk
  have d1 : decide ((k : Int) < 0) = false := decide_eq_false (by omega)
  have d2 : decide (2 * (E : Int) ≤ (k : Int)) = false := decide_eq_false (by omega)
  have d3 : decide ((u : Int) < 0) = false := decide_eq_false (by omega)
  have v1 : decide ((z : Int) < 0) = false := decide_eq_false (by omega)
  have v2 : decide ((V : Int) ≤ (z : Int)) = false := decide_eq_false (by omega)
  have v2' : decide (V ≤ z) = false := decide_eq_false (by omega)
  have i1 : (0 : Int) ≤ (z : Int) := by omega
  have i2 : (z : Int) < (V : Int) := by omega
  clear h
  go_enter Tryd.func13, Tryd.ntmps13
  go_upto_region 1 with fail
  rw [hw1.out]
  go_wp2_with fail
  refine (h3a.out w1 (tot.out w1 (Below.refl w1.heap.size w1))).mono ?_
  rintro x w2 ⟨rfl, bq⟩
  have c2 : Hid (Below w1.heap.size w1 w2) := Below.trans (Below.refl w1.heap.size w1) (bq.mono (Below.size (Below.refl w1.heap.size w1)))
  clear bq
  go_wp2_with fail
  refine (h3b.out w2 (tot.out w2 c2.out)).mono ?_
  rintro x w3 ⟨rfl, bq⟩
  have c3 : Hid (Below w1.heap.size w1 w3) := Below.trans c2.out (bq.mono (Below.size c2.out))
  clear bq
  go_wp2_with fail
  refine (h3c.out w3 (tot.out w3 c3.out)).mono ?_
  rintro x w4 ⟨rfl, bq⟩
  have c4 : Hid (Below w1.heap.size w1 w4) := Below.trans c3.out (bq.mono (Below.size c3.out))
  clear bq
  obtain ⟨e0, e1, _, _⟩ := blk2 (up.out w4 c4.out)
  go_wp2_with fail
  refine (hf.out w4 (tot.out w4 c4.out)).mono ?_
  rintro x w5 ⟨at0, as0, rfl, hat, bq⟩
  have c5 : Hid (Below w1.heap.size w1 w5) := c4.out.trans (bq.mono c4.out.size)
  clear bq e0 e1
  obtain rfl : at0 = (u : Int) := hfu.out _ _ hat
  clear hat
  obtain ⟨e0, e1, _, _⟩ := blk2 (up.out w5 c5.out)
  go_wp2_with fail
  refine (hr1.out w5 (tot.out w5 c5.out)).mono ?_
  rintro x w6 ⟨rfl, bq⟩
  have c6 : Hid (Below w1.heap.size w1 w6) := c5.out.trans (bq.mono c5.out.size)
  clear bq e0 e1
  obtain ⟨e0, e1, _, _⟩ := blk2 (up.out w6 c6.out)
  go_wp2_with fail
  refine (hr2.out w6 (tot.out w6 c6.out)).mono ?_
  rintro x w7 ⟨rfl, bq⟩
  have c7 : Hid (Below w1.heap.size w1 w7) := c6.out.trans (bq.mono c6.out.size)
  clear bq e0 e1
  go_wp2_with fail
  refine (hro.out w7 (tot.out w7 c7.out)).mono ?_
  rintro x w10 ⟨rv, rfl, hrow, bq⟩
  have hnl : NL w10 rv (lf (R z)) := nl_of (by rw [hlfm.out]; exact hrow)
  obtain ⟨ra, rn, rc, rfl, hrest⟩ := hnl
  have hnl : Hid (NL w10 (.slice ra rn rc) (lf (R z))) := ⟨ra, rn, rc, rfl, hrest⟩
  clear hrow hrest
  have c10 : Hid (Below w1.heap.size w1 w10) := c7.out.trans (bq.mono c7.out.size)
  clear bq
  go_wp2_with fail
  refine (hde.out w10 (tot.out w10 c10.out)).mono ?_
  rintro x w11 ⟨rfl, bq⟩
  have c11 : Hid (Below w1.heap.size w1 w11) := c10.out.trans (bq.mono c10.out.size)
  replace hnl := hid (hnl.out.below bq)
  clear bq
  try clear e0 e1
  obtain ⟨e0, e1, _, _⟩ := blk2 (up.out w11 c11.out)
  go_wp2_with fail
  refine (hrr.out w11 (tot.out w11 c11.out)).mono ?_
  rintro x w12 ⟨tv, rfl, hn2, bq⟩
  have c12 : Hid (Below w1.heap.size w1 w12) := c11.out.trans (bq.mono c11.out.size)
  replace hnl := hid (hnl.out.below bq)
  replace hn2 := hid hn2
  clear bq e0 e1
  go_wp2_with fail
  refine (ints_ok _ _ _ w12 hnl.out hn2.out).mono ?_
  rintro x w13 ⟨rfl, m13, rfl⟩
  have c13 : Hid (Below w1.heap.size w1 (w12.drewN m13)) := belowN c12.out m13
  generalize w12.drewN m13 = w13 at c13 ⊢
  clear hnl hn2 c12
  obtain ⟨e0, e1, _, _⟩ := blk2 (up.out w13 c13.out)
  have hrt13 := hrt.out.below (tot.out w13 c13.out)
  obtain ⟨lv2, el, ad2, cap2, e2, hc1, hc2, hro2⟩ := hrt13
  simp only [Value.agg.injEq, Array.mk.injEq, List.cons.injEq, true_and, and_true] at el
  subst el
  simp only [Value.slice.injEq] at e2
  obtain ⟨rfl, _, rfl⟩ := e2
  obtain ⟨b1, o1, x1, rfl, cx, a3, n3, cap3, rfl, hn3, _⟩ := hro2 z hz
  obtain rfl : n3 = m := by rw [← hn3]; exact hmm.out
  clear hn3 hro2 hc1 hc2
  go_wp2_with fail
  go_ret
  exact ⟨by simp, tot.out _ c13.out⟩

theorem told_ok {w : World} {lo tb V E : Nat} {xv : Value} {R : Nat → List Nat} (h : Bo w lo tb xv V E E R) (d v : Int) (hg : Handle w) (hV : V ≤ 1000) (hE : E ≤ 100) :
    Calls Tryd.prog 13 #[.pointer (some ⟨tb, 0, none⟩), xv, .int .i64 d, .int .i64 v] w fun x w' => x = .returned (.bool true) ∧ Below w.heap.size w w' := by
  by_cases hv : v < 0 ∨ (V : Int) ≤ v
  · by_cases hd : d < 0 ∨ 2 * (E : Int) ≤ d
    · exact told_range_vout h d v hg hV hE hd hv
    · obtain ⟨k, hk⟩ : ∃ k : Nat, d = (k : Int) := ⟨d.toNat, by omega⟩
      by_cases hi : In V R k
      · obtain ⟨u, hu, hm⟩ := hi
        exact told_ok_vout h d v hg hV hE k u hk hu hm hv
      · exact told_stale_vout h d v hg hV hE k hk (by omega) hi hv
  · obtain ⟨z, hz⟩ : ∃ z : Nat, v = (z : Int) := ⟨v.toNat, by omega⟩
    by_cases hd : d < 0 ∨ 2 * (E : Int) ≤ d
    · exact told_range_vin h d v hg hV hE hd z hz (by omega)
    · obtain ⟨k, hk⟩ : ∃ k : Nat, d = (k : Int) := ⟨d.toNat, by omega⟩
      by_cases hi : In V R k
      · obtain ⟨u, hu, hm⟩ := hi
        exact told_ok_vin h d v hg hV hE k u hk hu hm z hz (by omega)
      · exact told_stale_vin h d v hg hV hE k hk (by omega) hi z hz (by omega)

end Go.Proofs.YtdlggnibgnflnaaDoor
