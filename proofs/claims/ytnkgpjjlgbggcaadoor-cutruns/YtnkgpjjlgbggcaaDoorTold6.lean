/- 'told': is all that is told of the road between two nodes right? -/
import Derived.Test.YtnkgpjjlgbggcaaDoorRoadR6
import Derived.Test.YtnkgpjjlgbggcaaDoorSums6
namespace Go.Proofs.YtnkgpjjlgbggcaaDoor
open Go.RowKit
set_option linter.unusedVariables false

/-- The reference's road, as it lies: l by one more. -/
def RO (w : World) (g cap : Nat) (l : List Nat) : Prop := ∃ cur, w.heap[g]? = some (.cells cur 3 (0, 0)) ∧ ∀ (j d : Nat), l[j]? = some (d + 1) → cur[j]? = some (.int .i64 (d : Int))

theorem RO.keep {w w' : World} {g cap : Nat} {l : List Nat} (h : RO w g cap l) (k : Keep w w') : RO w' g cap l := by
  obtain ⟨cur, h1, h2⟩ := h
  exact ⟨cur, k g _ _ _ h1 (by decide) (by decide), h2⟩

theorem RO.more {w w' : World} {g cap : Nat} {l : List Nat} (h : RO w g cap l) (hb : Below w.heap.size w w') : RO w' g cap l := h.keep (Keep.ofBelow hb)

theorem RO.ir {w : World} {g cap : Nat} {l : List Nat} (h : RO w g cap l) : Ir w g 0 l := fun j d hj => by
  obtain ⟨cur, h1, h2⟩ := h
  unfold World.cell?
  rw [h1]
  simpa using h2 j d hj

theorem RO.ofRow {w : World} {base : Nat} {u : Value} {l0 : List Nat} (h : w.ownsRow base 3 1 u l0.length (l0.map icn)) (h0 : 0 < l0.length) : ∃ g cap, u = .slice (some ⟨g, 0, none⟩) (l0.map (· + 1)).length cap ∧ RO w g cap (l0.map (· + 1)) := by
  rcases h.2 with ⟨_, e⟩ | ⟨g, cap, cur, e, _, hg, _, _, _, ht⟩
  · omega
  · refine ⟨g, cap, by rw [e, List.length_map], cur, hg, fun j d hj => ?_⟩
    rw [List.getElem?_map] at hj
    cases hd : l0[j]? with
    | none => rw [hd] at hj; cases hj
    | some d' =>
      rw [hd] at hj
      simp at hj
      subst hj
      have hjl := (List.getElem?_eq_some_iff.1 hd).1
      have e2 : (cur.toList.take (l0.length * 1))[j]? = (l0.map icn)[j]? := by rw [ht]
      rw [List.getElem?_take, if_pos (by omega), List.getElem?_map, hd] at e2
      simpa [icn] using e2

set_option maxRecDepth 100000 in
set_option maxHeartbeats 4000000 in
theorem told6N (lo fb K a b vb : Nat) (v : Nat → Int) (adj : Nat → Nat → Prop) (w wr : World) (h : FS lo w fb K v adj wr) (hg : Handle w) (hlo : lo = w.heap.size) (ha : a < K) (hb : b < K) (hab : ∀ l, ¬ Rd adj (a + 1) (b + 1) l) :
    Calls Tryd.prog 13 #[.pointer (some ⟨fb, 0, none⟩), .slice none 0 0, .slice (some ⟨vb, 0, none⟩) K K, .int .i64 (a : Int), .int .i64 (b : Int)] wr fun e w' => e = .returned (.bool true) ∧ FS lo w fb K v adj w' ∧ Keep wr w' := by
  have h1 := hid h
  have hab := hid hab
  have hg := hid hg
  clear h
  go_enter Tryd.func13, Tryd.ntmps13
  go_wp2_with fail
  refine (h1.out.lenN a b ha hb hab.out).mono ?_
  rintro e w2 ⟨rfl, h2, k2⟩
  replace h2 := hid h2
  replace k2 := hid k2
  clear h1
  go_wp2_with fail
  refine (h2.out.sumN a b ha hb hab.out).mono ?_
  rintro e w3 ⟨rfl, h3, k3⟩
  replace h3 := hid h3
  replace k3 := hid (k2.out.trans k3)
  clear h2 k2
  go_wp2_with fail
  refine (h3.out.leastN a b ha hb hab.out).mono ?_
  rintro e w4 ⟨rfl, h4, k4⟩
  replace h4 := hid h4
  replace k4 := hid (k3.out.trans k4)
  clear h3 k3
  go_wp2_with fail
  refine (h4.out.mostN a b ha hb hab.out).mono ?_
  rintro e w5 ⟨rfl, h5, k5⟩
  replace h5 := hid h5
  replace k5 := hid (k4.out.trans k5)
  clear h4 k4
  go_wp2_with fail
  refine (h5.out.listN a b ha hb hab.out).mono ?_
  rintro e w6 ⟨rfl, h6, k6⟩
  replace h6 := hid h6
  replace k6 := hid (k5.out.trans k6)
  clear h5 k5
  go_wp2_with fail
  refine (h6.out.sameN a b ha hb hab.out).mono ?_
  rintro e w7 ⟨rfl, h7, k7⟩
  replace h7 := hid h7
  replace k7 := hid (k6.out.trans k7)
  clear h6 k6
  go_wp2_with fail
  refine (num_err 21 _ (h7.out.handle hg.out hlo)).mono ?_
  rintro e w8 ⟨rfl, b8⟩
  have h8 := hid (h7.out.more b8)
  have k8 := hid (k7.out.trans (Keep.ofBelow b8))
  clear h7 k7 b8
  go_wp2_with fail
  refine (num_err 21 _ (h8.out.handle hg.out hlo)).mono ?_
  rintro e w9 ⟨rfl, b9⟩
  have h9 := hid (h8.out.more b9)
  have k9 := hid (k8.out.trans (Keep.ofBelow b9))
  clear h8 k8 b9
  go_wp2_with fail
  refine (num_err 21 _ (h9.out.handle hg.out hlo)).mono ?_
  rintro e w10 ⟨rfl, b10⟩
  have h10 := hid (h9.out.more b10)
  have k10 := hid (k9.out.trans (Keep.ofBelow b10))
  clear h9 k9 b10
  go_wp2_with fail
  refine (num_err 21 _ (h10.out.handle hg.out hlo)).mono ?_
  rintro e w11 ⟨rfl, b11⟩
  have h11 := hid (h10.out.more b11)
  have k11 := hid (k10.out.trans (Keep.ofBelow b11))
  clear h10 k10 b11
  go_wp2_with fail
  refine (num_err 21 _ (h11.out.handle hg.out hlo)).mono ?_
  rintro e w12 ⟨rfl, b12⟩
  have h12 := hid (h11.out.more b12)
  have k12 := hid (k11.out.trans (Keep.ofBelow b12))
  clear h11 k11 b12
  go_wp2_with fail
  go_ret
  exact ⟨rfl, h12.out, k12.out⟩

theorem RO.ns {w : World} {g cap : Nat} {l : List Nat} (h : RO w g cap l) (h0 : ∀ z ∈ l, z ≠ 0) (hl : l.length ≤ 4294967296) : Ns w (.slice (some ⟨g, 0, none⟩) l.length cap) (items l) := by
  refine ⟨_, cap, by rw [items_length], fun e => (by cases e), by rw [items_length]; exact hl, fun a ha j z hz => ?_⟩
  cases ha
  unfold items at hz
  rw [List.getElem?_map] at hz
  cases hd : l[j]? with
  | none => rw [hd] at hz; cases hz
  | some d =>
    rw [hd] at hz
    simp at hz
    subst hz
    obtain ⟨d', rfl⟩ : ∃ d', d = d' + 1 := ⟨d - 1, by have := h0 d (List.mem_of_getElem? hd); omega⟩
    have := h.ir j d' hd
    rw [add_from]
    simpa using this

set_option maxRecDepth 100000 in
set_option maxHeartbeats 4000000 in
theorem told6Y (lo fb K a b vb g cap : Nat) (v : Nat → Int) (adj : Nat → Nat → Prop) (l : List Nat) (w wr : World) (h : FS lo w fb K v adj wr) (hv : VB wr vb K v) (hr : RO wr g cap l) (hK : K ≤ 1000) (ha : a < K) (hb : b < K) (hab : Rd adj (a + 1) (b + 1) l) (hr64 : In64 v l) :
    Calls Tryd.prog 13 #[.pointer (some ⟨fb, 0, none⟩), .slice (some ⟨g, 0, none⟩) l.length cap, .slice (some ⟨vb, 0, none⟩) K K, .int .i64 (a : Int), .int .i64 (b : Int)] wr fun e w' => e = .returned (.bool true) ∧ FS lo w fb K v adj w' ∧ Keep wr w' := by
  have hfew := h.few hab ha
  have hin := hid (h.road_le hab ha)
  have hne := hid hab.wk.last.1
  have hz := hid hab.wk.ne
  obtain ⟨_, _, z3⟩ := hab.wk.last_at
  obtain ⟨M, hM⟩ : ∃ M, l.length = M := ⟨_, rfl⟩
  obtain ⟨sm, hsm⟩ : ∃ sm, wrap64 (sumV v l) = sm := ⟨_, rfl⟩
  rw [hM] at hfew z3 ⊢
  have tM : decide ((0 : Int) < (M : Int)) = true := decide_eq_true (by omega)
  have tM2 : decide (0 < M) = true := decide_eq_true (by omega)
  have hM := hid hM
  have hsm := hid hsm
  have hab := hid hab
  have hr64 := hid hr64
  have h1 := hid h
  have v1 := hid hv
  have r1 := hid hr
  clear h hv hr z3
  go_enter Tryd.func13, Tryd.ntmps13
  go_wp2_with fail
  refine (h1.out.lenY a b ha hb l hab.out).mono ?_
  rintro e w2 ⟨rfl, h2, k2⟩
  rw [hM.out]
  replace h2 := hid h2
  replace k2 := hid k2
  clear h1
  go_wp2_with fail
  refine (h2.out.sumY a b ha hb l hab.out).mono ?_
  rintro e w3 ⟨rfl, h3, k3⟩
  rw [hsm.out]
  replace h3 := hid h3
  replace k3 := hid (k2.out.trans k3)
  clear h2 k2
  go_wp2_with fail
  refine (h3.out.leastY a b ha hb l hab.out hr64.out).mono ?_
  rintro e w4 ⟨d1, hd1, rfl, h4, k4⟩
  replace h4 := hid h4
  replace k4 := hid (k3.out.trans k4)
  replace hd1 := hid hd1
  clear h3 k3
  go_wp2_with fail
  refine (h4.out.mostY a b ha hb l hab.out hr64.out).mono ?_
  rintro e w5 ⟨d2, hd2, rfl, h5, k5⟩
  replace h5 := hid h5
  replace k5 := hid (k4.out.trans k5)
  replace hd2 := hid hd2
  clear h4 k4
  go_wp2_with fail
  refine (h5.out.listY a b ha hb l hab.out).mono ?_
  rintro e w6 ⟨u6, rfl, rb6, h6, k6⟩
  replace h6 := hid h6
  have rb6 := hid rb6
  replace k6 := hid (k5.out.trans k6)
  clear h5 k5
  go_wp2_with fail
  refine (h6.out.sameY a b ha hb l hab.out).mono ?_
  rintro e w7 ⟨rfl, h7, k7⟩
  have rb7 := hid (rb6.out.keep k7)
  replace h7 := hid h7
  replace k7 := hid (k6.out.trans k7)
  have r7 := hid (r1.out.keep k7.out)
  have v7 := hid (v1.out.keep k7.out)
  clear h6 k6 rb6 r1 v1
  have hs1 := rsum_ok g 0 cap vb K l v w7 r7.out.ir v7.out.vr (by omega) hin.out (by rw [hM.out]; omega)
  rw [hM.out, hsm.out] at hs1
  have hs1 := hid hs1
  go_wp2_with fail
  refine hs1.out.mono ?_
  rintro e w8 ⟨rfl, rfl⟩
  have hs2 := rleast_ok g 0 cap vb K l v w7 r7.out.ir v7.out.vr (by omega) hin.out (by rw [hM.out]; omega) hne.out
  rw [hM.out] at hs2
  have hs2 := hid hs2
  clear hs1
  go_wp2_with fail
  refine hs2.out.mono ?_
  rintro e w8 ⟨e1, rfl, hf1, b8⟩
  obtain rfl : d1 = e1 := least_one hr64.out hd1.out hf1
  have r8 := hid (r7.out.more b8)
  have v8 := hid (v7.out.more b8)
  have h8 := hid (h7.out.more b8)
  have rb8 := hid (rb7.out.keep (Keep.ofBelow b8))
  have k8 := hid (k7.out.trans (Keep.ofBelow b8))
  have hs3 := rmost_ok g 0 cap vb K l v w8 r8.out.ir v8.out.vr (by omega) hin.out (by rw [hM.out]; omega) hne.out
  rw [hM.out] at hs3
  have hs3 := hid hs3
  clear hs2 h7 r7 v7 b8 hf1 rb7 k7
  go_wp2_with fail
  refine hs3.out.mono ?_
  rintro e w9 ⟨e2, rfl, hf2, b9⟩
  obtain rfl : d2 = e2 := most_one hr64.out hd2.out hf2
  have h9 := hid (h8.out.more b9)
  have r9 := hid (r8.out.more b9)
  have rb9 := hid (rb8.out.keep (Keep.ofBelow b9))
  have k9 := hid (k8.out.trans (Keep.ofBelow b9))
  clear hs3 h8 r8 v8 b9 hf2 rb8 k8
  have hns := r9.out.ns hz.out (by rw [hM.out]; omega)
  rw [hM.out] at hns
  have hio := hid (ints_ok _ _ _ w9 (rb9.out.ns (by rw [hM.out]; omega)) hns)
  clear hns
  go_wp2_with fail
  refine hio.out.mono ?_
  rintro e w10 ⟨rfl, b10⟩
  have h10 := hid (h9.out.more b10)
  have k10 := hid (k9.out.trans (Keep.ofBelow b10))
  clear hio h9 k9 b10
  go_wp2_with fail
  go_ret
  exact ⟨rfl, h10.out, k10.out⟩

end Go.Proofs.YtnkgpjjlgbggcaaDoor
