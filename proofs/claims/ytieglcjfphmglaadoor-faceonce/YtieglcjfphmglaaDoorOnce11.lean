/- 'FaceOnce', walked. -/
import Derived.Test.YtieglcjfphmglaaDoorLaws11
namespace Go.Proofs.YtieglcjfphmglaaDoor
open Go.RowKit
set_option linter.unusedVariables false

/-- How often each number was met. -/
def cnt (l : List Nat) : Nat → Nat := fun y => l.count y
def cts (n : Nat) (p : Nat → Nat) : List Value := (List.range n).map (fun i => .int .i64 (p i : Int))
@[simp] theorem cts_length (n : Nat) (p : Nat → Nat) : (cts n p).length = n := by simp [cts]
theorem cts_get {n : Nat} {p : Nat → Nat} {j : Nat} (h : j < n) : (cts n p)[j]? = some (.int .i64 (p j : Int)) := by simp [cts, h]
theorem cts_set (n : Nat) (l : List Nat) (x : Nat) : (cts n (cnt l)).set x (.int .i64 ((cnt l x + 1 : Nat) : Int)) = cts n (cnt (l ++ [x])) := by
  apply List.ext_getElem?
  intro j
  by_cases hj : j < n
  · rw [cts_get hj, List.getElem?_set]
    by_cases e : x = j
    · subst e; simp [cnt, hj]
    · rw [if_neg e, cts_get hj]
      have : (l ++ [x]).count j = l.count j := by simp [e]
      simp [cnt, this]
  · rw [List.getElem?_eq_none (by simp; omega), List.getElem?_eq_none (by simp; omega)]
theorem cts_made (n : Nat) : (madeCells (Value.cells (.int .i64 0)) (n * 1)).toList = cts n (cnt []) := by
  rw [Nat.mul_one]
  show (madeCells #[Value.int .i64 0] n).toList = _
  rw [toList_madeCells_one]
  apply List.ext_getElem?
  intro j
  by_cases hj : j < n
  · rw [cts_get hj]; simp [hj, cnt]
  · rw [List.getElem?_eq_none (by simp; omega), List.getElem?_eq_none (by simp; omega)]

/-- Counts made since w0 began. -/
structure Ct (base : Nat) (w0 w : World) (v : Value) (n : Nat) (l : List Nat) : Prop where
  row : w.ownsRow base 3 1 v n (cts n (cnt l))
  bel : Below base w0 w
  low : base ≤ w0.heap.size

theorem Ct.more {base n : Nat} {w0 w w' : World} {v : Value} {l : List Nat} (h : Ct base w0 w v n l) (hb : Below w.heap.size w w') : Ct base w0 w' v n l :=
  ⟨ownsRow_below h.row hb, h.bel.trans (hb.mono (Nat.le_trans h.low h.bel.size)), h.low⟩

theorem count_nd {l : List Nat} (h : l.Nodup) (x : Nat) : l.count x = if x ∈ l then 1 else 0 := by
  by_cases hx : x ∈ l
  · rw [if_pos hx]
    have h1 := List.nodup_iff_count.1 h x
    have h2 := List.count_pos_iff.2 hx
    omega
  · rw [if_neg hx, List.count_eq_zero.2 hx]

theorem orb_len (f : Nat → Nat) (x : Nat) : (Pq.orb f x).length = Pq.per f x := by unfold Pq.orb; simp

theorem face_facts {V E : Nat} {R : Nat → List Nat} (ht : Tn V E R) (hw : Tw V E R) {x : Nat} {c : List Nat} (hc : c ∈ fcs V R x) : ∃ z, c[0]? = some z ∧ 0 < c.length ∧ c.length ≤ 2 * E ∧ ∀ d, d ∈ c → In V R d ∧ z ≤ d ∧ (Pq.orb (fx V R) d).length = c.length := by
  have pm := fx_pm ht hw
  obtain ⟨z, _, hi, hl, rfl⟩ := mem_fcs.1 hc
  have hzl := hi.low ht
  have hp := pm.per_is hzl
  refine ⟨z, ?_, ?_, ?_, fun d hd => ?_⟩
  · unfold Pq.orb
    rw [Pq.fl_get hp.1.pos]
    rfl
  · rw [orb_len]; exact hp.1.pos
  · rw [orb_len]; exact hp.2
  · obtain ⟨k, rfl⟩ := (pm.mem_orb hzl).1 hd
    refine ⟨(it_in ht hw k).2 hi, hl k, ?_⟩
    rw [orb_len, orb_len]
    exact (pm.per_on hzl hp.1 k).eq

theorem flat_at {ms : List (List Nat)} {i k d : Nat} {c : List Nat} (hi : ms[i]? = some c) (hk : c[k]? = some d) : ms.flatten = ((ms.take i).flatten ++ c.take k) ++ d :: (c.drop (k + 1) ++ (ms.drop (i + 1)).flatten) := by
  obtain ⟨h1, rfl⟩ := List.getElem?_eq_some_iff.1 hi
  obtain ⟨h2, rfl⟩ := List.getElem?_eq_some_iff.1 hk
  have e2 : ms[i] = ms[i].take k ++ ms[i][k] :: ms[i].drop (k + 1) := by rw [← List.drop_eq_getElem_cons h2, List.take_append_drop]
  have e1 : ms = ms.take i ++ ms[i] :: ms.drop (i + 1) := by rw [← List.drop_eq_getElem_cons h1, List.take_append_drop]
  have e3 : ms.flatten = (ms.take i).flatten ++ (ms[i] ++ (ms.drop (i + 1)).flatten) := by
    conv => lhs; rw [e1]
    rw [List.flatten_append, List.flatten_cons]
  have e4 : ms[i] ++ (ms.drop (i + 1)).flatten = (ms[i].take k ++ ms[i][k] :: ms[i].drop (k + 1)) ++ (ms.drop (i + 1)).flatten := by rw [← e2]
  rw [e3, e4]
  simp only [List.append_assoc, List.cons_append]

theorem take_flat {ms : List (List Nat)} {i : Nat} {c : List Nat} (hi : ms[i]? = some c) : (ms.take (i + 1)).flatten = (ms.take i).flatten ++ c := by
  rw [List.take_add_one, hi]
  simp

/-- What is read of rows of rows. -/
theorem Rg.at {b n cap i : Nat} {ad : Option Addr} {w : World} {ms : List (List Nat)} {c : List Nat} (h : Rg b w (.slice ad n cap) ms) (hi : ms[i]? = some c) : ∃ g o ad2 cap2, ad = some ⟨g, o, none⟩ ∧ w.cell? ⟨g, o + i, none⟩ = some (.slice ad2 c.length cap2) ∧ ∀ j x : Nat, c[j]? = some x → ∃ g2 o2, ad2 = some ⟨g2, o2, none⟩ ∧ w.cell? ⟨g2, o2 + j, none⟩ = some (.int .i64 (x : Int)) := by
  obtain ⟨ad', cap', e, _, _, hr⟩ := h.rl
  simp only [Value.slice.injEq] at e
  obtain ⟨rfl, rfl, rfl⟩ := e
  obtain ⟨g, o, x, e1, e2, e3⟩ := hr i (List.getElem?_eq_some_iff.1 hi).1
  change NL w x ((ms[i]?).getD []) at e3
  rw [hi] at e3
  obtain ⟨ad2, n2, cap2, rfl, hl, _, _, hc⟩ := e3
  change c.length = n2 at hl
  subst hl
  exact ⟨g, o, ad2, cap2, e1, e2, hc⟩

set_option maxRecDepth 100000 in
set_option maxHeartbeats 4000000 in
theorem once_law (n : Int) (v : Value) (l : List Ac) (w : World) (hg : Handle w) (hv : AV w v l) :
    Calls Tryd.prog 5 #[.int .i64 n, v] w fun x w' => x = .returned (.bool true) ∧ Below w.heap.size w w' := by
  obtain ⟨i0, hif, hz0, hz1, hz2⟩ := info_parts infoInt
  have hm := hid (made_ok n v l w hg hv)
  have hsu := hid (fun y => sure_ok y)
  clear hg hv
  go_enter Tryd.func5, Tryd.ntmps5
  go_wp2_with fail
  refine hm.out.mono ?_
  rintro x w1 ⟨tb, V, R, ad, cap, rfl, hV1, hV6, hbo, b1⟩
  have hls := hid (Md.ls hbo b1)
  clear hbo b1 hm
  obtain ⟨w2, hw2⟩ : ∃ w2, w1.alloc (.cells #[.int .i64 8, .slice ad V cap] 26) = w2 := ⟨_, rfl⟩
  rw [hw2] at hls
  replace hw2 := hid hw2
  have hsz := Nat.le_refl w2.heap.size
  have htn := hid hls.out.tn
  have htw := hid hls.out.tw
  go_upto_region 2 with fail
  try rw [hw2.out]
  clear hw2
  go_wp2_with (at_make; refine wpList_make_full _ rfl (.const (.int .i64 16)) (.const (.int .i64 16)) 29 rfl w2.heap.size 3 i0 (.int .i64 0) 1 Tryd.underlying29 hif hz0 hz1 .i64 .i64 _ _ 16 rfl rfl rfl rfl (by rw [hz2]; omega) (by unfold maxLen; omega) hsz ?_; intro w3 hown hgrow)
  have hct3 : Hid (Ct w2.heap.size w2 w3 (.slice (some ⟨w2.heap.size, 0, none⟩) 16 16) 16 []) := by
    rw [cts_made] at hown
    exact ⟨hown, (Below.refl w2.heap.size w2).grown hgrow hsz (by simp), Nat.le_refl _⟩
  have hs3 : w2.heap.size < w3.heap.size := by
    obtain ⟨cs, fr, h⟩ := row_ty hown rfl
    exact (Array.getElem?_eq_some_iff.1 h).1
  clear hown hgrow
  have hal := hid (all_ok (hls.out.ta.more hct3.out.bel) htw.out (by decide))
  go_wp2_with fail
  refine hal.out.mono ?_
  rintro x w4 ⟨av, rfl, hrg4, b4⟩
  have hct4 := hid (hct3.out.more b4)
  replace hrg4 := hid (hrg4.low (show w2.heap.size + 1 ≤ w3.heap.size by omega))
  have hff : Hid (∀ (i : Nat) (c : List Nat), (fcs V R (2 * 8))[i]? = some c → ∃ z, c[0]? = some z ∧ 0 < c.length ∧ c.length ≤ 2 * 8 ∧ ∀ d, d ∈ c → In V R d ∧ z ≤ d ∧ (Pq.orb (fx V R) d).length = c.length) := hid (fun i c hc => face_facts htn.out htw.out (List.mem_of_getElem? hc))
  have hnd := hid (fcs_nd htn.out htw.out (2 * 8) (Nat.le_refl _))
  have hmem : Hid (∀ d, d < 16 → (d ∈ (fcs V R (2 * 8)).flatten ↔ In V R d)) := hid (fun d hd => by
    rw [fcs_mem htn.out htw.out (Nat.le_refl _)]
    exact ⟨fun q => q.1, fun q => ⟨q, 0, hd⟩⟩)
  have hml := fcs_le V R (2 * 8)
  generalize fcs V R (2 * 8) = ms at *
  obtain ⟨aA, cA, hav⟩ := rl_form hrg4.out.rl
  subst hav
  obtain ⟨nA, hnA⟩ : ∃ nA, ms.length = nA := ⟨_, rfl⟩
  rw [hnA] at hrg4 hml ⊢
  replace hnA := hid hnA
  clear hct3 b4 hal
  go_wp2_with fail
  go_loopw [10, 11, 12, 13, 14] (fun s10 _ _ _ _ wr => ∃ i : Nat, i ≤ nA ∧ s10 = .int .i64 (i : Int) ∧ Hid (Ct w2.heap.size w2 wr (.slice (some ⟨w2.heap.size, 0, none⟩) 16 16) 16 (ms.take i).flatten ∧ Rg (w2.heap.size + 1) wr (.slice aA nA cA) ms))
    (fun s10 _ _ _ _ _ => nA - (intOf s10).toNat)
  case atStart => exact ⟨0, by omega, by go_num, by simpa using hct4.out, hrg4.out⟩
  case round =>
    obtain ⟨i, hi, rfl, hst⟩ := hrel
    clear hct4 hrg4
    rcases Nat.lt_or_ge i nA with hlt | hge
    · obtain ⟨c, hc⟩ : ∃ c, ms[i]? = some c := ⟨_, List.getElem?_eq_getElem (by rw [hnA.out]; exact hlt)⟩
      obtain ⟨z, hz0', hcp, hcl, hcd⟩ := hff.out i c hc
      obtain ⟨g, o, ad2, cap2, rfl, ec, _⟩ := hst.out.2.at hc
      obtain ⟨N, hN⟩ : ∃ N, c.length = N := ⟨_, rfl⟩
      rw [hN] at hcp hcl hcd ec
      have i1 : (0 : Int) ≤ (i : Int) := by omega
      have i2 : (i : Int) < (nA : Int) := by omega
      have v1 : decide ((i : Int) < (nA : Int)) = true := decide_eq_true (by omega)
      have t1 : ((N : Int) == 0) = false := by simp; omega
      have t2 : ¬ ((N : Int) = 0) := by omega
      have t3 : ¬ (N = 0) := by omega
      replace hN := hid hN
      replace hcd := hid hcd
      replace hz0' := hid hz0'
      have hch := hid hc
      have hst1 : Hid (Ct w2.heap.size w2 wr (.slice (some ⟨w2.heap.size, 0, none⟩) 16 16) 16 ((ms.take i).flatten ++ c.take 0) ∧ Rg (w2.heap.size + 1) wr (.slice (some ⟨g, o, none⟩) nA cA) ms) := hid ⟨by simpa using hst.out.1, hst.out.2⟩
      clear hst hc
      go_wp2_with fail
      go_loopw [11, 12, 13, 14] (fun s11 _ _ _ wy => ∃ k : Nat, k ≤ N ∧ s11 = .int .i64 (k : Int) ∧ Hid (Ct w2.heap.size w2 wy (.slice (some ⟨w2.heap.size, 0, none⟩) 16 16) 16 ((ms.take i).flatten ++ c.take k) ∧ Rg (w2.heap.size + 1) wy (.slice (some ⟨g, o, none⟩) nA cA) ms))
        (fun s11 _ _ _ _ => N - (intOf s11).toNat)
      case atStart => exact ⟨0, by omega, by go_num, hst1⟩
      case round =>
        obtain ⟨k, hk, rfl, hst⟩ := hrel
        clear hst1 ec
        obtain ⟨g', o', ad3, cap3, e9, ec, hcc⟩ := hst.out.2.at hch.out
        simp only [Option.some.injEq, Addr.mk.injEq] at e9
        obtain ⟨rfl, rfl, _⟩ := e9
        rw [hN.out] at ec
        rcases Nat.lt_or_ge k N with hkl | hkg
        · obtain ⟨d, hd⟩ : ∃ d, c[k]? = some d := ⟨_, List.getElem?_eq_getElem (by rw [hN.out]; exact hkl)⟩
          obtain ⟨hdi, hzd, hol⟩ := hcd.out d (List.mem_of_getElem? hd)
          have hdl := hdi.low htn.out
          obtain ⟨g2, o2, rfl, ed⟩ := hcc k d hd
          obtain ⟨g2', o2', e8, ez⟩ := hcc 0 z hz0'.out
          simp only [Option.some.injEq, Addr.mk.injEq] at e8
          obtain ⟨rfl, rfl, _⟩ := e8
          simp only [Nat.add_zero] at ez
          have hnot : d ∉ (ms.take i).flatten ++ c.take k := by
            have := hnd.out
            rw [flat_at hch.out hd] at this
            exact (nd_split this).1
          have hc0 : cnt ((ms.take i).flatten ++ c.take k) d = 0 := List.count_eq_zero.2 hnot
          obtain ⟨hC, hR⟩ := hst.out
          have hold : wr.cell? ⟨w2.heap.size, d, none⟩ = some (.int .i64 0) := by
            rw [hC.row.cellAt d (by omega), cts_get (by omega), hc0]
            rfl
          obtain ⟨s1, s2⟩ := hC.row.stored d (.int .i64 1)
          have es := cts_set 16 ((ms.take i).flatten ++ c.take k) d
          rw [hc0, List.append_assoc, ← ntake hd] at es
          rw [show ((0 + 1 : Nat) : Int) = 1 from rfl] at es
          rw [es] at s1
          have hfz := hC.row.frozenAt d
          have hnew := hid (And.intro (Ct.mk s1 (below_row hC.bel hC.low hC.row (Nat.le_refl _) s2) hC.low) (hR.keptN (Nat.lt_succ_self _) s2))
          have hwk := hid (walk_ok (hls.out.ta.more hnew.out.1.bel) htw.out d hdi)
          have d1 : decide ((d : Int) < 0) = false := decide_eq_false (by omega)
          have d2 : decide ((d : Int) > 15) = false := decide_eq_false (by omega)
          have d2' : decide (15 < (d : Int)) = false := decide_eq_false (by omega)
          have d2'' : decide (15 < d) = false := decide_eq_false (by omega)
          have d3 : decide ((d : Int) < (z : Int)) = false := decide_eq_false (by omega)
          have d3' : decide (d < z) = false := decide_eq_false (by omega)
          have j1 : (0 : Int) ≤ (k : Int) := by omega
          have j2 : (k : Int) < (N : Int) := by omega
          have j3 : (0 : Int) ≤ (d : Int) := by omega
          have j4 : (d : Int) < 16 := by omega
          have j4' : d < 16 := by omega
          have j5 : (0 : Int) < (N : Int) := by omega
          have j6 : 0 < N := by omega
          have v2 : decide ((k : Int) < (N : Int)) = true := decide_eq_true (by omega)
          replace hol := hid hol
          replace hdi := hid hdi
          clear hC hR s1 s2 es hst hcc hc0 hnot hd
          go_wp2_with fail
          refine hwk.out.mono ?_
          rintro x w7 ⟨rv, rfl, hrw, b7⟩
          have hnew7 := hid (And.intro (hnew.out.1.more b7) (hnew.out.2.more b7))
          obtain ⟨a7, c7, hrv, _⟩ := own_any hrw
          rw [hol.out] at hrv
          subst hrv
          obtain ⟨g', o', ad7, cap7, e9, ec7, _⟩ := hnew7.out.2.at hch.out
          simp only [Option.some.injEq, Addr.mk.injEq] at e9
          obtain ⟨rfl, rfl, _⟩ := e9
          rw [hN.out] at ec7
          have t7 : ((N : Int) != (N : Int)) = false := by simp
          clear hnew b7 hwk hrw ec ed ez hold hfz
          go_wp2_with fail
          go_roundw
          case rel => exact ⟨k + 1, by omega, by go_num, hnew7⟩
          case measure => simp [intOf]; omega
        · obtain rfl : k = N := by omega
          have v2 : decide ((k : Int) < (k : Int)) = false := decide_eq_false (by omega)
          have hnew : Hid (Ct w2.heap.size w2 wr (.slice (some ⟨w2.heap.size, 0, none⟩) 16 16) 16 (ms.take (i + 1)).flatten ∧ Rg (w2.heap.size + 1) wr (.slice (some ⟨g, o, none⟩) nA cA) ms) := by
            refine hid ⟨?_, hst.out.2⟩
            rw [take_flat hch.out]
            have := hst.out.1
            rw [show c.take k = c from List.take_of_length_le (by rw [hN.out]; exact Nat.le_refl _)] at this
            exact this
          clear hst hcc
          go_wp2_with fail
          go_roundw
          case rel => exact ⟨i + 1, by omega, by go_num, hnew⟩
          case measure => simp [intOf]; omega
    · obtain rfl : i = nA := by omega
      have v1 : decide ((i : Int) < (i : Int)) = false := decide_eq_false (by omega)
      have hct : Hid (Ct w2.heap.size w2 wr (.slice (some ⟨w2.heap.size, 0, none⟩) 16 16) 16 ms.flatten) := by
        have := hst.out.1
        rw [List.take_of_length_le (by rw [hnA.out]; exact Nat.le_refl _)] at this
        exact hid this
      clear hst
      go_wp2_with fail
      go_loopw [15, 16, 17] (fun s15 _ _ wy => ∃ d : Nat, d ≤ 16 ∧ s15 = .int .i64 (d : Int) ∧ Hid (Ct w2.heap.size w2 wy (.slice (some ⟨w2.heap.size, 0, none⟩) 16 16) 16 ms.flatten))
        (fun s15 _ _ _ => 16 - (intOf s15).toNat)
      case atStart => exact ⟨0, by omega, by go_num, hct⟩
      case round =>
        obtain ⟨d, hd, rfl, hst⟩ := hrel
        clear hct
        rcases Nat.lt_or_ge d 16 with hdl | hdg
        · have hls1 := hls.out.more hst.out.bel
          obtain ⟨ad', cap', hrt, c0, c1⟩ := hls1.rt
          have hf := hid (rfind_ok _ 8 V R (d : Int) wr hrt (by omega) (len16 htn.out))
          have v3 : decide ((d : Int) < 16) = true := decide_eq_true (by omega)
          clear hls1 hrt
          go_wp2_with fail
          refine hf.out.mono ?_
          rintro x w7 ⟨r, s, rfl, hat, b7⟩
          have hst7 := hid (hst.out.more b7)
          have hcell : w7.cell? ⟨w2.heap.size, d, none⟩ = some (.int .i64 (cnt ms.flatten d : Int)) := by rw [hst7.out.row.cellAt d (by omega), cts_get hdl]
          have z1 : Int.tdiv (d : Int) 2 = ((d / 2 : Nat) : Int) := by rw [Int.tdiv_eq_ediv_of_nonneg (by omega)]; omega
          have z1' : (d : Int) / 2 = ((d / 2 : Nat) : Int) := by omega
          have z2 : IntKind.i64.wrap ((d / 2 : Nat) : Int) = ((d / 2 : Nat) : Int) := by rw [IntKind.wrap_i64]; omega
          have hev : In V R (2 * (d / 2)) ↔ In V R d := by
            have := htw.out (d / 2) (by omega)
            by_cases he : d % 2 = 0
            · rw [show 2 * (d / 2) = d by omega]
            · rw [show 2 * (d / 2) + 1 = d by omega] at this
              exact this
          have hha := hid (fun b (hb : b = true ↔ In V R d) => has_ok (hls.out.ta.more hst7.out.bel) (d / 2) b (by omega) (hb.trans hev.symm))
          have hcn : Hid (cnt ms.flatten d = if d ∈ ms.flatten then 1 else 0) := hid (count_nd hnd.out d)
          have j3 : (0 : Int) ≤ (d : Int) := by omega
          have j4 : (d : Int) < 16 := by omega
          clear hst b7 c0 c1 hf
          rcases hat.in with ⟨hr0, hin⟩ | ⟨rfl, hin⟩
          · rw [hcn.out, if_pos ((hmem.out d hdl).2 hin)] at hcell
            have hh := hid (hha.out true ⟨fun _ => hin, fun _ => rfl⟩)
            have t1 : decide (r < 0) = false := decide_eq_false (by omega)
            have t2 : decide (r ≥ 0) = true := decide_eq_true hr0
            have t2' : decide (0 ≤ r) = true := decide_eq_true hr0
            clear hat hev hha
            generalize d / 2 = e at *
            go_wp2_with fail
            refine hh.out.mono ?_
            rintro x w8 ⟨rfl, b8⟩
            have hst8 := hid (hst7.out.more b8)
            clear b8
            go_wp2_with fail
            go_roundw
            case rel => exact ⟨d + 1, by omega, by go_num, hst8⟩
            case measure => simp [intOf]; omega
          · rw [hcn.out, if_neg (fun q => hin ((hmem.out d hdl).1 q))] at hcell
            have hh := hid (hha.out false (Iff.intro (fun q => absurd q (by decide)) (fun q => absurd q hin)))
            clear hat hev hha
            generalize d / 2 = e at *
            go_wp2_with fail
            refine hh.out.mono ?_
            rintro x w8 ⟨rfl, b8⟩
            have hst8 := hid (hst7.out.more b8)
            clear b8
            go_wp2_with fail
            go_roundw
            case rel => exact ⟨d + 1, by omega, by go_num, hst8⟩
            case measure => simp [intOf]; omega
        · obtain rfl : d = 16 := by omega
          have hb := hid (hls.out.bel.trans (hst.out.bel.mono hls.out.bel.size))
          clear hst
          go_wp2_with fail
          refine (hsu.out _).mono ?_
          rintro x w9 ⟨rfl, b9⟩
          have hb9 := hid (hb.out.trans (b9.mono hb.out.size))
          clear b9
          go_wp2_with fail
          go_ret
          exact ⟨rfl, hb9.out⟩

end Go.Proofs.YtieglcjfphmglaaDoor
