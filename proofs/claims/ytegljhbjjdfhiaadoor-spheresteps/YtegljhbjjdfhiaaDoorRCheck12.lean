/- The document's Check of a list of vertices, walked. -/
import Derived.Test.YtegljhbjjdfhiaaDoorBfind
import Derived.Test.YtegljhbjjdfhiaaDoorBface
import Derived.Test.YtegljhbjjdfhiaaDoorIntsM10
namespace Go.Proofs.YtegljhbjjdfhiaaDoor
open Go.RowKit
set_option linter.unusedVariables false

/-- How often each number was met. -/
def cnt (l : List Nat) : Nat → Nat := fun y => l.count y
def cts (n : Nat) (p : Nat → Nat) : List Value := (List.range n).map (fun i => .int .i64 (p i : Int))
@[simp] theorem cts_length (n : Nat) (p : Nat → Nat) : (cts n p).length = n := by simp [cts]
theorem cts_get {n : Nat} {p : Nat → Nat} {j : Nat} (h : j < n) : (cts n p)[j]? = some (.int .i64 (p j : Int)) := by simp [cts, h]
theorem cts_set (n : Nat) (l : List Nat) (x : Nat) : (cts n (cnt l)).set x (.int .i64 ((cnt l x + 1 : Nat) : Int)) = cts n (cnt (l ++ [x])) := by
  apply List.ext_getElem?
  intro j
  by_cases hj : j < n
  · rw [cts_get hj, List.getElem?_set]
    by_cases e : x = j
    · subst e; simp [cnt, hj]
    · rw [if_neg e, cts_get hj]
      have : (l ++ [x]).count j = l.count j := by simp [e]
      simp [cnt, this]
  · rw [List.getElem?_eq_none (by simp; omega), List.getElem?_eq_none (by simp; omega)]
theorem cts_made (n : Nat) : (madeCells (Value.cells (.int .i64 0)) (n * 1)).toList = cts n (cnt []) := by
  rw [Nat.mul_one]
  show (madeCells #[Value.int .i64 0] n).toList = _
  rw [toList_madeCells_one]
  apply List.ext_getElem?
  intro j
  by_cases hj : j < n
  · rw [cts_get hj]; simp [hj, cnt]
  · rw [List.getElem?_eq_none (by simp; omega), List.getElem?_eq_none (by simp; omega)]

/-- Counts made since w0 began. -/
structure Ct (base : Nat) (w0 w : World) (v : Value) (n : Nat) (l : List Nat) : Prop where
  row : w.ownsRow base 3 1 v n (cts n (cnt l))
  bel : Below base w0 w
  low : base ≤ w0.heap.size

theorem Ct.more {base n : Nat} {w0 w w' : World} {v : Value} {l : List Nat} (h : Ct base w0 w v n l) (hb : Below w.heap.size w w') : Ct base w0 w' v n l :=
  ⟨ownsRow_below h.row hb, h.bel.trans (hb.mono (Nat.le_trans h.low h.bel.size)), h.low⟩


/-- What Check tells of a list. -/
def Ck12 (V : Nat) (R : Nat → List Nat) (zs : List Int) (c : Int) : Prop := (c = 12 ∧ ∃ x, x ∈ zs ∧ (x < 0 ∨ (V : Int) ≤ x)) ∨ ∃ l : List Nat, zs = l.map (fun x : Nat => (x : Int)) ∧ (∀ x, x ∈ l → x < V) ∧ ((c = 20 ∧ ¬ l.Nodup) ∨ (l.Nodup ∧ ((c = 13 ∧ ∃ v, v < V ∧ R v ≠ [] ∧ v ∉ l) ∨ (c = 0 ∧ ∀ v, v < V → R v ≠ [] → v ∈ l))))

theorem int_list {V : Nat} {zs : List Int} (h : ∀ x, x ∈ zs → ¬ (x < 0 ∨ (V : Int) ≤ x)) : ∃ l : List Nat, zs = l.map (fun x : Nat => (x : Int)) ∧ ∀ x, x ∈ l → x < V := by
  refine ⟨zs.map Int.toNat, ?_, fun x hx => ?_⟩
  · rw [List.map_map]
    conv => lhs; rw [← List.map_id zs]
    refine List.map_congr_left (fun x hx => ?_)
    have := h x hx
    show x = ((x.toNat : Nat) : Int)
    omega
  · obtain ⟨y, hy, rfl⟩ := List.mem_map.1 hx
    have := h y hy
    omega

set_option maxRecDepth 100000 in
set_option maxHeartbeats 4000000 in
theorem rcheck12_ok (tv vv : Value) (E V : Nat) (R : Nat → List Nat) (zs : List Int) (w : World) (hv : RT w tv E V R) (hL : IV w vv zs) (hln : zs.length ≤ 1000) (hV1 : 1 ≤ V) (hV : V ≤ 1000) (hl : ∀ u, u < V → (R u).length ≤ 1000) :
    Calls Tryd.prog 10 #[tv, vv] w fun e w' => ∃ c, e = .returned (.int .i64 c) ∧ Ck12 V R zs c ∧ Below w.heap.size w w' := by
  obtain ⟨i0, hif, hz0, hz1, hz2⟩ := info_parts infoInt
  have hLh := hid hL
  obtain ⟨lad, n, lcap, rfl, hsl⟩ := hL
  have hlen := hsl.len
  have hn : n ≤ 1000 := by rw [← hlen]; exact hln
  obtain ⟨lv, rfl, hr⟩ := hv
  have hrh := hid hr
  obtain ⟨ad, cap, rfl, hcap, ⟨hcap2, _⟩, _⟩ := hr
  unfold maxLen at hcap2
  obtain ⟨c0, c1⟩ := two_new w (.int .i64 (E : Int)) (.slice ad V cap) 27
  have hbb := hid (balloc w (.cells #[.int .i64 (E : Int), .slice ad V cap] 27))
  obtain ⟨w1, hw1⟩ : ∃ w1, w.alloc (.cells #[.int .i64 (E : Int), .slice ad V cap] 27) = w1 := ⟨_, rfl⟩
  rw [hw1] at c0 c1 hbb
  replace hw1 := hid hw1
  replace hlen := hid hlen
  have hX : Hid (∀ y, Below w1.heap.size w1 y → y.cell? ⟨w.heap.size, 1, none⟩ = some (.slice ad V cap)) := hid (fun y hy => (hy.cell (World.block_lt_of_cell? _ _ c1)).trans c1)
  have hC : Hid (∀ y, Below w1.heap.size w1 y → ∀ (j : Nat) z, zs[j]? = some z → ∃ b o, lad = some ⟨b, o, none⟩ ∧ y.cell? ⟨b, o + j, none⟩ = some (.int .i64 z)) := hid (fun y hy j z hz => by
    obtain ⟨b, o, e, c⟩ := hsl.cell j z hz
    have c' := (hbb.out.cell (World.block_lt_of_cell? _ _ c)).trans c
    exact ⟨b, o, e, (hy.cell (World.block_lt_of_cell? _ _ c')).trans c'⟩)
  clear hsl hln c0 c1
  go_enter Tryd.func10, Tryd.ntmps10
  go_upto_region 1 with fail
  rw [hw1.out]
  go_wp2_with fail
  go_loopw [5] (fun s5 wr => ∃ i : Nat, i ≤ n ∧ s5 = .int .i64 (i : Int) ∧ Hid (∀ x, x ∈ zs.take i → ¬ (x < 0 ∨ (V : Int) ≤ x)) ∧ Hid (Below w1.heap.size w1 wr)) (fun s5 _ => n - (intOf s5).toNat)
  case atStart => exact ⟨0, by omega, by go_num, hid (fun x hx => by simp at hx), Below.refl _ _⟩
  case round =>
    obtain ⟨i, hi, rfl, hall, hbw⟩ := hrel
    rcases Nat.lt_or_ge i n with hlt | hge
    · obtain ⟨z, hz⟩ : ∃ z, zs[i]? = some z := ⟨_, List.getElem?_eq_getElem (by rw [hlen.out]; exact hlt)⟩
      obtain ⟨b, o, rfl, cz⟩ := hC.out _ hbw.out i z hz
      have x1 := hX.out _ hbw.out
      have hzm := List.mem_of_getElem? hz
      have i1 : (0 : Int) ≤ (i : Int) := by omega
      have i2 : (i : Int) < (n : Int) := by omega
      have v1 : decide ((i : Int) < (n : Int)) = true := decide_eq_true (by omega)
      have hbn : Hid (∀ m, Below w1.heap.size w1 (wr.drewN m)) := hid (fun m => belowN hbw.out m)
      have htk : Hid (∀ x, x ∈ zs.take (i + 1) → x ∈ zs.take i ∨ x = z) := hid (fun x hx => by
        rw [List.take_add_one, hz] at hx
        rcases List.mem_append.1 hx with q | q
        · exact .inl q
        · simp at q; exact .inr q)
      by_cases h0 : z < 0
      · have t1 : decide (z < 0) = true := decide_eq_true h0
        have fin : Hid (Ck12 V R zs 12) := hid (.inl ⟨rfl, z, hzm, .inl h0⟩)
        have hbf : Hid (∀ m, Below w.heap.size w (wr.drewN m)) := hid (fun m => hbb.out.trans ((hbn.out m).mono hbb.out.size))
        clear hz hall
        go_upto_region 4 with fail
        go_quiet (fail)
        go_wp2_with fail
        go_ret
        exact ⟨12, rfl, fin.out, hbf.out _⟩
      · have t1 : decide (z < 0) = false := decide_eq_false h0
        by_cases hV2 : (V : Int) ≤ z
        · have t2 : decide (z ≥ (V : Int)) = true := decide_eq_true hV2
          have t2' : decide ((V : Int) ≤ z) = true := decide_eq_true hV2
          have fin : Hid (Ck12 V R zs 12) := hid (.inl ⟨rfl, z, hzm, .inr hV2⟩)
          have hbf : Hid (∀ m, Below w.heap.size w (wr.drewN m)) := hid (fun m => hbb.out.trans ((hbn.out m).mono hbb.out.size))
          clear hz hall
          go_upto_region 4 with fail
          go_quiet (fail)
          go_wp2_with fail
          go_ret
          exact ⟨12, rfl, fin.out, hbf.out _⟩
        · have t2 : decide (z ≥ (V : Int)) = false := decide_eq_false hV2
          have t2' : decide ((V : Int) ≤ z) = false := decide_eq_false hV2
          have hall2 : Hid (∀ x, x ∈ zs.take (i + 1) → ¬ (x < 0 ∨ (V : Int) ≤ x)) := hid (fun x hx => by
            rcases htk.out x hx with q | q
            · exact hall.out x q
            · subst q; intro q; omega)
          clear hz hall htk
          go_upto_region 4 with fail
          go_quiet (fail)
          go_wp2_with fail
          go_roundw
          case rel => exact ⟨i + 1, by omega, by go_num, hall2, hid (hbn.out _)⟩
          case measure => simp [intOf]; omega
    · obtain rfl : i = n := by omega
      have v1 : decide ((i : Int) < (i : Int)) = false := decide_eq_false (by omega)
      obtain ⟨l, hzl, hlV⟩ := int_list (V := V) (zs := zs) (by
        have h := hall.out
        rw [List.take_of_length_le (by rw [hlen.out]; exact Nat.le_refl _)] at h
        exact h)
      obtain ⟨wo, hwo⟩ : ∃ wo, wo = wr := ⟨wr, rfl⟩
      subst hwo
      have x1 := hX.out _ hbw.out
      have hsz := Nat.le_refl wo.heap.size
      have hll : Hid (l.length = i) := hid (by rw [← hlen.out, hzl]; simp)
      have hget : Hid (∀ (j : Nat) x, l[j]? = some x → zs[j]? = some (x : Int)) := hid (fun j x hx => by rw [hzl]; simp [hx])
      have hzl' := hid hzl
      replace hlV := hid hlV
      clear hall hzl
      go_wp2_with (at_make; refine wpList_make_full _ rfl (.tmp 32) (.tmp 32) 23 rfl wo.heap.size 3 i0 (.int .i64 0) 1 Tryd.underlying23 hif hz0 hz1 .i64 .i64 _ _ V rfl rfl rfl rfl (by rw [hz2]; omega) (by unfold maxLen; omega) hsz ?_; intro w3 hown hgrow)
      have hct3 : Hid (Ct wo.heap.size wo w3 (.slice (some ⟨wo.heap.size, 0, none⟩) V V) V (l.take 0)) := by
        rw [cts_made] at hown
        exact ⟨hown, (Below.refl wo.heap.size wo).grown hgrow hsz (by simp), Nat.le_refl _⟩
      clear hown hgrow
      go_wp2_with fail
      go_loopw [7] (fun s7 wr => ∃ j : Nat, j ≤ i ∧ s7 = .int .i64 (j : Int) ∧ Hid ((l.take j).Nodup) ∧ Hid (Ct wo.heap.size wo wr (.slice (some ⟨wo.heap.size, 0, none⟩) V V) V (l.take j))) (fun s7 _ => i - (intOf s7).toNat)
      case atStart => exact ⟨0, by omega, by go_num, hid (by simp), hct3⟩
      case round =>
        obtain ⟨j, hj, rfl, hnd, hct⟩ := hrel
        clear hct3
        have hb3 := hid (hbw.out.trans (hct.out.bel.mono hbw.out.size))
        rcases Nat.lt_or_ge j i with hjl | hjg
        · obtain ⟨x, hx⟩ : ∃ x, l[j]? = some x := ⟨_, List.getElem?_eq_getElem (by rw [hll.out]; exact hjl)⟩
          have hxV := hlV.out x (List.mem_of_getElem? hx)
          obtain ⟨b, o, rfl, cx⟩ := hC.out _ hb3.out j _ (hget.out j x hx)
          have j1 : (0 : Int) ≤ (j : Int) := by omega
          have j2 : (j : Int) < (i : Int) := by omega
          have j3 : (0 : Int) ≤ (x : Int) := by omega
          have j4 : (x : Int) < (V : Int) := by omega
          have v2 : decide ((j : Int) < (i : Int)) = true := decide_eq_true (by omega)
          obtain ⟨m, hm⟩ : ∃ m, cnt (l.take j) x = m := ⟨_, rfl⟩
          have hm1 : m ≤ 1 := by
            rw [← hm]
            exact List.nodup_iff_count.1 hnd.out x
          have hold : wr.cell? ⟨wo.heap.size, x, none⟩ = some (.int .i64 (m : Int)) := by
            rw [hct.out.row.cellAt x (by omega), cts_get hxV, hm]
          obtain ⟨s1, s2⟩ := hct.out.row.stored x (.int .i64 ((m : Int) + 1))
          have es := cts_set V (l.take j) x
          rw [hm, ← ntake hx, show ((m + 1 : Nat) : Int) = (m : Int) + 1 by omega] at es
          rw [es] at s1
          have hfz := hct.out.row.frozenAt x
          have hnew := hid (Ct.mk s1 (below_row hct.out.bel hct.out.low hct.out.row (Nat.le_refl _) s2) hct.out.low)
          have hcl : (wr.setCell ⟨wo.heap.size, x, none⟩ (.int .i64 ((m : Int) + 1))).cell? ⟨wo.heap.size, x, none⟩ = some (.int .i64 ((m : Int) + 1)) := by
            have := hnew.out.row.cellAt x (by omega)
            rw [cts_get hxV] at this
            have e : cnt (l.take (j + 1)) x = m + 1 := by rw [ntake hx]; unfold cnt at hm ⊢; rw [List.count_append, hm]; simp
            rw [e, show ((m + 1 : Nat) : Int) = (m : Int) + 1 by omega] at this
            exact this
          have hb4 := hbw.out.trans (hnew.out.bel.mono hbw.out.size)
          obtain ⟨b', o', e9, cx'⟩ := hC.out _ hb4 j _ (hget.out j x hx)
          simp only [Option.some.injEq, Addr.mk.injEq] at e9
          obtain ⟨rfl, rfl, _⟩ := e9
          clear es s1 s2
          by_cases hmm : m = 0
          · have t1 : decide ((m : Int) + 1 > 1) = false := decide_eq_false (by omega)
            have t1' : decide (1 < (m : Int) + 1) = false := decide_eq_false (by omega)
            have hnd2 : Hid ((l.take (j + 1)).Nodup) := by
              have hxn : x ∉ l.take j := List.count_eq_zero.1 (hm.trans hmm)
              rw [ntake hx]
              refine hid (List.nodup_append.2 ⟨hnd.out, by simp, fun a ha c hc e => ?_⟩)
              simp at hc
              subst hc
              subst e
              exact hxn ha
            clear hm hx hnd hct hb4
            obtain ⟨mi, hmi⟩ : ∃ mi : Int, (m : Int) = mi := ⟨_, rfl⟩
            rw [hmi] at hold hcl hnew cx' t1 t1'
            have hb1 : (-9223372036854775808 : Int) ≤ mi + 1 := by omega
            have hb2 : mi + 1 ≤ (9223372036854775807 : Int) := by omega
            clear hmi hmm
            go_wp2_with fail
            go_roundw
            case rel => exact ⟨j + 1, by omega, by go_num, hnd2, hnew⟩
            case measure => simp [intOf]; omega
          · have t1 : decide ((m : Int) + 1 > 1) = true := decide_eq_true (by omega)
            have t1' : decide (1 < (m : Int) + 1) = true := decide_eq_true (by omega)
            have fin : Hid (Ck12 V R zs 20) := by
              refine hid (.inr ⟨l, hzl'.out, hlV.out, .inl ⟨rfl, fun q => ?_⟩⟩)
              have h1 : (l.take (j + 1)).Nodup := List.Sublist.nodup (List.take_sublist _ _) q
              have h2 := List.nodup_iff_count.1 h1 x
              have e : (l.take (j + 1)).count x = m + 1 := by rw [ntake hx]; unfold cnt at hm; rw [List.count_append, hm]; simp
              omega
            have hbf : Hid (Below w.heap.size w (wr.setCell ⟨wo.heap.size, x, none⟩ (.int .i64 ((m : Int) + 1)))) := hid (hbb.out.trans (hb4.mono hbb.out.size))
            clear hm hx hnd hct hb4 hnew
            go_wp2_with fail
            go_ret
            exact ⟨20, rfl, fin.out, hbf.out⟩
        · obtain rfl : j = i := by omega
          have v2 : decide ((j : Int) < (j : Int)) = false := decide_eq_false (by omega)
          have hndl : Hid l.Nodup := by
            have h := hnd.out
            rw [List.take_of_length_le (by rw [hll.out]; exact Nat.le_refl _)] at h
            exact hid h
          have hctl : Hid (Ct wo.heap.size wo wr (.slice (some ⟨wo.heap.size, 0, none⟩) V V) V l) := by
            have h := hct.out
            rw [List.take_of_length_le (by rw [hll.out]; exact Nat.le_refl _)] at h
            exact hid h
          clear hnd hct
          go_wp2_with fail
          go_loopw [8] (fun s8 wy => ∃ v : Nat, v ≤ V ∧ s8 = .int .i64 (v : Int) ∧ Hid (∀ u, u < v → R u ≠ [] → u ∈ l) ∧ Hid (Ct wo.heap.size wo wy (.slice (some ⟨wo.heap.size, 0, none⟩) V V) V l)) (fun s8 _ => V - (intOf s8).toNat)
          case atStart => exact ⟨0, by omega, by go_num, hid (fun u hu => by omega), hctl⟩
          case round =>
            obtain ⟨v, hvV, rfl, hin, hct⟩ := hrel
            clear hctl
            have hb5 := hid (hbw.out.trans (hct.out.bel.mono hbw.out.size))
            have x5 := hX.out _ hb5.out
            rcases Nat.lt_or_ge v V with hvl | hvg
            · obtain ⟨ad', cap', e8, _, _, hro⟩ := hrh.out
              simp only [Value.slice.injEq] at e8
              obtain ⟨rfl, _, rfl⟩ := e8
              obtain ⟨bR, oR, xv, rfl, cR, hxv⟩ := hro v hvl
              obtain ⟨adv, nv, capv, rfl, hnv, _, hcv, _⟩ := hxv
              have hnl := hl v hvl
              rw [hnv] at hnl
              have a1 := (hbb.out.cell (World.block_lt_of_cell? _ _ cR)).trans cR
              have cR' := (hb5.out.cell (World.block_lt_of_cell? _ _ a1)).trans a1
              have hcell : wr.cell? ⟨wo.heap.size, v, none⟩ = some (.int .i64 (cnt l v : Int)) := by rw [hct.out.row.cellAt v (by omega), cts_get hvl]
              have k1 : (0 : Int) ≤ (v : Int) := by omega
              have k2 : (v : Int) < (V : Int) := by omega
              have v3 : decide ((v : Int) < (V : Int)) = true := decide_eq_true (by omega)
              obtain ⟨m, hm⟩ : ∃ m, cnt l v = m := ⟨_, rfl⟩
              rw [hm] at hcell
              clear hro cR a1
              by_cases hR0 : R v = []
              · have hn0 : nv = 0 := by rw [← hnv, hR0]; rfl
                subst hn0
                have hin2 : Hid (∀ u, u < v + 1 → R u ≠ [] → u ∈ l) := hid (fun u hu hne => by
                  by_cases e : u = v
                  · subst e; exact absurd hR0 hne
                  · exact hin.out u (by omega) hne)
                clear hm hin
                go_wp2_with fail
                go_roundw
                case rel => exact ⟨v + 1, by omega, by go_num, hin2, hct⟩
                case measure => simp [intOf]; omega
              · have hnp : 0 < nv := by rw [← hnv]; exact List.length_pos_iff.2 hR0
                have t1 : decide ((nv : Int) > 0) = true := decide_eq_true (by omega)
                have t1' : decide (0 < (nv : Int)) = true := decide_eq_true (by omega)
                have t1'' : decide (0 < nv) = true := decide_eq_true hnp
                by_cases hm0 : m = 0
                · have fin : Hid (Ck12 V R zs 13) := hid (.inr ⟨l, hzl'.out, hlV.out, .inr ⟨hndl.out, .inl ⟨rfl, v, hvl, hR0, List.count_eq_zero.1 (hm.trans hm0)⟩⟩⟩)
                  have hbf := hid (hbb.out.trans (hb5.out.mono hbb.out.size))
                  subst hm0
                  clear hm hin
                  go_wp2_with fail
                  go_ret
                  exact ⟨13, rfl, fin.out, hbf.out⟩
                · have t2 : ((m : Int) == 0) = false := by simp; omega
                  have t3 : ¬ ((m : Int) = 0) := by omega
                  have hin2 : Hid (∀ u, u < v + 1 → R u ≠ [] → u ∈ l) := hid (fun u hu hne => by
                    by_cases e : u = v
                    · subst e
                      refine Classical.not_not.1 (fun q => hm0 ?_)
                      rw [← hm]
                      exact List.count_eq_zero.2 q
                    · exact hin.out u (by omega) hne)
                  clear hm hin
                  go_wp2_with fail
                  go_roundw
                  case rel => exact ⟨v + 1, by omega, by go_num, hin2, hct⟩
                  case measure => simp [intOf]; omega
            · obtain rfl : v = V := by omega
              have v3 : decide ((v : Int) < (v : Int)) = false := decide_eq_false (by omega)
              have fin : Hid (Ck12 v R zs 0) := hid (.inr ⟨l, hzl'.out, hlV.out, .inr ⟨hndl.out, .inr ⟨rfl, hin.out⟩⟩⟩)
              have hbf := hid (hbb.out.trans (hb5.out.mono hbb.out.size))
              clear hin hct
              go_wp2_with fail
              go_ret
              exact ⟨0, rfl, fin.out, hbf.out⟩

end Go.Proofs.YtegljhbjjdfhiaaDoor
