/- The document's Count, walked. The document's Count, walked. -/
import Derived.Test.YtboafgimjadboaaGreatDoorBrg
import Derived.Deep.CutBlock
namespace Go.Proofs.YtboafgimjadboaaGreatDoor
open Go.RowKit
set_option linter.unusedVariables false

/-- A slice of numbers, to be read, whatever it is made of. -/
def RN (w : World) (v : Value) (l : List Nat) : Prop := ∃ ad n cap, v = .slice ad n cap ∧ l.length = n ∧ n ≤ 9223372036854775807 ∧ ∀ (j x : Nat), l[j]? = some x → ∃ b o, ad = some ⟨b, o, none⟩ ∧ w.cell? ⟨b, o + j, none⟩ = some (.int .i64 (x : Int))

theorem RN.below {w w' : World} {v : Value} {l : List Nat} (h : RN w v l) (hb : Below w.heap.size w w') : RN w' v l := by
  obtain ⟨ad, n, cap, h1, h2, h3, h4⟩ := h
  refine ⟨ad, n, cap, h1, h2, h3, fun j x hx => ?_⟩
  obtain ⟨b, o, e1, e2⟩ := h4 j x hx
  exact ⟨b, o, e1, (hb.cell (World.block_lt_of_cell? _ _ e2)).trans e2⟩

theorem NL.rn {w : World} {v : Value} {l : List Nat} (h : NL w v l) : RN w v l := by
  obtain ⟨ad, n, cap, h1, h2, h3, h4, h5⟩ := h
  unfold maxLen at h4
  exact ⟨ad, n, cap, h1, h2, by omega, h5⟩

/-- Four counts in a block of their own, made since w0. -/
structure Q4 (w0 : World) (C c0 c1 c2 c3 : Nat) (y : World) : Prop where
  bel : Below w0.heap.size w0 y
  low : w0.heap.size ≤ C
  blk : y.heap[C]? = some (.cells #[.int .i64 (c0 : Int), .int .i64 (c1 : Int), .int .i64 (c2 : Int), .int .i64 (c3 : Int)] 132 (0, 0))

section
variable {w0 y : World} {C c0 c1 c2 c3 : Nat}

theorem Q4.below {y' : World} (h : Q4 w0 C c0 c1 c2 c3 y) (hb : Below y.heap.size y y') : Q4 w0 C c0 c1 c2 c3 y' :=
  ⟨h.bel.trans (hb.mono h.bel.size), h.low, (hb.block _ (Array.getElem?_eq_some_iff.1 h.blk).1).trans h.blk⟩
theorem Q4.drew (h : Q4 w0 C c0 c1 c2 c3 y) : Q4 w0 C c0 c1 c2 c3 y.drew := h.below (Below.refl _ _).drew
theorem Q4.cells (h : Q4 w0 C c0 c1 c2 c3 y) : (y.cell? ⟨C, 0, none⟩ = some (.int .i64 (c0 : Int)) ∧ y.cell? ⟨C, 1, none⟩ = some (.int .i64 (c1 : Int)) ∧ y.cell? ⟨C, 2, none⟩ = some (.int .i64 (c2 : Int)) ∧ y.cell? ⟨C, 3, none⟩ = some (.int .i64 (c3 : Int))) ∧ y.frozen? ⟨C, 0, none⟩ = false ∧ y.frozen? ⟨C, 1, none⟩ = false ∧ y.frozen? ⟨C, 2, none⟩ = false ∧ y.frozen? ⟨C, 3, none⟩ = false := by
  have hb := h.blk
  unfold World.cell? World.frozen?
  rw [hb]
  simp
theorem Q4.set0 (h : Q4 w0 C c0 c1 c2 c3 y) : Q4 w0 C (c0 + 1) c1 c2 c3 (y.setCell ⟨C, 0, none⟩ (.int .i64 ((c0 : Int) + 1))) :=
  ⟨h.bel.setCell (p := ⟨C, 0, none⟩) h.low _, h.low, by rw [heap_setCell_same y C 0 _ _ _ h.blk]; rfl⟩
theorem Q4.set1 (h : Q4 w0 C c0 c1 c2 c3 y) : Q4 w0 C c0 (c1 + 1) c2 c3 (y.setCell ⟨C, 1, none⟩ (.int .i64 ((c1 : Int) + 1))) :=
  ⟨h.bel.setCell (p := ⟨C, 1, none⟩) h.low _, h.low, by rw [heap_setCell_same y C 1 _ _ _ h.blk]; rfl⟩
theorem Q4.set2 (h : Q4 w0 C c0 c1 c2 c3 y) : Q4 w0 C c0 c1 (c2 + 1) c3 (y.setCell ⟨C, 2, none⟩ (.int .i64 ((c2 : Int) + 1))) :=
  ⟨h.bel.setCell (p := ⟨C, 2, none⟩) h.low _, h.low, by rw [heap_setCell_same y C 2 _ _ _ h.blk]; rfl⟩
theorem Q4.set3 (h : Q4 w0 C c0 c1 c2 c3 y) : Q4 w0 C c0 c1 c2 (c3 + 1) (y.setCell ⟨C, 3, none⟩ (.int .i64 ((c3 : Int) + 1))) :=
  ⟨h.bel.setCell (p := ⟨C, 3, none⟩) h.low _, h.low, by rw [heap_setCell_same y C 3 _ _ _ h.blk]; rfl⟩
end

/-- How many first darts of edges. -/
def ev (m : List Nat) : Nat := m.countP (fun d => d % 2 == 0)
theorem ev_yes {m : List Nat} {k d : Nat} (h : m[k]? = some d) (he : d % 2 = 0) : ev (m.take (k + 1)) = ev (m.take k) + 1 := by
  rw [List.take_add_one, h]
  unfold ev
  rw [List.countP_append]
  simp [he]
theorem ev_no {m : List Nat} {k d : Nat} (h : m[k]? = some d) (he : d % 2 ≠ 0) : ev (m.take (k + 1)) = ev (m.take k) := by
  rw [List.take_add_one, h]
  unfold ev
  rw [List.countP_append]
  simp [he]

/-- First darts at those vertices. -/
def evl (P : Nat → Bool) (R : Nat → List Nat) : List Nat → Nat
  | [] => 0
  | v :: l => (if P v then ev (R v) else 0) + evl P R l
theorem evl_snoc (P : Nat → Bool) (R : Nat → List Nat) (v : Nat) : ∀ l, evl P R (l ++ [v]) = evl P R l + (if P v then ev (R v) else 0)
  | [] => by simp [evl]
  | x :: l => by simp only [List.cons_append, evl]; rw [evl_snoc P R v l]; omega
theorem cp_snoc (p : Nat → Bool) (l : List Nat) (v : Nat) : (l ++ [v]).countP p = l.countP p + (if p v then 1 else 0) := by
  rw [List.countP_append, List.countP_singleton]

/-- The counts of a list's first vertices. -/
def k0 (P : Nat → Bool) (l : List Nat) : Nat := l.countP P
def k2 (P : Nat → Bool) (R : Nat → List Nat) (l : List Nat) : Nat := l.countP (fun v => P v && (R v).isEmpty)
def k3 (P : Nat → Bool) (f : Nat → Nat) (l : List Nat) : Nat := l.countP (fun v => P v && (f v == v))


theorem grown_set1 (w : World) (C k : Nat) (v : Value) : w.grownBy (w.setCell ⟨C, k, none⟩ v) (some C) :=
  ⟨rfl, rfl, rfl, by simp [World.setCell], fun j _ hj => Below.heap_setCell _ _ _ _ (fun e => hj (by rw [e]))⟩

/-- What is read of rows of rows. -/
theorem Rg.rd {b n cap i : Nat} {ad : Option Addr} {w : World} {ms : List (List Nat)} {c : List Nat} (h : Rg b w (.slice ad n cap) ms) (hi : ms[i]? = some c) : ∃ g o ad2 cap2, ad = some ⟨g, o, none⟩ ∧ w.cell? ⟨g, o + i, none⟩ = some (.slice ad2 c.length cap2) ∧ ∀ j x : Nat, c[j]? = some x → ∃ g2 o2, ad2 = some ⟨g2, o2, none⟩ ∧ w.cell? ⟨g2, o2 + j, none⟩ = some (.int .i64 (x : Int)) := by
  obtain ⟨ad', cap', e, _, _, hr⟩ := h.rl
  simp only [Value.slice.injEq] at e
  obtain ⟨rfl, rfl, rfl⟩ := e
  obtain ⟨g, o, x, e1, e2, e3⟩ := hr i (List.getElem?_eq_some_iff.1 hi).1
  change NL w x ((ms[i]?).getD []) at e3
  rw [hi] at e3
  obtain ⟨ad2, n2, cap2, rfl, hl, _, _, hc⟩ := e3
  change c.length = n2 at hl
  subst hl
  exact ⟨g, o, ad2, cap2, e1, e2, hc⟩

theorem set4_block {w : World} {g : Nat} {t : TypeId} {u v x y : Value} (h : w.heap[g]? = some (.cells #[u, v, x, y] t (0, 0))) (a b c d : Value) : ((((w.setCell ⟨g, 0, none⟩ a).setCell ⟨g, 1, none⟩ b).setCell ⟨g, 2, none⟩ c).setCell ⟨g, 3, none⟩ d).heap[g]? = some (.cells #[a, b, c, d] t (0, 0)) := by
  unfold World.setCell
  rw [Array.getElem?_modify, if_pos rfl, Array.getElem?_modify, if_pos rfl, Array.getElem?_modify, if_pos rfl, Array.getElem?_modify, if_pos rfl, h]
  simp
theorem below4 {B : Nat} {a w : World} {g : Nat} (h : Below B a w) (hg : B ≤ g) (x y z u : Value) : Below B a ((((w.setCell ⟨g, 0, none⟩ x).setCell ⟨g, 1, none⟩ y).setCell ⟨g, 2, none⟩ z).setCell ⟨g, 3, none⟩ u) :=
  (((h.setCell (p := ⟨g, 0, none⟩) hg x).setCell (p := ⟨g, 1, none⟩) hg y).setCell (p := ⟨g, 2, none⟩) hg z).setCell (p := ⟨g, 3, none⟩) hg u
theorem blk4 {w : World} {g : Nat} {t : TypeId} {a b c d : Value} (h : w.heap[g]? = some (.cells #[a, b, c, d] t (0, 0))) : (w.cell? ⟨g, 0, none⟩ = some a ∧ w.cell? ⟨g, 1, none⟩ = some b ∧ w.cell? ⟨g, 2, none⟩ = some c ∧ w.cell? ⟨g, 3, none⟩ = some d) ∧ w.frozen? ⟨g, 0, none⟩ = false ∧ w.frozen? ⟨g, 1, none⟩ = false ∧ w.frozen? ⟨g, 2, none⟩ = false ∧ w.frozen? ⟨g, 3, none⟩ = false := by
  unfold World.cell? World.frozen?
  rw [h]
  simp

end Go.Proofs.YtboafgimjadboaaGreatDoor

namespace Go.Proofs.YtboafgimjadboaaGreatDoor
open Go.RowKit
set_option linter.unusedVariables false

set_option maxRecDepth 100000 in
set_option maxHeartbeats 8000000 in
theorem rcount_ok (tv vv : Value) (E V : Nat) (R : Nat → List Nat) (l : List Nat) (of : Int) (P : Nat → Bool) (w : World) (hv : RT w tv E V R) (ht : Tn V E R) (hw : Tw V E R) (hL : RN w vv l) (hlV : ∀ x, x ∈ l → x < V) (hln : l.length ≤ 1000) (hP : ∀ v, v < V → (P v = true ↔ (of < 0 ∨ (lb V E R v : Int) = of))) (hE : E ≤ 400) (hV1 : 1 ≤ V) (hV : V ≤ 1000) (hl : ∀ u, u < V → (R u).length ≤ 1000) :
    Calls Tryz.prog 65 #[tv, vv, .int .i64 of] w fun e w' => e = .returned (.agg #[.int .i64 (k0 P l : Int), .int .i64 (evl P R l : Int), .int .i64 ((k2 P R l + (fcs V R (2 * E)).countP (fun c => P (og V R (c.headD 0))) : Nat) : Int), .int .i64 (k3 P (lb V E R) l : Int)]) ∧ Below w.heap.size w w' := by
  have hl' : ∀ u, u < V → (R u).length ≤ 1000 := fun u hu => by have := hl u hu; omega
  have hgr := hid (fun y (hy : Below w.heap.size w y) => rgroups_ok tv E V R y (hv.below hy) ht hw (by omega) hV1 hV hl')
  have hral := hid (fun y (hy : Below w.heap.size w y) => rall_ok tv E V R y (hv.below hy) ht hw (by omega) hV hl')
  have hfi := hid (fun (d : Int) y (hy : Below w.heap.size w y) => rfind_ok tv E V R d y (hv.below hy) hV hl')
  have hface : Hid (∀ (i : Nat) c, (fcs V R (2 * E))[i]? = some c → ∃ z, c[0]? = some z ∧ c.headD 0 = z ∧ In V R z) := hid (fun i c hc => by
    have pm := fx_pm ht hw
    obtain ⟨z, _, hi, _, rfl⟩ := mem_fcs.1 (List.mem_of_getElem? hc)
    have hp := pm.per_is (hi.low ht)
    have e : (Pq.orb (fx V R) z)[0]? = some z := by
      unfold Pq.orb
      rw [Pq.fl_get hp.1.pos]
      rfl
    refine ⟨z, e, ?_, hi⟩
    cases hc : Pq.orb (fx V R) z with
    | nil => rw [hc] at e; cases e
    | cons x m => rw [hc] at e; cases e; rfl)
  have hog : Hid (∀ d, In V R d → ∀ r s, At V R (d : Int) r s → r = (og V R d : Int)) := hid (fun d hd r s ha => At.og ht hd ha)
  have hogl : Hid (∀ d, In V R d → og V R d < V) := hid (fun d hd => (og_is hd).1)
  have hLh := hid hL
  obtain ⟨lad, n, lcap, rfl, hlen, hnb, hlc⟩ := hL
  obtain ⟨lv, rfl, hr⟩ := hv
  have hrh := hid hr
  obtain ⟨ad, cap, rfl, hcap, ⟨hcap2, _⟩, _⟩ := hr
  unfold maxLen at hcap2
  have hbz : Below w.heap.size w ((w.alloc (.cells #[.int .i64 (E : Int), .slice ad V cap] 76)).alloc (.cells #[.int .i64 0, .int .i64 0, .int .i64 0, .int .i64 0] 132)) := (balloc w _).alloc (by simp) _
  have h1 : ((w.alloc (.cells #[.int .i64 (E : Int), .slice ad V cap] 76)).alloc (.cells #[.int .i64 0, .int .i64 0, .int .i64 0, .int .i64 0] 132)).heap[w.heap.size]? = some (.cells #[.int .i64 (E : Int), .slice ad V cap] 76 (0, 0)) := (Below.heap_alloc _ _ _ (by simp)).trans (heap_alloc_new w _)
  have h2 : ((w.alloc (.cells #[.int .i64 (E : Int), .slice ad V cap] 76)).alloc (.cells #[.int .i64 0, .int .i64 0, .int .i64 0, .int .i64 0] 132)).heap[w.heap.size + 1]? = some (.cells #[.int .i64 0, .int .i64 0, .int .i64 0, .int .i64 0] 132 (0, 0)) := by
    have := heap_alloc_new (w.alloc (.cells #[.int .i64 (E : Int), .slice ad V cap] 76)) (.cells #[.int .i64 0, .int .i64 0, .int .i64 0, .int .i64 0] 132)
    rw [World.size_alloc] at this
    exact this
  obtain ⟨w1, hw1⟩ : ∃ w1, (w.alloc (.cells #[.int .i64 (E : Int), .slice ad V cap] 76)).alloc (.cells #[.int .i64 0, .int .i64 0, .int .i64 0, .int .i64 0] 132) = w1 := ⟨_, rfl⟩
  rw [hw1] at hbz h1 h2
  obtain ⟨c0, c1, _, _⟩ := blk2 h1
  replace hw1 := hid hw1
  replace hbz := hid hbz
  replace h1 := hid h1
  replace h2 := hid h2
  replace hlen := hid hlen
  have hn : n ≤ 1000 := by rw [← hlen.out]; exact hln
  replace hP := hid hP
  replace hlV := hid hlV
  replace hl := hid hl
  clear ht hw hl' hlc hln
  go_enter Tryz.func65, Tryz.ntmps65
  go_upto_region 1 with fail
  rw [hw1.out]
  go_wp2_with fail
  refine (hgr.out w1 hbz.out).mono ?_
  rintro x w2 ⟨gv, rfl, hgl, b2⟩
  have hb2 := hid (hbz.out.trans (b2.mono hbz.out.size))
  have k1 := hid ((b2.block _ (Array.getElem?_eq_some_iff.1 h1.out).1).trans h1.out)
  have k2' := hid ((b2.block _ (Array.getElem?_eq_some_iff.1 h2.out).1).trans h2.out)
  obtain ⟨g, gcap, rfl, hg1, hg2, _, _, _, hgc⟩ := hgl
  unfold maxLen at hg2
  replace hgc := hid hgc
  have hq0 : Hid (Q4 w2 w2.heap.size 0 0 0 0 (w2.alloc (.cells #[.int .i64 0, .int .i64 0, .int .i64 0, .int .i64 0] 132))) := hid ⟨balloc _ _, Nat.le_refl _, heap_alloc_new _ _⟩
  obtain ⟨C, hC⟩ : ∃ C, w2.heap.size = C := ⟨_, rfl⟩
  clear b2 h1 h2 c0 c1 hgr hw1
  go_upto_region 3 with fail
  rw [hC] at hq0
  try rw [hC]
  obtain ⟨w3, hw3⟩ : ∃ w3, w2.alloc (.cells #[.int .i64 0, .int .i64 0, .int .i64 0, .int .i64 0] 132) = w3 := ⟨_, rfl⟩
  rw [hw3] at hq0 ⊢
  replace hC := hid hC
  clear hw3
  have hz0 : Hid (0 = k0 P (l.take 0) ∧ 0 = evl P R (l.take 0) ∧ 0 = k2 P R (l.take 0) ∧ 0 = k3 P (lb V E R) (l.take 0)) := hid ⟨rfl, rfl, rfl, rfl⟩
  go_wp2_with fail
  go_loopw [9, 10] (fun s9 _ wr => ∃ i c0 c1 c2 c3 : Nat, (i ≤ n ∧ c0 ≤ i ∧ c1 ≤ 1000 * i ∧ c2 ≤ i ∧ c3 ≤ i) ∧ s9 = .int .i64 (i : Int) ∧ Hid (c0 = k0 P (l.take i) ∧ c1 = evl P R (l.take i) ∧ c2 = k2 P R (l.take i) ∧ c3 = k3 P (lb V E R) (l.take i)) ∧ Hid (Q4 w2 C c0 c1 c2 c3 wr)) (fun s9 _ _ => n - (intOf s9).toNat)
  case atStart => exact ⟨0, 0, 0, 0, 0, ⟨by omega, by omega, by omega, by omega, by omega⟩, by go_num, hz0, hq0⟩
  case round =>
    obtain ⟨i, c0, c1, c2, c3, ⟨hi, hc0, hc1, hc2, hc3⟩, rfl, hk, hq⟩ := hrel
    clear hq0 hz0
    rcases Nat.lt_or_ge i n with hlt | hge
    · obtain ⟨v, hv⟩ : ∃ v, l[i]? = some v := ⟨_, List.getElem?_eq_getElem (by rw [hlen.out]; exact hlt)⟩
      have hvV := hlV.out v (List.mem_of_getElem? hv)
      have hRl := hl.out v hvV
      have hPv := hid (hP.out v hvV)
      have htk : Hid (l.take (i + 1) = l.take i ++ [v]) := hid (ntake hv)
      obtain ⟨lad', n', lcap', e9, _, _, hlc⟩ := hLh.out
      simp only [Value.slice.injEq] at e9
      obtain ⟨rfl, rfl, rfl⟩ := e9
      obtain ⟨bl, ol, rfl, cl⟩ := hlc i v hv
      obtain ⟨ad', cap', e8, _, _, hro⟩ := hrh.out
      simp only [Value.slice.injEq] at e8
      obtain ⟨rfl, _, rfl⟩ := e8
      obtain ⟨bR, oR, xv, rfl, cR, hxv⟩ := hro v hvV
      obtain ⟨adv, nv, capv, rfl, hnv, _, hcv, hdc⟩ := hxv
      unfold maxLen at hcv
      have hF : Hid (∀ y, Below w2.heap.size w2 y → y.cell? ⟨w.heap.size, 1, none⟩ = some (.slice (some ⟨bR, oR, none⟩) V cap) ∧ y.cell? ⟨bl, ol + i, none⟩ = some (.int .i64 (v : Int)) ∧ y.cell? ⟨g, v, none⟩ = some (.int .i64 (lb V E R v : Int)) ∧ y.cell? ⟨bR, oR + v, none⟩ = some (.slice adv nv capv)) := hid (fun y hy => by
        obtain ⟨z0, z1, _, _⟩ := blk2 k1.out
        have a1 := (hb2.out.cell (World.block_lt_of_cell? _ _ cl)).trans cl
        have a2 := (hb2.out.cell (World.block_lt_of_cell? _ _ cR)).trans cR
        have a3 := hgc.out v hvV
        exact ⟨(hy.cell (World.block_lt_of_cell? _ _ z1)).trans z1, (hy.cell (World.block_lt_of_cell? _ _ a1)).trans a1, (hy.cell (World.block_lt_of_cell? _ _ a3)).trans a3, (hy.cell (World.block_lt_of_cell? _ _ a2)).trans a2⟩)
      have hD : Hid (∀ y, Below w2.heap.size w2 y → ∀ (j x : Nat), (R v)[j]? = some x → ∃ bd od, adv = some ⟨bd, od, none⟩ ∧ y.cell? ⟨bd, od + j, none⟩ = some (.int .i64 (x : Int))) := hid (fun y hy j x hx => by
        obtain ⟨bd, od, e, cd⟩ := hdc j x hx
        have a1 := (hb2.out.cell (World.block_lt_of_cell? _ _ cd)).trans cd
        exact ⟨bd, od, e, (hy.cell (World.block_lt_of_cell? _ _ a1)).trans a1⟩)
      have i1 : (0 : Int) ≤ (i : Int) := by omega
      have i2 : (i : Int) < (n : Int) := by omega
      have i3 : (0 : Int) ≤ (v : Int) := by omega
      have i4 : (v : Int) < (V : Int) := by omega
      have v1 : decide ((i : Int) < (n : Int)) = true := decide_eq_true (by omega)
      have hnv2 : nv ≤ 1000 := by rw [← hnv]; exact hRl
      obtain ⟨z, hz⟩ : ∃ z, lb V E R v = z := ⟨_, rfl⟩
      rw [hz] at hF hPv
      have hzh := hid hz
      replace hnv := hid hnv
      clear hlc hro hdc cl cR hv hz hRl
      obtain ⟨x1, x2, x3, x4⟩ := hF.out _ hq.out.bel
      by_cases hp : P v = true
      · have hway : (decide (of ≥ 0) = false ∧ decide (0 ≤ of) = false) ∨ ((decide (of ≥ 0) = true ∧ decide (0 ≤ of) = true) ∧ (z : Int) = of) := by
          by_cases ho : of < 0
          · exact .inl ⟨decide_eq_false (by omega), decide_eq_false (by omega)⟩
          · rcases hPv.out.1 hp with q | q
            · exact absurd q ho
            · exact .inr ⟨⟨decide_eq_true (by omega), decide_eq_true (by omega)⟩, q⟩
        have n0 : Hid (c0 + 1 = k0 P (l.take (i + 1))) := by rw [htk.out, hk.out.1]; unfold k0; rw [cp_snoc, if_pos hp]; exact hid rfl
        have n1 : Hid (evl P R (l.take (i + 1)) = c1 + ev (R v)) := by rw [htk.out, hk.out.2.1, evl_snoc, if_pos hp]; exact hid rfl
        have n2 : Hid (k2 P R (l.take (i + 1)) = c2 + (if R v = [] then 1 else 0)) := by
          have q : (if (P v && (R v).isEmpty) = true then 1 else 0) = (if R v = [] then 1 else 0) := by rw [hp]; cases R v <;> simp
          rw [htk.out, hk.out.2.2.1]
          unfold k2
          rw [cp_snoc, q]
          exact hid rfl
        have n3 : Hid (k3 P (lb V E R) (l.take (i + 1)) = c3 + (if z = v then 1 else 0)) := by
          have q : (if (P v && (lb V E R v == v)) = true then 1 else 0) = (if z = v then 1 else 0) := by rw [hp, hzh.out]; simp
          rw [htk.out, hk.out.2.2.2]
          unfold k3
          rw [cp_snoc, q]
          exact hid rfl
        go_upto_region 6 with fail
        go_cut [35] from 23 to 35 (fun s35 wy => s35 = .bool false ∧ Hid (wy = wr))
        case first =>
          rcases hway with ⟨t1, t1'⟩ | ⟨⟨t1, t1'⟩, hzo⟩
          · go_wp2_with fail
            go_meet
            case rel => exact ⟨rfl, by first | exact trivial | exact rfl⟩
          · have t2 : ((z : Int) != of) = false := by simp [hzo]
            subst hzo
            go_wp2_with fail
            go_meet
            case rel => exact ⟨rfl, by first | exact trivial | exact rfl⟩
        case rest =>
          obtain ⟨rfl, hwc⟩ := hcut
          have hwc' := hwc.out
          subst hwc'
          clear hwc hway
          have hq1 := hid hq.out.set0
          obtain ⟨⟨y0, y1, y2, y3⟩, f0, f1, f2, f3⟩ := hq.out.cells
          go_upto_region 8 with fail
          obtain ⟨wA, hwA⟩ : ∃ wA, wc.setCell ⟨C, 0, none⟩ (.int .i64 ((c0 : Int) + 1)) = wA := ⟨_, rfl⟩
          rw [hwA] at hq1 ⊢
          clear hwA y0 y1 y2 y3 f0 f1 f2 f3 x1 x2 x3 x4 hq
          obtain ⟨x1, x2, x3, x4⟩ := hF.out _ hq1.out.bel
          go_region_held3 (fun y => y.cell? ⟨bl, ol + i, none⟩ = some (.int .i64 (v : Int)) ∧ y.cell? ⟨g, v, none⟩ = some (.int .i64 (z : Int))) (first | exact ⟨x2, x3⟩ | go_keep) (fail)
          have hq2 := hid hq1.out.drew
          obtain ⟨wB, hwB⟩ : ∃ wB, wA.drew = wB := ⟨_, rfl⟩
          rw [hwB] at hq2 ⊢
          clear hwB hq1 x1 x2 x3 x4
          obtain ⟨⟨y0, y1, y2, y3⟩, f0, f1, f2, f3⟩ := hq2.out.cells
          by_cases hzv : z = v
          · by_cases hRv : R v = []
            · have hnv0 : nv = 0 := by rw [← hnv.out, hRv]; rfl
              subst hnv0
              have q9 : ((z : Int) == (v : Int)) = true := by simp [hzv]
              have hq3 := hid hq2.out.set3
              go_upto_region 10 with fail
              obtain ⟨wC, hwC⟩ : ∃ wC, wB.setCell ⟨C, 3, none⟩ (.int .i64 ((c3 : Int) + 1)) = wC := ⟨_, rfl⟩
              rw [hwC] at hq3 ⊢
              clear hwC y0 y1 y2 y3 f0 f1 f2 f3 hq2
              obtain ⟨x1, x2, x3, x4⟩ := hF.out _ hq3.out.bel
              go_region_held3 (fun y => y.cell? ⟨w.heap.size, 1, none⟩ = some (.slice (some ⟨bR, oR, none⟩) V cap) ∧ y.cell? ⟨bl, ol + i, none⟩ = some (.int .i64 (v : Int)) ∧ y.cell? ⟨bR, oR + v, none⟩ = some (.slice adv 0 capv)) (first | exact ⟨x1, x2, x4⟩ | go_keep) (fail)
              have hq4 := hid hq3.out.drew
              obtain ⟨wD, hwD⟩ : ∃ wD, wC.drew = wD := ⟨_, rfl⟩
              rw [hwD] at hq4 ⊢
              clear hwD hq3 x1 x2 x3 x4
              obtain ⟨⟨y0, y1, y2, y3⟩, f0, f1, f2, f3⟩ := hq4.out.cells
              skip
              have hq5 := hid hq4.out.set2
              have n2' : (c2 + 1) = k2 P R (l.take (i + 1)) := by have q := n2.out; rw [if_pos hRv] at q; omega
              have n3' : (c3 + 1) = k3 P (lb V E R) (l.take (i + 1)) := by have q := n3.out; rw [if_pos hzv] at q; omega
              replace n2' := hid n2'
              replace n3' := hid n3'
              go_upto_region 12 with fail
              obtain ⟨wG, hwG⟩ : ∃ wG, wD.setCell ⟨C, 2, none⟩ (.int .i64 ((c2 : Int) + 1)) = wG := ⟨_, rfl⟩
              rw [hwG] at hq5 ⊢
              clear hwG y0 y1 y2 y3 f0 f1 f2 f3 hq4
              go_wp2_with fail
              go_loopw [10] (fun s10 wy => s10 = .int .i64 0 ∧ Hid (Q4 w2 C (c0 + 1) c1 (c2 + 1) (c3 + 1) wy)) (fun _ _ => 0)
              case atStart => exact ⟨by go_num, hq5⟩
              case round =>
                obtain ⟨rfl, hq6⟩ := hrel
                clear hq5
                obtain ⟨x1, x2, x3, x4⟩ := hF.out _ hq6.out.bel
                go_upto_region 13 with fail
                go_region_held3 (fun y => y.cell? ⟨w.heap.size, 1, none⟩ = some (.slice (some ⟨bR, oR, none⟩) V cap) ∧ y.cell? ⟨bl, ol + i, none⟩ = some (.int .i64 (v : Int)) ∧ y.cell? ⟨bR, oR + v, none⟩ = some (.slice adv 0 capv)) (first | exact ⟨x1, x2, x4⟩ | go_keep) (fail)
                have hq7 := hid hq6.out.drew
                obtain ⟨wE, hwE⟩ : ∃ wE, wr.drew = wE := ⟨_, rfl⟩
                rw [hwE] at hq7 ⊢
                clear hwE hq6 x1 x2 x3 x4
                have hn1 : Hid (c1 = evl P R (l.take (i + 1))) := by
                  rw [n1.out, hRv]
                  exact hid rfl
                go_wp2_with fail
                go_roundw
                case rel => exact ⟨i + 1, c0 + 1, c1, (c2 + 1), (c3 + 1), ⟨by omega, by omega, by omega, by omega, by omega⟩, by go_num, hid ⟨n0.out, hn1.out, n2'.out, n3'.out⟩, hq7⟩
                case measure => simp [intOf]; omega
            · have hnv0 : 0 < nv := by rw [← hnv.out]; exact List.length_pos_iff.2 hRv
              have q9 : ((z : Int) == (v : Int)) = true := by simp [hzv]
              have hq3 := hid hq2.out.set3
              go_upto_region 10 with fail
              obtain ⟨wC, hwC⟩ : ∃ wC, wB.setCell ⟨C, 3, none⟩ (.int .i64 ((c3 : Int) + 1)) = wC := ⟨_, rfl⟩
              rw [hwC] at hq3 ⊢
              clear hwC y0 y1 y2 y3 f0 f1 f2 f3 hq2
              obtain ⟨x1, x2, x3, x4⟩ := hF.out _ hq3.out.bel
              go_region_held3 (fun y => y.cell? ⟨w.heap.size, 1, none⟩ = some (.slice (some ⟨bR, oR, none⟩) V cap) ∧ y.cell? ⟨bl, ol + i, none⟩ = some (.int .i64 (v : Int)) ∧ y.cell? ⟨bR, oR + v, none⟩ = some (.slice adv nv capv)) (first | exact ⟨x1, x2, x4⟩ | go_keep) (fail)
              have hq4 := hid hq3.out.drew
              obtain ⟨wD, hwD⟩ : ∃ wD, wC.drew = wD := ⟨_, rfl⟩
              rw [hwD] at hq4 ⊢
              clear hwD hq3 x1 x2 x3 x4
              obtain ⟨⟨y0, y1, y2, y3⟩, f0, f1, f2, f3⟩ := hq4.out.cells
              have q11 : ((nv : Int) == 0) = false := by simp; omega
              have q11' : ¬ ((nv : Int) = 0) := by omega
              have q11'' : ¬ (nv = 0) := by omega
              have hq5 := hid hq4.out
              have n2' : c2 = k2 P R (l.take (i + 1)) := by have q := n2.out; rw [if_neg hRv] at q; omega
              have n3' : (c3 + 1) = k3 P (lb V E R) (l.take (i + 1)) := by have q := n3.out; rw [if_pos hzv] at q; omega
              replace n2' := hid n2'
              replace n3' := hid n3'
              go_upto_region 12 with fail
              obtain ⟨wG, hwG⟩ : ∃ wG, wD = wG := ⟨_, rfl⟩
              rw [hwG] at hq5 ⊢
              clear hwG y0 y1 y2 y3 f0 f1 f2 f3 hq4
              go_wp2_with fail
              go_loopw [10] (fun s10 wy => ∃ k d1 : Nat, (k ≤ nv ∧ d1 ≤ c1 + k) ∧ s10 = .int .i64 (k : Int) ∧ Hid (d1 = c1 + ev ((R v).take k)) ∧ Hid (Q4 w2 C (c0 + 1) d1 c2 (c3 + 1) wy)) (fun s10 _ => nv - (intOf s10).toNat)
              case atStart => exact ⟨0, c1, ⟨by omega, by omega⟩, by go_num, hid (by simp [ev]), hq5⟩
              case round =>
                obtain ⟨k, d1, ⟨hk1, hd1⟩, rfl, hd, hq6⟩ := hrel
                clear hq5
                obtain ⟨x1, x2, x3, x4⟩ := hF.out _ hq6.out.bel
                go_upto_region 13 with fail
                go_region_held3 (fun y => y.cell? ⟨w.heap.size, 1, none⟩ = some (.slice (some ⟨bR, oR, none⟩) V cap) ∧ y.cell? ⟨bl, ol + i, none⟩ = some (.int .i64 (v : Int)) ∧ y.cell? ⟨bR, oR + v, none⟩ = some (.slice adv nv capv)) (first | exact ⟨x1, x2, x4⟩ | go_keep) (fail)
                have hq7 := hid hq6.out.drew
                obtain ⟨wE, hwE⟩ : ∃ wE, wr.drew = wE := ⟨_, rfl⟩
                rw [hwE] at hq7 ⊢
                clear hwE hq6 x1 x2 x3 x4
                rcases Nat.lt_or_ge k nv with hkl | hkg
                · obtain ⟨d, hdx⟩ : ∃ d, (R v)[k]? = some d := ⟨_, List.getElem?_eq_getElem (by rw [hnv.out]; exact hkl)⟩
                  obtain ⟨bd, od, rfl, cd⟩ := hD.out _ hq7.out.bel k d hdx
                  obtain ⟨x1, x2, x3, x4⟩ := hF.out _ hq7.out.bel
                  have v3 : decide ((k : Int) < (nv : Int)) = true := decide_eq_true (by omega)
                  have j1 : (0 : Int) ≤ (k : Int) := by omega
                  have j2 : (k : Int) < (nv : Int) := by omega
                  go_upto_region 15 with fail
                  go_region_held3 (fun y => y.cell? ⟨w.heap.size, 1, none⟩ = some (.slice (some ⟨bR, oR, none⟩) V cap) ∧ y.cell? ⟨bl, ol + i, none⟩ = some (.int .i64 (v : Int)) ∧ y.cell? ⟨bR, oR + v, none⟩ = some (.slice (some ⟨bd, od, none⟩) nv capv) ∧ y.cell? ⟨bd, od + k, none⟩ = some (.int .i64 (d : Int))) (first | exact ⟨x1, x2, x4, cd⟩ | go_keep) (fail)
                  have hq8 := hid hq7.out.drew
                  obtain ⟨wF, hwF⟩ : ∃ wF, wE.drew = wF := ⟨_, rfl⟩
                  rw [hwF] at hq8 ⊢
                  clear hwF hq7 x1 x2 x3 x4 cd
                  obtain ⟨⟨y0, y1, y2, y3⟩, f0, f1, f2, f3⟩ := hq8.out.cells
                  by_cases hev : d % 2 = 0
                  · have hm : Int.tmod (d : Int) 2 = 0 := by rw [Int.tmod_eq_emod_of_nonneg (by omega)]; omega
                    have t8 : ((d : Int) % 2 == 0) = true := by simp; omega
                    have t8' : (Int.tmod (d : Int) 2 == 0) = true := by rw [hm]; rfl
                    have hn : Hid (d1 + 1 = c1 + ev ((R v).take (k + 1))) := by rw [ev_yes hdx hev, hd.out]; exact hid (by omega)
                    have hq9 := hid hq8.out.set1
                    clear hdx hd
                    go_wp2_with fail
                    go_roundw
                    case rel => exact ⟨k + 1, d1 + 1, ⟨by omega, by omega⟩, by go_num, hn, hq9⟩
                    case measure => simp [intOf]; omega
                  · have hm : Int.tmod (d : Int) 2 = 1 := by rw [Int.tmod_eq_emod_of_nonneg (by omega)]; omega
                    have t8 : ((d : Int) % 2 == 0) = false := by simp; omega
                    have t9 : ¬ ((d : Int) % 2 = 0) := by omega
                    have t8' : (Int.tmod (d : Int) 2 == 0) = false := by rw [hm]; rfl
                    have hn : Hid (d1 = c1 + ev ((R v).take (k + 1))) := by rw [ev_no hdx hev]; exact hd
                    clear hdx hd
                    go_wp2_with fail
                    go_roundw
                    case rel => exact ⟨k + 1, d1, ⟨by omega, by omega⟩, by go_num, hn, hq8⟩
                    case measure => simp [intOf]; omega
                · obtain rfl : k = nv := by omega
                  have v3 : decide ((k : Int) < (k : Int)) = false := decide_eq_false (by omega)
                  have hn1 : Hid (d1 = evl P R (l.take (i + 1))) := by
                    rw [n1.out, hd.out, List.take_of_length_le (by rw [hnv.out]; exact Nat.le_refl _)]
                    exact hid rfl
                  clear hd
                  go_wp2_with fail
                  go_roundw
                  case rel => exact ⟨i + 1, c0 + 1, d1, c2, (c3 + 1), ⟨by omega, by omega, by omega, by omega, by omega⟩, by go_num, hid ⟨n0.out, hn1.out, n2'.out, n3'.out⟩, hq7⟩
                  case measure => simp [intOf]; omega
          · by_cases hRv : R v = []
            · have hnv0 : nv = 0 := by rw [← hnv.out, hRv]; rfl
              subst hnv0
              have q9 : ((z : Int) == (v : Int)) = false := by simp; omega
              have q9' : ¬ ((z : Int) = (v : Int)) := by omega
              have hq3 := hid hq2.out
              go_upto_region 10 with fail
              obtain ⟨wC, hwC⟩ : ∃ wC, wB = wC := ⟨_, rfl⟩
              rw [hwC] at hq3 ⊢
              clear hwC y0 y1 y2 y3 f0 f1 f2 f3 hq2
              obtain ⟨x1, x2, x3, x4⟩ := hF.out _ hq3.out.bel
              go_region_held3 (fun y => y.cell? ⟨w.heap.size, 1, none⟩ = some (.slice (some ⟨bR, oR, none⟩) V cap) ∧ y.cell? ⟨bl, ol + i, none⟩ = some (.int .i64 (v : Int)) ∧ y.cell? ⟨bR, oR + v, none⟩ = some (.slice adv 0 capv)) (first | exact ⟨x1, x2, x4⟩ | go_keep) (fail)
              have hq4 := hid hq3.out.drew
              obtain ⟨wD, hwD⟩ : ∃ wD, wC.drew = wD := ⟨_, rfl⟩
              rw [hwD] at hq4 ⊢
              clear hwD hq3 x1 x2 x3 x4
              obtain ⟨⟨y0, y1, y2, y3⟩, f0, f1, f2, f3⟩ := hq4.out.cells
              skip
              have hq5 := hid hq4.out.set2
              have n2' : (c2 + 1) = k2 P R (l.take (i + 1)) := by have q := n2.out; rw [if_pos hRv] at q; omega
              have n3' : c3 = k3 P (lb V E R) (l.take (i + 1)) := by have q := n3.out; rw [if_neg hzv] at q; omega
              replace n2' := hid n2'
              replace n3' := hid n3'
              go_upto_region 12 with fail
              obtain ⟨wG, hwG⟩ : ∃ wG, wD.setCell ⟨C, 2, none⟩ (.int .i64 ((c2 : Int) + 1)) = wG := ⟨_, rfl⟩
              rw [hwG] at hq5 ⊢
              clear hwG y0 y1 y2 y3 f0 f1 f2 f3 hq4
              go_wp2_with fail
              go_loopw [10] (fun s10 wy => s10 = .int .i64 0 ∧ Hid (Q4 w2 C (c0 + 1) c1 (c2 + 1) c3 wy)) (fun _ _ => 0)
              case atStart => exact ⟨by go_num, hq5⟩
              case round =>
                obtain ⟨rfl, hq6⟩ := hrel
                clear hq5
                obtain ⟨x1, x2, x3, x4⟩ := hF.out _ hq6.out.bel
                go_upto_region 13 with fail
                go_region_held3 (fun y => y.cell? ⟨w.heap.size, 1, none⟩ = some (.slice (some ⟨bR, oR, none⟩) V cap) ∧ y.cell? ⟨bl, ol + i, none⟩ = some (.int .i64 (v : Int)) ∧ y.cell? ⟨bR, oR + v, none⟩ = some (.slice adv 0 capv)) (first | exact ⟨x1, x2, x4⟩ | go_keep) (fail)
                have hq7 := hid hq6.out.drew
                obtain ⟨wE, hwE⟩ : ∃ wE, wr.drew = wE := ⟨_, rfl⟩
                rw [hwE] at hq7 ⊢
                clear hwE hq6 x1 x2 x3 x4
                have hn1 : Hid (c1 = evl P R (l.take (i + 1))) := by
                  rw [n1.out, hRv]
                  exact hid rfl
                go_wp2_with fail
                go_roundw
                case rel => exact ⟨i + 1, c0 + 1, c1, (c2 + 1), c3, ⟨by omega, by omega, by omega, by omega, by omega⟩, by go_num, hid ⟨n0.out, hn1.out, n2'.out, n3'.out⟩, hq7⟩
                case measure => simp [intOf]; omega
            · have hnv0 : 0 < nv := by rw [← hnv.out]; exact List.length_pos_iff.2 hRv
              have q9 : ((z : Int) == (v : Int)) = false := by simp; omega
              have q9' : ¬ ((z : Int) = (v : Int)) := by omega
              have hq3 := hid hq2.out
              go_upto_region 10 with fail
              obtain ⟨wC, hwC⟩ : ∃ wC, wB = wC := ⟨_, rfl⟩
              rw [hwC] at hq3 ⊢
              clear hwC y0 y1 y2 y3 f0 f1 f2 f3 hq2
              obtain ⟨x1, x2, x3, x4⟩ := hF.out _ hq3.out.bel
              go_region_held3 (fun y => y.cell? ⟨w.heap.size, 1, none⟩ = some (.slice (some ⟨bR, oR, none⟩) V cap) ∧ y.cell? ⟨bl, ol + i, none⟩ = some (.int .i64 (v : Int)) ∧ y.cell? ⟨bR, oR + v, none⟩ = some (.slice adv nv capv)) (first | exact ⟨x1, x2, x4⟩ | go_keep) (fail)
              have hq4 := hid hq3.out.drew
              obtain ⟨wD, hwD⟩ : ∃ wD, wC.drew = wD := ⟨_, rfl⟩
              rw [hwD] at hq4 ⊢
              clear hwD hq3 x1 x2 x3 x4
              obtain ⟨⟨y0, y1, y2, y3⟩, f0, f1, f2, f3⟩ := hq4.out.cells
              have q11 : ((nv : Int) == 0) = false := by simp; omega
              have q11' : ¬ ((nv : Int) = 0) := by omega
              have q11'' : ¬ (nv = 0) := by omega
              have hq5 := hid hq4.out
              have n2' : c2 = k2 P R (l.take (i + 1)) := by have q := n2.out; rw [if_neg hRv] at q; omega
              have n3' : c3 = k3 P (lb V E R) (l.take (i + 1)) := by have q := n3.out; rw [if_neg hzv] at q; omega
              replace n2' := hid n2'
              replace n3' := hid n3'
              go_upto_region 12 with fail
              obtain ⟨wG, hwG⟩ : ∃ wG, wD = wG := ⟨_, rfl⟩
              rw [hwG] at hq5 ⊢
              clear hwG y0 y1 y2 y3 f0 f1 f2 f3 hq4
              go_wp2_with fail
              go_loopw [10] (fun s10 wy => ∃ k d1 : Nat, (k ≤ nv ∧ d1 ≤ c1 + k) ∧ s10 = .int .i64 (k : Int) ∧ Hid (d1 = c1 + ev ((R v).take k)) ∧ Hid (Q4 w2 C (c0 + 1) d1 c2 c3 wy)) (fun s10 _ => nv - (intOf s10).toNat)
              case atStart => exact ⟨0, c1, ⟨by omega, by omega⟩, by go_num, hid (by simp [ev]), hq5⟩
              case round =>
                obtain ⟨k, d1, ⟨hk1, hd1⟩, rfl, hd, hq6⟩ := hrel
                clear hq5
                obtain ⟨x1, x2, x3, x4⟩ := hF.out _ hq6.out.bel
                go_upto_region 13 with fail
                go_region_held3 (fun y => y.cell? ⟨w.heap.size, 1, none⟩ = some (.slice (some ⟨bR, oR, none⟩) V cap) ∧ y.cell? ⟨bl, ol + i, none⟩ = some (.int .i64 (v : Int)) ∧ y.cell? ⟨bR, oR + v, none⟩ = some (.slice adv nv capv)) (first | exact ⟨x1, x2, x4⟩ | go_keep) (fail)
                have hq7 := hid hq6.out.drew
                obtain ⟨wE, hwE⟩ : ∃ wE, wr.drew = wE := ⟨_, rfl⟩
                rw [hwE] at hq7 ⊢
                clear hwE hq6 x1 x2 x3 x4
                rcases Nat.lt_or_ge k nv with hkl | hkg
                · obtain ⟨d, hdx⟩ : ∃ d, (R v)[k]? = some d := ⟨_, List.getElem?_eq_getElem (by rw [hnv.out]; exact hkl)⟩
                  obtain ⟨bd, od, rfl, cd⟩ := hD.out _ hq7.out.bel k d hdx
                  obtain ⟨x1, x2, x3, x4⟩ := hF.out _ hq7.out.bel
                  have v3 : decide ((k : Int) < (nv : Int)) = true := decide_eq_true (by omega)
                  have j1 : (0 : Int) ≤ (k : Int) := by omega
                  have j2 : (k : Int) < (nv : Int) := by omega
                  go_upto_region 15 with fail
                  go_region_held3 (fun y => y.cell? ⟨w.heap.size, 1, none⟩ = some (.slice (some ⟨bR, oR, none⟩) V cap) ∧ y.cell? ⟨bl, ol + i, none⟩ = some (.int .i64 (v : Int)) ∧ y.cell? ⟨bR, oR + v, none⟩ = some (.slice (some ⟨bd, od, none⟩) nv capv) ∧ y.cell? ⟨bd, od + k, none⟩ = some (.int .i64 (d : Int))) (first | exact ⟨x1, x2, x4, cd⟩ | go_keep) (fail)
                  have hq8 := hid hq7.out.drew
                  obtain ⟨wF, hwF⟩ : ∃ wF, wE.drew = wF := ⟨_, rfl⟩
                  rw [hwF] at hq8 ⊢
                  clear hwF hq7 x1 x2 x3 x4 cd
                  obtain ⟨⟨y0, y1, y2, y3⟩, f0, f1, f2, f3⟩ := hq8.out.cells
                  by_cases hev : d % 2 = 0
                  · have hm : Int.tmod (d : Int) 2 = 0 := by rw [Int.tmod_eq_emod_of_nonneg (by omega)]; omega
                    have t8 : ((d : Int) % 2 == 0) = true := by simp; omega
                    have t8' : (Int.tmod (d : Int) 2 == 0) = true := by rw [hm]; rfl
                    have hn : Hid (d1 + 1 = c1 + ev ((R v).take (k + 1))) := by rw [ev_yes hdx hev, hd.out]; exact hid (by omega)
                    have hq9 := hid hq8.out.set1
                    clear hdx hd
                    go_wp2_with fail
                    go_roundw
                    case rel => exact ⟨k + 1, d1 + 1, ⟨by omega, by omega⟩, by go_num, hn, hq9⟩
                    case measure => simp [intOf]; omega
                  · have hm : Int.tmod (d : Int) 2 = 1 := by rw [Int.tmod_eq_emod_of_nonneg (by omega)]; omega
                    have t8 : ((d : Int) % 2 == 0) = false := by simp; omega
                    have t9 : ¬ ((d : Int) % 2 = 0) := by omega
                    have t8' : (Int.tmod (d : Int) 2 == 0) = false := by rw [hm]; rfl
                    have hn : Hid (d1 = c1 + ev ((R v).take (k + 1))) := by rw [ev_no hdx hev]; exact hd
                    clear hdx hd
                    go_wp2_with fail
                    go_roundw
                    case rel => exact ⟨k + 1, d1, ⟨by omega, by omega⟩, by go_num, hn, hq8⟩
                    case measure => simp [intOf]; omega
                · obtain rfl : k = nv := by omega
                  have v3 : decide ((k : Int) < (k : Int)) = false := decide_eq_false (by omega)
                  have hn1 : Hid (d1 = evl P R (l.take (i + 1))) := by
                    rw [n1.out, hd.out, List.take_of_length_le (by rw [hnv.out]; exact Nat.le_refl _)]
                    exact hid rfl
                  clear hd
                  go_wp2_with fail
                  go_roundw
                  case rel => exact ⟨i + 1, c0 + 1, d1, c2, c3, ⟨by omega, by omega, by omega, by omega, by omega⟩, by go_num, hid ⟨n0.out, hn1.out, n2'.out, n3'.out⟩, hq7⟩
                  case measure => simp [intOf]; omega
      · have ho : ¬ (of < 0) ∧ ¬ ((z : Int) = of) := by
          constructor
          · intro q; exact hp (hPv.out.2 (.inl q))
          · intro q; exact hp (hPv.out.2 (.inr q))
        have hp' : P v = false := by simpa using hp
        have t1 : decide (of ≥ 0) = true := decide_eq_true (by omega)
        have t1' : decide (0 ≤ of) = true := decide_eq_true (by omega)
        have t2 : ((z : Int) != of) = true := by simp [ho.2]
        have t3 : ¬ ((z : Int) = of) := ho.2
        have hk' : Hid (c0 = k0 P (l.take (i + 1)) ∧ c1 = evl P R (l.take (i + 1)) ∧ c2 = k2 P R (l.take (i + 1)) ∧ c3 = k3 P (lb V E R) (l.take (i + 1))) := by
          obtain ⟨a1, a2, a3, a4⟩ := hk.out
          refine hid ⟨?_, ?_, ?_, ?_⟩
          · rw [htk.out, a1]; unfold k0; rw [cp_snoc]; simp [hp']
          · rw [htk.out, a2, evl_snoc]; simp [hp']
          · rw [htk.out, a3]; unfold k2; rw [cp_snoc]; simp [hp']
          · rw [htk.out, a4]; unfold k3; rw [cp_snoc]; simp [hp']
        have hqn := hid hq.out
        clear hk hq hp ho
        go_wp2_with fail
        go_roundw
        case rel => exact ⟨i + 1, c0, c1, c2, c3, ⟨by omega, by omega, by omega, by omega, by omega⟩, by go_num, hk', hqn⟩
        case measure => simp [intOf]; omega
    · obtain rfl : i = n := by omega
      have v1 : decide ((i : Int) < (i : Int)) = false := decide_eq_false (by omega)
      have hkk : Hid (c0 = k0 P l ∧ c1 = evl P R l ∧ c2 = k2 P R l ∧ c3 = k3 P (lb V E R) l) := by
        have h := hk.out
        rw [List.take_of_length_le (by rw [hlen.out]; exact Nat.le_refl _)] at h
        exact hid h
      obtain ⟨wo, hwo⟩ : ∃ wo, wo = wr := ⟨wr, rfl⟩
      subst hwo
      have hbo := hid (hb2.out.trans (hq.out.bel.mono hb2.out.size))
      have hF : Hid (∀ y, Below w2.heap.size w2 y → y.cell? ⟨w.heap.size, 0, none⟩ = some (.int .i64 (E : Int)) ∧ y.cell? ⟨w.heap.size, 1, none⟩ = some (.slice ad V cap)) := hid (fun y hy => by
        obtain ⟨z0, z1, _, _⟩ := blk2 k1.out
        exact ⟨(hy.cell (World.block_lt_of_cell? _ _ z0)).trans z0, (hy.cell (World.block_lt_of_cell? _ _ z1)).trans z1⟩)
      obtain ⟨x0, x1⟩ := hF.out _ hq.out.bel
      have hra := hid (hral.out wo hbo.out)
      have hCo : Hid (C < wo.heap.size) := hid (Array.getElem?_eq_some_iff.1 hq.out.blk).1
      have hfl := fcs_le V R (2 * E)
      obtain ⟨fs, hfs⟩ : ∃ fs, fcs V R (2 * E) = fs := ⟨_, rfl⟩
      rw [hfs] at hface hfl hra
      replace hfs := hid hfs
      clear hk
      go_wp2_with fail
      refine hra.out.mono ?_
      rintro x w5 ⟨u5, rfl, hr5, b5⟩
      have hq5 := hid (hq.out.below b5)
      obtain ⟨a5, p5, hu5⟩ : ∃ a5 p5, u5 = .slice a5 fs.length p5 := by
        obtain ⟨a, c, e, _⟩ := hr5.rl
        exact ⟨a, c, e⟩
      subst hu5
      obtain ⟨N, hN⟩ : ∃ N, fs.length = N := ⟨_, rfl⟩
      rw [hN] at hfl hr5 ⊢
      replace hN := hid hN
      have hr5' := hid (And.intro hr5 (Below.refl w5.heap.size w5))
      clear hr5 b5 hra hq x0 x1
      go_wp2_with fail
      go_loopw [12, 13, 14] (fun s12 _ _ wy => ∃ m d2 : Nat, (m ≤ N ∧ d2 ≤ c2 + m) ∧ s12 = .int .i64 (m : Int) ∧ Hid (d2 = c2 + (fs.take m).countP (fun c => P (og V R (c.headD 0)))) ∧ Hid (Q4 w2 C c0 c1 d2 c3 wy ∧ Rg wo.heap.size wy (.slice a5 N p5) fs)) (fun s12 _ _ _ => N - (intOf s12).toNat)
      case atStart => exact ⟨0, c2, ⟨by omega, by omega⟩, by go_num, hid (by simp), hid ⟨hq5.out, hr5'.out.1⟩⟩
      case round =>
        obtain ⟨m, d2, ⟨hm, hd2⟩, rfl, hd, hst⟩ := hrel
        clear hq5 hr5'
        have hbel := hst.out.1.bel
        have hCl : C < wo.heap.size := hCo.out
        rcases Nat.lt_or_ge m N with hml | hmg
        · obtain ⟨c, hc⟩ : ∃ c, fs[m]? = some c := ⟨_, List.getElem?_eq_getElem (by rw [hN.out]; exact hml)⟩
          obtain ⟨z, hz0, hzh, hzi⟩ := hface.out m c hc
          obtain ⟨ga, oa, ad3, cap3, rfl, ca, hcc⟩ := hst.out.2.rd hc
          obtain ⟨g3, o3, rfl, cz⟩ := hcc 0 z hz0
          simp only [Nat.add_zero] at cz
          have hcp : 0 < c.length := (List.getElem?_eq_some_iff.1 hz0).1
          obtain ⟨x0, x1⟩ := hF.out _ hbel
          have hzV := hogl.out z hzi
          have hgz := hgc.out (og V R z) hzV
          have hPz := hid (hP.out (og V R z) hzV)
          have htk' : (fs.take (m + 1)).countP (fun c => P (og V R (c.headD 0))) = (fs.take m).countP (fun c => P (og V R (c.headD 0))) + (if P (og V R z) = true then 1 else 0) := by
            rw [List.take_add_one, hc]
            show ((fs.take m) ++ [c]).countP _ = _
            rw [List.countP_append, List.countP_singleton, hzh]
          have htk := hid htk'
          clear htk'
          have hbow := hid (hb2.out.trans (hbel.mono hb2.out.size))
          have hfx := hid (hfi.out (z : Int) wr.drew hbow.out.drew)
          have hogz := hid (hog.out z hzi)
          have v5 : decide ((m : Int) < (N : Int)) = true := decide_eq_true (by omega)
          have j1 : (0 : Int) ≤ (m : Int) := by omega
          have j2 : (m : Int) < (N : Int) := by omega
          obtain ⟨M, hM⟩ : ∃ M, c.length = M := ⟨_, rfl⟩
          rw [hM] at ca hcp
          have j3 : (0 : Int) < (M : Int) := by omega
          have hrg := hid hst.out.2
          have hqq := hid hst.out.1
          clear hM hcc hc hz0 hst hbel
          go_upto_region 21 with fail
          go_region_held3 (fun y => y.cell? ⟨w.heap.size, 0, none⟩ = some (.int .i64 (E : Int)) ∧ y.cell? ⟨w.heap.size, 1, none⟩ = some (.slice ad V cap) ∧ y.cell? ⟨ga, oa + m, none⟩ = some (.slice (some ⟨g3, o3, none⟩) M cap3) ∧ y.cell? ⟨g3, o3, none⟩ = some (.int .i64 (z : Int))) (first | exact ⟨x0, x1, ca, cz⟩ | exact ⟨q0, q1, q2, q3⟩ | go_keep) ((go_at_call 61; refine hfx.out.mono ?_; rintro q w6 ⟨r6, s6, rfl, hat6, b6⟩; have hb6 := hid b6; have q0 := (b6.cell (World.block_lt_of_cell? _ _ x0)).trans x0; have q1 := (b6.cell (World.block_lt_of_cell? _ _ x1)).trans x1; have q2 := (b6.cell (World.block_lt_of_cell? _ _ ca)).trans ca; have q3 := (b6.cell (World.block_lt_of_cell? _ _ cz)).trans cz; have hr6 := hogz.out r6 s6 hat6; subst hr6; clear b6 hat6))
          have bb : Below wr.heap.size wr w6 := (Below.refl wr.heap.size wr).drew.trans hb6.out
          have hq6 := hid (hqq.out.below bb)
          have hrg6 := hid (hrg.out.more bb)
          have hgz6 : w6.cell? ⟨g, og V R z, none⟩ = some (.int .i64 (lb V E R (og V R z) : Int)) := (hq6.out.bel.cell (World.block_lt_of_cell? _ _ hgz)).trans hgz
          obtain ⟨⟨y0, y1, y2, y3⟩, f0, f1, f2, f3⟩ := hq6.out.cells
          clear hb6 q0 q1 q2 q3 x0 x1 ca cz hfx bb hrg hqq hgz
          generalize og V R z = oz at *
          have k1' : (0 : Int) ≤ (oz : Int) := by omega
          have k2'' : (oz : Int) < (V : Int) := by omega
          generalize lb V E R oz = lz at *
          by_cases hp : P oz = true
          · have hn : Hid (d2 + 1 = c2 + (fs.take (m + 1)).countP (fun c => P (og V R (c.headD 0)))) := by rw [htk.out, if_pos hp, hd.out]; exact hid (by omega)
            have hqn := hid hq6.out.set2
            have hrn := hid (hrg6.out.keptN hCl (grown_set1 w6 C 2 (.int .i64 ((d2 : Int) + 1))))
            have hway : (decide (of < 0) = true) ∨ (decide (of < 0) = false ∧ (lz : Int) = of) := by
              by_cases ho : of < 0
              · exact .inl (decide_eq_true ho)
              · rcases hPz.out.1 hp with q | q
                · exact absurd q ho
                · exact .inr ⟨decide_eq_false ho, q⟩
            clear htk hd hp hq6 hrg6
            rcases hway with t1 | ⟨t1, hlo⟩
            · go_wp2_with fail
              go_roundw
              case rel => exact ⟨m + 1, d2 + 1, ⟨by omega, by omega⟩, by go_num, hn, hid ⟨hqn.out, hrn.out⟩⟩
              case measure => simp [intOf]; omega
            · have t2 : ((lz : Int) == of) = true := by simp [hlo]
              subst hlo
              go_wp2_with fail
              go_roundw
              case rel => exact ⟨m + 1, d2 + 1, ⟨by omega, by omega⟩, by go_num, hn, hid ⟨hqn.out, hrn.out⟩⟩
              case measure => simp [intOf]; omega
          · have ho : ¬ (of < 0) ∧ ¬ ((lz : Int) = of) := ⟨fun q => hp (hPz.out.2 (.inl q)), fun q => hp (hPz.out.2 (.inr q))⟩
            have t1 : decide (of < 0) = false := decide_eq_false ho.1
            have t2 : ((lz : Int) == of) = false := by simp [ho.2]
            have t3 : ¬ ((lz : Int) = of) := ho.2
            have hn : Hid (d2 = c2 + (fs.take (m + 1)).countP (fun c => P (og V R (c.headD 0)))) := by rw [htk.out, if_neg hp, hd.out]; exact hid rfl
            clear htk hd hp ho
            go_wp2_with fail
            go_roundw
            case rel => exact ⟨m + 1, d2, ⟨by omega, by omega⟩, by go_num, hn, hid ⟨hq6.out, hrg6.out⟩⟩
            case measure => simp [intOf]; omega
        · obtain rfl : m = N := by omega
          have v5 : decide ((m : Int) < (m : Int)) = false := decide_eq_false (by omega)
          have hdd : d2 = k2 P R l + fs.countP (fun c => P (og V R (c.headD 0))) := by
            have h := hd.out
            rw [List.take_of_length_le (by rw [hN.out]; exact Nat.le_refl _), hkk.out.2.2.1] at h
            exact h
          replace hdd := hid hdd
          have hq6 := hid hst.out.1
          have hR6 : wr.heap[w.heap.size + 1]? = some (.cells #[.int .i64 0, .int .i64 0, .int .i64 0, .int .i64 0] 132 (0, 0)) := (hst.out.1.bel.block _ (Array.getElem?_eq_some_iff.1 k2'.out).1).trans k2'.out
          obtain ⟨⟨y0, y1, y2, y3⟩, f0, f1, f2, f3⟩ := hq6.out.cells
          obtain ⟨⟨z0, z1, z2, z3⟩, l0, l1, l2, l3⟩ := blk4 hR6
          have hfin := hid (set4_block hR6 (.int .i64 (c0 : Int)) (.int .i64 (c1 : Int)) (.int .i64 (d2 : Int)) (.int .i64 (c3 : Int)))
          have hbl := hid (below4 (hb2.out.trans (hq6.out.bel.mono hb2.out.size)) (show w.heap.size ≤ w.heap.size + 1 by omega) (.int .i64 (c0 : Int)) (.int .i64 (c1 : Int)) (.int .i64 (d2 : Int)) (.int .i64 (c3 : Int)))
          clear hst hd hR6
          go_wp2_with fail
          refine bodyPost_ret (results_cell_row rfl _ _ (w.heap.size + 1) 132 _ (0, 0) _ rfl hfin.out Tryz.underlying132 rfl (by kernel_rfl)) rfl ?_
          refine ⟨?_, hbl.out⟩
          rw [hfs.out, ← hdd.out, ← hkk.out.1, ← hkk.out.2.1, ← hkk.out.2.2.2]
    end Go.Proofs.YtboafgimjadboaaGreatDoor
