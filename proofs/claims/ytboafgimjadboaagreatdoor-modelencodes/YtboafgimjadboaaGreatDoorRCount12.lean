/- The document's Count, walked. -/
import Derived.Test.YtboafgimjadboaaGreatDoorBrg
namespace Go.Proofs.YtboafgimjadboaaGreatDoor
open Go.RowKit
set_option linter.unusedVariables false

/-- A slice of numbers, to be read, whatever it is made of. -/
def RN (w : World) (v : Value) (l : List Nat) : Prop := ∃ ad n cap, v = .slice ad n cap ∧ l.length = n ∧ n ≤ 9223372036854775807 ∧ ∀ (j x : Nat), l[j]? = some x → ∃ b o, ad = some ⟨b, o, none⟩ ∧ w.cell? ⟨b, o + j, none⟩ = some (.int .i64 (x : Int))

theorem RN.below {w w' : World} {v : Value} {l : List Nat} (h : RN w v l) (hb : Below w.heap.size w w') : RN w' v l := by
  obtain ⟨ad, n, cap, h1, h2, h3, h4⟩ := h
  refine ⟨ad, n, cap, h1, h2, h3, fun j x hx => ?_⟩
  obtain ⟨b, o, e1, e2⟩ := h4 j x hx
  exact ⟨b, o, e1, (hb.cell (World.block_lt_of_cell? _ _ e2)).trans e2⟩

theorem NL.rn {w : World} {v : Value} {l : List Nat} (h : NL w v l) : RN w v l := by
  obtain ⟨ad, n, cap, h1, h2, h3, h4, h5⟩ := h
  unfold maxLen at h4
  exact ⟨ad, n, cap, h1, h2, by omega, h5⟩

/-- Four counts in a block of their own, made since w0. -/
structure Q4 (w0 : World) (C c0 c1 c2 c3 : Nat) (y : World) : Prop where
  bel : Below w0.heap.size w0 y
  low : w0.heap.size ≤ C
  blk : y.heap[C]? = some (.cells #[.int .i64 (c0 : Int), .int .i64 (c1 : Int), .int .i64 (c2 : Int), .int .i64 (c3 : Int)] 132 (0, 0))

section
variable {w0 y : World} {C c0 c1 c2 c3 : Nat}

theorem Q4.below {y' : World} (h : Q4 w0 C c0 c1 c2 c3 y) (hb : Below y.heap.size y y') : Q4 w0 C c0 c1 c2 c3 y' :=
  ⟨h.bel.trans (hb.mono h.bel.size), h.low, (hb.block _ (Array.getElem?_eq_some_iff.1 h.blk).1).trans h.blk⟩
theorem Q4.drew (h : Q4 w0 C c0 c1 c2 c3 y) : Q4 w0 C c0 c1 c2 c3 y.drew := h.below (Below.refl _ _).drew
theorem Q4.cells (h : Q4 w0 C c0 c1 c2 c3 y) : (y.cell? ⟨C, 0, none⟩ = some (.int .i64 (c0 : Int)) ∧ y.cell? ⟨C, 1, none⟩ = some (.int .i64 (c1 : Int)) ∧ y.cell? ⟨C, 2, none⟩ = some (.int .i64 (c2 : Int)) ∧ y.cell? ⟨C, 3, none⟩ = some (.int .i64 (c3 : Int))) ∧ y.frozen? ⟨C, 0, none⟩ = false ∧ y.frozen? ⟨C, 1, none⟩ = false ∧ y.frozen? ⟨C, 2, none⟩ = false ∧ y.frozen? ⟨C, 3, none⟩ = false := by
  have hb := h.blk
  unfold World.cell? World.frozen?
  rw [hb]
  simp
theorem Q4.set0 (h : Q4 w0 C c0 c1 c2 c3 y) : Q4 w0 C (c0 + 1) c1 c2 c3 (y.setCell ⟨C, 0, none⟩ (.int .i64 ((c0 : Int) + 1))) :=
  ⟨h.bel.setCell (p := ⟨C, 0, none⟩) h.low _, h.low, by rw [heap_setCell_same y C 0 _ _ _ h.blk]; rfl⟩
theorem Q4.set1 (h : Q4 w0 C c0 c1 c2 c3 y) : Q4 w0 C c0 (c1 + 1) c2 c3 (y.setCell ⟨C, 1, none⟩ (.int .i64 ((c1 : Int) + 1))) :=
  ⟨h.bel.setCell (p := ⟨C, 1, none⟩) h.low _, h.low, by rw [heap_setCell_same y C 1 _ _ _ h.blk]; rfl⟩
theorem Q4.set2 (h : Q4 w0 C c0 c1 c2 c3 y) : Q4 w0 C c0 c1 (c2 + 1) c3 (y.setCell ⟨C, 2, none⟩ (.int .i64 ((c2 : Int) + 1))) :=
  ⟨h.bel.setCell (p := ⟨C, 2, none⟩) h.low _, h.low, by rw [heap_setCell_same y C 2 _ _ _ h.blk]; rfl⟩
theorem Q4.set3 (h : Q4 w0 C c0 c1 c2 c3 y) : Q4 w0 C c0 c1 c2 (c3 + 1) (y.setCell ⟨C, 3, none⟩ (.int .i64 ((c3 : Int) + 1))) :=
  ⟨h.bel.setCell (p := ⟨C, 3, none⟩) h.low _, h.low, by rw [heap_setCell_same y C 3 _ _ _ h.blk]; rfl⟩
end

/-- How many first darts of edges. -/
def ev (m : List Nat) : Nat := m.countP (fun d => d % 2 == 0)
theorem ev_yes {m : List Nat} {k d : Nat} (h : m[k]? = some d) (he : d % 2 = 0) : ev (m.take (k + 1)) = ev (m.take k) + 1 := by
  rw [List.take_add_one, h]
  unfold ev
  rw [List.countP_append]
  simp [he]
theorem ev_no {m : List Nat} {k d : Nat} (h : m[k]? = some d) (he : d % 2 ≠ 0) : ev (m.take (k + 1)) = ev (m.take k) := by
  rw [List.take_add_one, h]
  unfold ev
  rw [List.countP_append]
  simp [he]

/-- First darts at those vertices. -/
def evl (P : Nat → Bool) (R : Nat → List Nat) : List Nat → Nat
  | [] => 0
  | v :: l => (if P v then ev (R v) else 0) + evl P R l
theorem evl_snoc (P : Nat → Bool) (R : Nat → List Nat) (v : Nat) : ∀ l, evl P R (l ++ [v]) = evl P R l + (if P v then ev (R v) else 0)
  | [] => by simp [evl]
  | x :: l => by simp only [List.cons_append, evl]; rw [evl_snoc P R v l]; omega
theorem cp_snoc (p : Nat → Bool) (l : List Nat) (v : Nat) : (l ++ [v]).countP p = l.countP p + (if p v then 1 else 0) := by
  rw [List.countP_append, List.countP_singleton]

/-- The counts of a list's first vertices. -/
def k0 (P : Nat → Bool) (l : List Nat) : Nat := l.countP P
def k2 (P : Nat → Bool) (R : Nat → List Nat) (l : List Nat) : Nat := l.countP (fun v => P v && (R v).isEmpty)
def k3 (P : Nat → Bool) (f : Nat → Nat) (l : List Nat) : Nat := l.countP (fun v => P v && (f v == v))


theorem grown_set1 (w : World) (C k : Nat) (v : Value) : w.grownBy (w.setCell ⟨C, k, none⟩ v) (some C) :=
  ⟨rfl, rfl, rfl, by simp [World.setCell], fun j _ hj => Below.heap_setCell _ _ _ _ (fun e => hj (by rw [e]))⟩

/-- What is read of rows of rows. -/
theorem Rg.rd {b n cap i : Nat} {ad : Option Addr} {w : World} {ms : List (List Nat)} {c : List Nat} (h : Rg b w (.slice ad n cap) ms) (hi : ms[i]? = some c) : ∃ g o ad2 cap2, ad = some ⟨g, o, none⟩ ∧ w.cell? ⟨g, o + i, none⟩ = some (.slice ad2 c.length cap2) ∧ ∀ j x : Nat, c[j]? = some x → ∃ g2 o2, ad2 = some ⟨g2, o2, none⟩ ∧ w.cell? ⟨g2, o2 + j, none⟩ = some (.int .i64 (x : Int)) := by
  obtain ⟨ad', cap', e, _, _, hr⟩ := h.rl
  simp only [Value.slice.injEq] at e
  obtain ⟨rfl, rfl, rfl⟩ := e
  obtain ⟨g, o, x, e1, e2, e3⟩ := hr i (List.getElem?_eq_some_iff.1 hi).1
  change NL w x ((ms[i]?).getD []) at e3
  rw [hi] at e3
  obtain ⟨ad2, n2, cap2, rfl, hl, _, _, hc⟩ := e3
  change c.length = n2 at hl
  subst hl
  exact ⟨g, o, ad2, cap2, e1, e2, hc⟩

theorem set4_block {w : World} {g : Nat} {t : TypeId} {u v x y : Value} (h : w.heap[g]? = some (.cells #[u, v, x, y] t (0, 0))) (a b c d : Value) : ((((w.setCell ⟨g, 0, none⟩ a).setCell ⟨g, 1, none⟩ b).setCell ⟨g, 2, none⟩ c).setCell ⟨g, 3, none⟩ d).heap[g]? = some (.cells #[a, b, c, d] t (0, 0)) := by
  unfold World.setCell
  rw [Array.getElem?_modify, if_pos rfl, Array.getElem?_modify, if_pos rfl, Array.getElem?_modify, if_pos rfl, Array.getElem?_modify, if_pos rfl, h]
  simp
theorem below4 {B : Nat} {a w : World} {g : Nat} (h : Below B a w) (hg : B ≤ g) (x y z u : Value) : Below B a ((((w.setCell ⟨g, 0, none⟩ x).setCell ⟨g, 1, none⟩ y).setCell ⟨g, 2, none⟩ z).setCell ⟨g, 3, none⟩ u) :=
  (((h.setCell (p := ⟨g, 0, none⟩) hg x).setCell (p := ⟨g, 1, none⟩) hg y).setCell (p := ⟨g, 2, none⟩) hg z).setCell (p := ⟨g, 3, none⟩) hg u
theorem blk4 {w : World} {g : Nat} {t : TypeId} {a b c d : Value} (h : w.heap[g]? = some (.cells #[a, b, c, d] t (0, 0))) : (w.cell? ⟨g, 0, none⟩ = some a ∧ w.cell? ⟨g, 1, none⟩ = some b ∧ w.cell? ⟨g, 2, none⟩ = some c ∧ w.cell? ⟨g, 3, none⟩ = some d) ∧ w.frozen? ⟨g, 0, none⟩ = false ∧ w.frozen? ⟨g, 1, none⟩ = false ∧ w.frozen? ⟨g, 2, none⟩ = false ∧ w.frozen? ⟨g, 3, none⟩ = false := by
  unfold World.cell? World.frozen?
  rw [h]
  simp

end Go.Proofs.YtboafgimjadboaaGreatDoor
