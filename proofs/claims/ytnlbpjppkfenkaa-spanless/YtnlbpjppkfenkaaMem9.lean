/- Edges and marks in memory. -/
import Derived.Handy
import Derived.BigQuiet
import Derived.Deep.RegionHeld3
import Derived.Test.YtnlbpjppkfenkaaRef7
import Derived.Test.YtnlbpjppkfenkaaSum9
namespace Go.Proofs.Ytnlbpjppkfenkaa
open Go.RowKit
set_option linter.unusedVariables false

theorem infoBool : (Try.prog.info? 4).map (fun i => (i.zero, i.size, i.bytes)) = some (some (.bool false), 1, 1) := by kernel_rfl
theorem infoEdge : (Try.prog.info? 45).map (fun i => (i.zero, i.size, i.bytes)) = some (some (.agg #[.int .i64 0, .int .i64 0, .int .i32 0]), 3, 24) := by kernel_rfl
theorem infoREdge : (Try.prog.info? 27).map (fun i => (i.zero, i.size, i.bytes)) = some (some (.agg #[.int .i64 0, .int .i64 0, .int .i32 0]), 3, 24) := by kernel_rfl

theorem belowN {B : Nat} {a w : World} (h : Below B a w) (m : Nat) : Below B a (w.drewN m) := ⟨h.os, h.tape, h.output, h.size, h.block⟩

theorem own_more {w w' : World} {base n size : Nat} {e : TypeId} {v : Value} {xs : List Value} (h2 : w.ownsRow base e size v n xs) (hb : Below w.heap.size w w') : w'.ownsRow base e size v n xs := by
  refine ⟨h2.1, ?_⟩
  rcases h2.2 with hn | ⟨g, cap, cur, rfl, hb1, hgg, rest⟩
  · exact .inl hn
  · exact .inr ⟨g, cap, cur, rfl, hb1, (hb.block g (Array.getElem?_eq_some_iff.1 hgg).1).trans hgg, rest⟩

theorem own_low {w : World} {base b n size : Nat} {e : TypeId} {v : Value} {xs : List Value} (h2 : w.ownsRow base e size v n xs) (hb : b ≤ base) : w.ownsRow b e size v n xs := by
  refine ⟨h2.1, ?_⟩
  rcases h2.2 with hn | ⟨g, cap, cur, rfl, hb1, rest⟩
  · exact .inl hn
  · exact .inr ⟨g, cap, cur, rfl, by omega, rest⟩

/-- Rows of two kinds lie apart. -/
theorem own_apart {w : World} {b1 b2 n1 n2 s1 s2 : Nat} {e1 e2 : TypeId} {v1 v2 : Value} {x1 x2 : List Value} (h1 : w.ownsRow b1 e1 s1 v1 n1 x1) (h2 : w.ownsRow b2 e2 s2 v2 n2 x2) (hne : e1 ≠ e2) : v1.ownBlock = none ∨ v1.ownBlock ≠ v2.ownBlock := by
  rcases h1.2 with ⟨rfl, _⟩ | ⟨g, cap, cur, rfl, _, hg, _⟩
  · exact .inl rfl
  · rcases h2.2 with ⟨rfl, _⟩ | ⟨g', cap', cur', rfl, _, hg', _⟩
    · exact .inr (by simp [Value.ownBlock])
    · refine .inr (fun e => ?_)
      simp [Value.ownBlock] at e
      subst e
      rw [hg] at hg'
      injection hg' with h3
      injection h3 with _ h3
      exact hne h3

/-- An edge. -/
structure Ed where
  a : Int
  b : Int
  w : Int

abbrev edv (q : Ed) : Value := .agg #[.int .i64 q.a, .int .i64 q.b, .int .i32 q.w]

/-- Their weights are such. -/
def Wr (l : List Ed) : Prop := ∀ q, q ∈ l → -2147483648 ≤ q.w ∧ q.w ≤ 2147483647

/-- A slice of edges, to be read. -/
structure Es (w : World) (ad : Option Addr) (n : Nat) (l : List Ed) : Prop where
  len : l.length = n
  cell : ∀ (j : Nat) q, l[j]? = some q → ∃ b o, ad = some ⟨b, o, none⟩ ∧ w.cell? ⟨b, o + j * 3, none⟩ = some (.int .i64 q.a) ∧ w.cell? ⟨b, o + j * 3 + 1, none⟩ = some (.int .i64 q.b) ∧ w.cell? ⟨b, o + j * 3 + 2, none⟩ = some (.int .i32 q.w)

theorem Es.below {w w' : World} {ad : Option Addr} {n : Nat} {l : List Ed} (h : Es w ad n l) (hb : Below w.heap.size w w') : Es w' ad n l :=
  ⟨h.len, fun j z hz => by
    obtain ⟨b, o, h1, h2, h3, h4⟩ := h.cell j z hz
    exact ⟨b, o, h1, (hb.cell (World.block_lt_of_cell? w _ h2)).trans h2, (hb.cell (World.block_lt_of_cell? w _ h3)).trans h3, (hb.cell (World.block_lt_of_cell? w _ h4)).trans h4⟩⟩

/-- The value is a slice of these edges. -/
def EV (w : World) (v : Value) (l : List Ed) : Prop := ∃ ad n cap, v = .slice ad n cap ∧ Es w ad n l ∧ n ≤ cap ∧ cap ≤ maxLen

theorem EV.below {w w' : World} {v : Value} {l : List Ed} (h : EV w v l) (hb : Below w.heap.size w w') : EV w' v l := by
  obtain ⟨ad, n, cap, h1, h2, h3⟩ := h
  exact ⟨ad, n, cap, h1, h2.below hb, h3⟩

/-- Edges as cells. -/
def ecs : List Ed → List Value
  | [] => []
  | q :: l => .int .i64 q.a :: .int .i64 q.b :: .int .i32 q.w :: ecs l

theorem ecs_length : ∀ l, (ecs l).length = l.length * 3
  | [] => rfl
  | q :: l => by simp only [ecs, List.length_cons, ecs_length l]; omega

theorem ecs_append : ∀ a b, ecs (a ++ b) = ecs a ++ ecs b
  | [], b => rfl
  | q :: a, b => by simp only [List.cons_append, ecs, ecs_append a b]

theorem ecs_get : ∀ (l : List Ed) (j : Nat) (q : Ed), l[j]? = some q → (ecs l)[j * 3]? = some (.int .i64 q.a) ∧ (ecs l)[j * 3 + 1]? = some (.int .i64 q.b) ∧ (ecs l)[j * 3 + 2]? = some (.int .i32 q.w)
  | [], j, q, h => by simp at h
  | r :: l, 0, q, h => by
    simp at h
    subst h
    exact ⟨rfl, rfl, rfl⟩
  | r :: l, j + 1, q, h => by
    have ih := ecs_get l j q (by simpa using h)
    rw [show (j + 1) * 3 = j * 3 + 3 from by omega]
    simp only [ecs]
    exact ⟨by simpa using ih.1, by simpa using ih.2.1, by simpa using ih.2.2⟩

/-- A row of edges of one's own. -/
def Re (t : TypeId) (base : Nat) (w : World) (v : Value) (l : List Ed) : Prop := w.ownsRow base t 3 v l.length (ecs l)

theorem Re.ev {t : TypeId} {base : Nat} {w : World} {v : Value} {l : List Ed} (h : Re t base w v l) : EV w v l := by
  have h' : w.ownsRow base t 3 v l.length (ecs l) := h
  rcases h'.2 with ⟨rfl, h0⟩ | ⟨g, cap, cur, rfl, _, hg, h1, h2, _⟩
  · have : l = [] := List.eq_nil_of_length_eq_zero h0
    subst this
    exact ⟨none, 0, 0, rfl, ⟨rfl, fun j z hz => by simp at hz⟩, Nat.le_refl _, Nat.zero_le _⟩
  · refine ⟨some ⟨g, 0, none⟩, l.length, cap, rfl, ⟨rfl, fun j z hz => ?_⟩, h1, h2⟩
    have hj := (List.getElem?_eq_some_iff.1 hz).1
    obtain ⟨e1, e2, e3⟩ := ecs_get l j z hz
    refine ⟨g, 0, rfl, ?_, ?_, ?_⟩
    · rw [Nat.zero_add, h'.cellAt _ (by omega)]; exact e1
    · rw [Nat.zero_add, h'.cellAt _ (by omega)]; exact e2
    · rw [Nat.zero_add, h'.cellAt _ (by omega)]; exact e3

theorem Re.more {t : TypeId} {base : Nat} {w w' : World} {v : Value} {l : List Ed} (h : Re t base w v l) (hb : Below w.heap.size w w') : Re t base w' v l := own_more h hb

/-- One new edge, as an append reads it. -/
theorem ed_new (w : World) (q : Ed) (t : TypeId) : ∀ j x, (ecs [q])[j]? = some x → (w.alloc (.cells #[.int .i64 q.a, .int .i64 q.b, .int .i32 q.w] t)).cell? ((⟨w.heap.size, 0, none⟩ : Addr).add j) = some x := by
  intro j x hx
  rw [show (⟨w.heap.size, 0, none⟩ : Addr).add j = ⟨w.heap.size, j, none⟩ from by unfold Addr.add; split <;> simp_all]
  have hn := heap_alloc_new w (.cells #[.int .i64 q.a, .int .i64 q.b, .int .i32 q.w] t)
  unfold World.cell?
  rw [hn]
  simpa [ecs] using hx

theorem ed_one (q : Ed) : ∀ u ∈ ecs [q], u.oneCell' = true := by
  intro u hu
  simp [ecs] at hu
  rcases hu with rfl | rfl | rfl <;> rfl

/-- Marks as cells. -/
def bl (n : Nat) (p : Nat → Bool) : List Value := (List.range n).map (fun i => .bool (p i))
@[simp] theorem bl_length (n : Nat) (p : Nat → Bool) : (bl n p).length = n := by simp [bl]
theorem bl_get {n : Nat} {p : Nat → Bool} {j : Nat} (h : j < n) : (bl n p)[j]? = some (.bool (p j)) := by simp [bl, h]
def on (p : Nat → Bool) (x : Nat) : Nat → Bool := fun y => if y = x then true else p y
theorem bl_set (n : Nat) (p : Nat → Bool) (x : Nat) : (bl n p).set x (.bool true) = bl n (on p x) := by
  apply List.ext_getElem?
  intro j
  by_cases hj : j < n
  · rw [bl_get hj, List.getElem?_set]
    by_cases e : x = j
    · subst e; simp [on, hj]
    · rw [if_neg e, bl_get hj]; simp [on, show ¬ j = x from fun h => e h.symm]
  · rw [List.getElem?_eq_none (by simp; omega), List.getElem?_eq_none (by simp; omega)]
theorem bl_made (n : Nat) : (madeCells (Value.cells (.bool false)) (n * 1)).toList = bl n (fun _ => false) := by
  rw [Nat.mul_one]
  show (madeCells #[Value.bool false] n).toList = _
  rw [toList_madeCells_one]
  apply List.ext_getElem?
  intro j
  by_cases hj : j < n
  · rw [bl_get hj]; simp [hj]
  · rw [List.getElem?_eq_none (by simp; omega), List.getElem?_eq_none (by simp; omega)]
theorem bl_congr {n : Nat} {p q : Nat → Bool} (h : ∀ i, i < n → p i = q i) : bl n p = bl n q := by
  unfold bl
  exact List.map_congr_left (fun i hi => by rw [h i (List.mem_range.1 hi)])

/-- The value is a slice of these marks, to be read. -/
def BV (w : World) (v : Value) (n : Nat) (p : Nat → Bool) : Prop := ∃ ad cap, v = .slice ad n cap ∧ n ≤ cap ∧ cap ≤ maxLen ∧ ∀ j, j < n → ∃ b o, ad = some ⟨b, o, none⟩ ∧ w.cell? ⟨b, o + j, none⟩ = some (.bool (p j))

theorem BV.below {w w' : World} {v : Value} {n : Nat} {p : Nat → Bool} (h : BV w v n p) (hb : Below w.heap.size w w') : BV w' v n p := by
  obtain ⟨ad, cap, h1, h2, h3, h4⟩ := h
  refine ⟨ad, cap, h1, h2, h3, fun j hj => ?_⟩
  obtain ⟨b, o, e1, e2⟩ := h4 j hj
  exact ⟨b, o, e1, (hb.cell (World.block_lt_of_cell? w _ e2)).trans e2⟩

/-- A row of marks of one's own. -/
def Rm (base : Nat) (w : World) (v : Value) (n : Nat) (p : Nat → Bool) : Prop := w.ownsRow base 4 1 v n (bl n p)

theorem Rm.bv {base n : Nat} {w : World} {v : Value} {p : Nat → Bool} (h : Rm base w v n p) : BV w v n p := by
  have h' : w.ownsRow base 4 1 v n (bl n p) := h
  rcases h'.2 with ⟨rfl, rfl⟩ | ⟨g, cap, cur, rfl, _, hg, h1, h2, _⟩
  · exact ⟨none, 0, rfl, Nat.le_refl _, Nat.zero_le _, fun j hj => by omega⟩
  · refine ⟨some ⟨g, 0, none⟩, cap, rfl, h1, h2, fun j hj => ⟨g, 0, rfl, ?_⟩⟩
    rw [Nat.zero_add, h'.cellAt j (by omega)]
    exact bl_get hj

theorem Rm.more {base n : Nat} {w w' : World} {v : Value} {p : Nat → Bool} (h : Rm base w v n p) (hb : Below w.heap.size w w') : Rm base w' v n p := own_more h hb

/-- Numbers as cells. -/
def ncs (l : List Nat) : List Value := l.map (fun i : Nat => .int .i64 (i : Int))
@[simp] theorem ncs_length (l : List Nat) : (ncs l).length = l.length := by simp [ncs]

end Go.Proofs.Ytnlbpjppkfenkaa
