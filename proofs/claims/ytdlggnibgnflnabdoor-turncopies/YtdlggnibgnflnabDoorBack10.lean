/- 'TurnBack', walked. -/
import Derived.Test.YtdlggnibgnflnabDoorLs10
import Derived.Test.YtdlggnibgnflnabDoorSumP10
import Derived.Test.YtdlggnibgnflnabDoorRegion
import Derived.Deep.RegionLaw
import Derived.Deep.CutBlock
namespace Go.Proofs.YtdlggnibgnflnabDoor
open Go.RowKit
set_option linter.unusedVariables false

/-- The act's block. -/
abbrev acb (q : Ac) : Obj := .cells #[.int .i64 q.k, .int .i64 q.e, .int .i64 q.a0, .int .i64 q.a1, .int .i64 q.b0, .int .i64 q.b1] 37 (0, 0)

/-- Since wx: the document's variable, and the act's. -/
def BK (wx : World) (p g : Nat) (ad : Option Addr) (V cap : Nat) (q : Ac) (y : World) : Prop := Below wx.heap.size wx y ∧ y.heap[g]? = some (.cells #[.int .i64 8, .slice ad V cap] 31 (0, 0)) ∧ y.heap[p]? = some (acb q) ∧ g < wx.heap.size ∧ p < wx.heap.size

section
variable {wx y y' : World} {p g V cap : Nat} {ad : Option Addr} {q : Ac}
theorem BK.below (h : BK wx p g ad V cap q y) (hb : Below y.heap.size y y') : BK wx p g ad V cap q y' :=
  ⟨h.1.trans (hb.mono h.1.size), (hb.block _ (Array.getElem?_eq_some_iff.1 h.2.1).1).trans h.2.1, (hb.block _ (Array.getElem?_eq_some_iff.1 h.2.2.1).1).trans h.2.2.1, h.2.2.2⟩
theorem BK.drew (h : BK wx p g ad V cap q y) : BK wx p g ad V cap q y.drew := h.below (Below.refl _ _).drew
theorem BK.set2 (h : BK wx p g ad V cap q y) {P : Nat} (hP : wx.heap.size ≤ P) (u v : Value) : BK wx p g ad V cap q ((y.setCell ⟨P, 0, none⟩ u).setCell ⟨P, 1, none⟩ v) := by
  obtain ⟨h1, h2, h3, h4, h5⟩ := h
  have k : ∀ b, b < wx.heap.size → ((y.setCell ⟨P, 0, none⟩ u).setCell ⟨P, 1, none⟩ v).heap[b]? = y.heap[b]? := fun b hb => by rw [Below.heap_setCell _ _ _ _ (by show b ≠ P; omega), Below.heap_setCell _ _ _ _ (by show b ≠ P; omega)]
  exact ⟨below2 h1 hP _ _, (k g h4).trans h2, (k p h5).trans h3, h4, h5⟩
theorem BK.six {k e a0 a1 b0 b1 : Int} (h : BK wx p g ad V cap ⟨k, e, a0, a1, b0, b1⟩ y) : y.cell? ⟨g, 0, none⟩ = some (.int .i64 8) ∧ y.cell? ⟨g, 1, none⟩ = some (.slice ad V cap) ∧ y.cell? ⟨p, 2, none⟩ = some (.int .i64 a0) ∧ y.cell? ⟨p, 3, none⟩ = some (.int .i64 a1) ∧ y.cell? ⟨p, 4, none⟩ = some (.int .i64 b0) ∧ y.cell? ⟨p, 5, none⟩ = some (.int .i64 b1) := by
  obtain ⟨x0, x1, _, _⟩ := blk2 h.2.1
  refine ⟨x0, x1, ?_, ?_, ?_, ?_⟩ <;> (unfold World.cell?; rw [h.2.2.1]; rfl)
end

theorem NL.ai {w w' : World} {v : Value} {l : List Nat} (h : NL w v l) (ha : ∀ b, Ty w b 3 → w'.heap[b]? = w.heap[b]?) : NL w' v l := by
  obtain ⟨ad, n, cap, h1, h2, h3, h4, h5⟩ := h
  refine ⟨ad, n, cap, h1, h2, ⟨h3.1, h3.2.1, fun a e => ?_⟩, h4, fun j x hx => ?_⟩
  · obtain ⟨b, o, rfl, ht⟩ := h3.2.2 a e
    exact ⟨b, o, rfl, ht.of (ha b ht)⟩
  · obtain ⟨b, o, e1, e2⟩ := h5 j x hx
    refine ⟨b, o, e1, ?_⟩
    obtain ⟨b', o', e3, ht⟩ := h3.2.2 _ e1
    cases e3
    exact (World.cell?_of_block (ha b ht)).trans e2

/-- The lists that were told before. -/
def Bf (base : Nat) (R : Nat → List Nat) (i : Nat) (v : Value) (us : List Value) (y : World) : Prop := y.ownsRow base 38 1 v i us ∧ us.length = i ∧ ∀ (k : Nat) u, us[k]? = some u → NL y u (lf (R k))

theorem Bf.al {base : Nat} {R : Nat → List Nat} {i : Nat} {v : Value} {us : List Value} {y y' : World} (h : Bf base R i v us y) (ha : Al y y') : Bf base R i v us y' := by
  obtain ⟨h1, h2, h3⟩ := h
  refine ⟨⟨h1.1, ?_⟩, h2, fun k u hu => (h3 k u hu).al ha⟩
  rcases h1.2 with q | ⟨g, cap, cur, e, hb, hh, r⟩
  · exact .inl q
  · exact .inr ⟨g, cap, cur, e, hb, (ha g (.inr ⟨_, _, hh⟩)).trans hh, r⟩

theorem one_cell_nl {w : World} {v : Value} {l : List Nat} (h : NL w v l) : v.oneCell' = true := h.one

theorem lay_sum {V : Nat} {R : Nat → List Nat} {e u v : Nat} {a b : Option Nat} (hu : u < V) (hv : v < V) (ha : ∀ y, a = some y → y ∈ R u) (hb : ∀ y, b = some y → y ∈ R v) : sumL (layR R e u v a b) V = sumL R V + 2 := by
  unfold layR
  rw [sumL_put hv (lay_b hb ha), sumL_put hu ha]



theorem nx_lf {l : List Nat} {y : Nat} (hn : l.Nodup) (hy : y ∈ l) : nx (lf l) y = nx l y := by
  have hne : l ≠ [] := fun e => by rw [e] at hy; simp at hy
  exact nx_rot hn hy (least0_mem l hne)



end Go.Proofs.YtdlggnibgnflnabDoor
