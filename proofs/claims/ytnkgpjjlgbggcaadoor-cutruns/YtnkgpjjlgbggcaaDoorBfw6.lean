/- The reference's search for a road: what lies in memory meanwhile. -/
import Derived.Test.YtnkgpjjlgbggcaaDoorWith6
import Derived.Test.YtnkgpjjlgbggcaaDoorBfs6
namespace Go.Proofs.YtnkgpjjlgbggcaaDoor
open Go.RowKit
set_option linter.unusedVariables false

/-- The cells of 'from'. -/
def fcs (K : Nat) (F : Nat → Int) : List Value := (List.range K).map (fun x => .int .i64 (F x))

theorem fcs_get {K x : Nat} {F : Nat → Int} (h : x < K) : (fcs K F)[x]? = some (.int .i64 (F x)) := by simp [fcs, h]

theorem fcs_length (K : Nat) (F : Nat → Int) : (fcs K F).length = K := by simp [fcs]

theorem fcs_set {K : Nat} {F : Nat → Int} (y : Nat) (z : Int) : (fcs K F).set y (.int .i64 z) = fcs K (fun x => if x = y then z else F x) := by
  apply List.ext_getElem?
  intro j
  rw [List.getElem?_set]
  rcases Nat.lt_or_ge j K with h | h
  · by_cases e : y = j
    · subst e; rw [if_pos rfl, if_pos (by rw [fcs_length]; exact h), fcs_get h]; simp
    · rw [if_neg e, fcs_get h, fcs_get h, if_neg (fun e' => e e'.symm)]
  · rw [List.getElem?_eq_none (l := fcs K (fun x => if x = y then z else F x)) (by rw [fcs_length]; exact h), List.getElem?_eq_none (l := fcs K F) (by rw [fcs_length]; exact h)]
    split
    · rw [if_neg (by rw [fcs_length]; omega)]
    · rfl

/-- A number's cell. -/
def icn (x : Nat) : Value := .int .i64 (x : Int)

/-- 'from' in the block fb, 'all' in a row of its own behind it. -/
structure BW (B fb K : Nat) (F : Nat → Int) (av : Value) (al : List Nat) (w0 wr : World) : Prop where
  fr : wr.ownsRow B 3 1 (.slice (some ⟨fb, 0, none⟩) K K) K (fcs K F)
  al : wr.ownsRow (fb + 1) 3 1 av al.length (al.map icn)
  below : Below B w0 wr
  lo : B ≤ fb
  lo0 : B ≤ w0.heap.size

section
variable {B fb K : Nat} {F : Nat → Int} {av : Value} {al : List Nat} {w0 wr w' : World}

theorem BW.cellF (h : BW B fb K F av al w0 wr) {x : Nat} (hx : x < K) : wr.cell? ⟨fb, x, none⟩ = some (.int .i64 (F x)) ∧ wr.frozen? ⟨fb, x, none⟩ = false :=
  ⟨(h.fr.cellAt x (by omega)).trans (fcs_get hx), h.fr.frozenAt x⟩

theorem BW.apart (h : BW B fb K F av al w0 wr) : av.ownBlock ≠ some fb := fun e => by have := (h.al.lt fb e).1; omega

theorem BW.cellA (h : BW B fb K F av al w0 wr) {j x : Nat} (hj : al[j]? = some x) : ∃ g cap, av = .slice (some ⟨g, 0, none⟩) al.length cap ∧ wr.cell? ⟨g, j, none⟩ = some (.int .i64 (x : Int)) := by
  have hjl := (List.getElem?_eq_some_iff.1 hj).1
  obtain ⟨g, cap, hv⟩ : ∃ g cap, av = .slice (some ⟨g, 0, none⟩) al.length cap := by
    rcases h.al.2 with ⟨_, e⟩ | ⟨g, cap, cur, e, _⟩
    · omega
    · exact ⟨g, cap, e⟩
  subst hv
  exact ⟨g, cap, rfl, (h.al.cellAt j (by omega)).trans (by simp [hj, icn])⟩

/-- From where one was met is told. -/
theorem BW.setF (h : BW B fb K F av al w0 wr) (y : Nat) (z : Int) : BW B fb K (fun x => if x = y then z else F x) av al w0 (wr.setCell ⟨fb, y, none⟩ (.int .i64 z)) := by
  obtain ⟨o1, g1⟩ := h.fr.stored y (.int .i64 z)
  rw [fcs_set] at o1
  refine ⟨o1, h.al.kept g1 (Or.inr h.apart), ?_, h.lo, h.lo0⟩
  exact below_row h.below h.lo0 h.fr (Nat.le_refl _) g1

/-- One more is met. -/
theorem BW.push (h : BW B fb K F av al w0 wr) {av' : Value} {y : Nat} {o : Obj} (ho : w'.ownsRow (fb + 1) 3 1 av' (al.length + 1) (al.map icn ++ [icn y])) (hg : (wr.alloc o).grownBy w' av.ownBlock) : BW B fb K F av' (al ++ [y]) w0 w' := by
  refine ⟨(h.fr.alloc o).kept hg (Or.inr (fun e => h.apart e.symm)), ?_, ?_, h.lo, h.lo0⟩
  · rw [List.length_append, List.map_append]
    exact ho
  · exact below_row (h.below.alloc (by have := h.below.size; have := h.lo0; omega) o) h.lo0 (h.al.alloc o) (by have := h.lo; omega) hg
end

end Go.Proofs.YtnkgpjjlgbggcaaDoor
