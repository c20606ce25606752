/- The reference's Sum, Least and Most, walked. -/
import Derived.Test.YtiiklklokkcnpaaDoorLaws4
namespace Go.Proofs.YtiiklklokkcnpaaDoor
open Go.RowKit
set_option linter.unusedVariables false

/-- A row of items that lies in a block from a place on; a row of values. -/
def Ir (w : World) (g o : Nat) (l : List Nat) : Prop := ∀ (j d : Nat), l[j]? = some (d + 1) → w.cell? ⟨g, o + j, none⟩ = some (.int .i64 (d : Int))
def Vr (w : World) (h m : Nat) (v : Nat → Int) : Prop := ∀ d : Nat, d < m → w.cell? ⟨h, d, none⟩ = some (.int .i64 (v (d + 1)))

theorem sum_next (v : Nat → Int) (l : List Nat) (i z : Nat) (h : l[i]? = some z) : sumV v (l.take (i + 1)) = sumV v (l.take i) + v z := by
  rw [List.take_add_one, h, sumV_append]; simp [sumV]
theorem wrap_next (a b : Int) : wrap64 (wrap64 a + b) = wrap64 (a + b) := by
  simp only [wrap64]; omega



/-- The first of the least of a row. -/
def Fst (v : Nat → Int) (l : List Nat) (z : Nat) : Prop := ∃ A B, l = A ++ z :: B ∧ (∀ y, y ∈ A → v z < v y) ∧ ∀ y, y ∈ B → v z ≤ v y
theorem Fst.stay {v : Nat → Int} {l : List Nat} {z y : Nat} (h : Fst v l z) (hy : ¬ v y < v z) : Fst v (l ++ [y]) z := by
  obtain ⟨A, B, rfl, hA, hB⟩ := h
  refine ⟨A, B ++ [y], by simp, hA, fun x hx => ?_⟩
  rcases List.mem_append.1 hx with hx | hx
  · exact hB x hx
  · rw [List.mem_singleton.1 hx]; omega
theorem Fst.turn {v : Nat → Int} {l : List Nat} {z y : Nat} (h : Fst v l z) (hy : v y < v z) : Fst v (l ++ [y]) y := by
  obtain ⟨A, B, rfl, hA, hB⟩ := h
  refine ⟨A ++ z :: B, [], rfl, fun x hx => ?_, fun x hx => by cases hx⟩
  rcases List.mem_append.1 hx with hx | hx
  · have := hA x hx; omega
  · rcases List.mem_cons.1 hx with rfl | hx
    · exact hy
    · have := hB x hx; omega
theorem Fst.mem {v : Nat → Int} {l : List Nat} {z : Nat} (h : Fst v l z) : z ∈ l := by
  obtain ⟨A, B, rfl, _⟩ := h
  simp



end Go.Proofs.YtiiklklokkcnpaaDoor
