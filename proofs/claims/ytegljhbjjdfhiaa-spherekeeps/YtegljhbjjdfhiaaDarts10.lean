/- The document's Darts, walked. -/
import Derived.Test.YtegljhbjjdfhiaaBwith
namespace Go.Proofs.Ytegljhbjjdfhiaa
open Go.RowKit
set_option linter.unusedVariables false

open Classical in
/-- The darts below k that stand. -/
noncomputable def laid (V : Nat) (R : Nat → List Nat) : Nat → List Nat
  | 0 => []
  | k + 1 => laid V R k ++ (if In V R k then [k] else [])

theorem laid_yes {V : Nat} {R : Nat → List Nat} {k : Nat} (h : In V R k) : laid V R (k + 1) = laid V R k ++ [k] := by rw [laid, if_pos h]
theorem laid_no {V : Nat} {R : Nat → List Nat} {k : Nat} (h : ¬ In V R k) : laid V R (k + 1) = laid V R k := by rw [laid, if_neg h, List.append_nil]
theorem laid_len (V : Nat) (R : Nat → List Nat) : ∀ k, (laid V R k).length ≤ k
  | 0 => by simp [laid]
  | k + 1 => by
    by_cases h : In V R k
    · rw [laid_yes h]; have := laid_len V R k; simp; omega
    · rw [laid_no h]; have := laid_len V R k; omega
theorem mem_laid {V : Nat} {R : Nat → List Nat} : ∀ {k x : Nat}, x ∈ laid V R k ↔ x < k ∧ In V R x
  | 0, x => by simp [laid]
  | k + 1, x => by
    by_cases h : In V R k
    · rw [laid_yes h, List.mem_append, mem_laid, List.mem_singleton]
      constructor
      · rintro (⟨h1, h2⟩ | rfl)
        · exact ⟨by omega, h2⟩
        · exact ⟨by omega, h⟩
      · rintro ⟨h1, h2⟩
        by_cases e : x = k
        · exact .inr e
        · exact .inl ⟨by omega, h2⟩
    · rw [laid_no h, mem_laid]
      constructor
      · rintro ⟨h1, h2⟩; exact ⟨by omega, h2⟩
      · rintro ⟨h1, h2⟩
        refine ⟨?_, h2⟩
        by_cases e : x = k
        · subst e; exact absurd h2 h
        · omega

theorem At.in {V : Nat} {R : Nat → List Nat} {d : Nat} {r s : Int} (h : At V R (d : Int) r s) : (0 ≤ r ∧ In V R d) ∨ (r = -1 ∧ ¬ In V R d) := by
  rcases h with ⟨h1, _, h3⟩ | ⟨u, i, h1, h2, _, x, h4, h5⟩
  · exact .inr ⟨h1, fun ⟨v, h4, h5⟩ => h3 v h4 d h5 rfl⟩
  · refine .inl ⟨by omega, u, h1, ?_⟩
    have : x = d := by omega
    subst this
    exact List.mem_of_getElem? h4

/-- Below: the row stays. -/
theorem ownsRow_below {w w' : World} {base e size n : Nat} {v : Value} {xs : List Value} (h : w.ownsRow base e size v n xs) (hb : Below w.heap.size w w') : w'.ownsRow base e size v n xs := by
  refine ⟨h.1, ?_⟩
  rcases h.2 with h2 | ⟨g, cap, cur, hv, hg, hh, r⟩
  · exact .inl h2
  · refine .inr ⟨g, cap, cur, hv, hg, ?_, r⟩
    rw [hb.block g (Array.getElem?_eq_some_iff.1 hh).1]
    exact hh



end Go.Proofs.Ytegljhbjjdfhiaa
