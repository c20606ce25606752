/- Back; nil Groups; 'sure'. -/
import Derived.Test.YtnlbpjppkfenkaaJoin7
namespace Go.Proofs.Ytnlbpjppkfenkaa
open Go.RowKit
set_option linter.unusedVariables false

/-- From w to w' only blocks of O turned; O' is of these and of new ones. -/
structure Mv (O O' : Nat → Prop) (w w' : World) : Prop where
  tu : Turned O w w'
  ne : ∀ k, O' k → O k ∨ w.heap.size ≤ k

theorem Mv.refl (O : Nat → Prop) (w : World) : Mv O O w w := ⟨Turned.refl _ _, fun k h => Or.inl h⟩
theorem Mv.trans {O O1 O2 : Nat → Prop} {w w1 w2 : World} (h : Mv O O1 w w1) (k : Mv O1 O2 w1 w2) : Mv O O2 w w2 := by
  refine ⟨h.tu.then k.tu (fun i hi e => ?_), fun i hi => ?_⟩
  · rcases h.ne i e with e | e
    · exact e
    · omega
  · rcases k.ne i hi with e | e
    · exact h.ne i e
    · exact Or.inr (Nat.le_trans h.tu.size e)
theorem Mv.more {O O1 : Nat → Prop} {w w1 w2 : World} (h : Mv O O1 w w1) (k : Below w1.heap.size w1 w2) : Mv O O1 w w2 := ⟨h.tu.trans (Turned.ofBelow k O), h.ne⟩

section
variable {w : World} {gb n : Nat} {f : Nat → Nat} {fs hs : List (Nat → Nat)} {O : Nat → Prop}

theorem GA.joins (h : GA w gb n (f :: fs) O) : ∃ ad cap, w.cell? ⟨gb, 2, none⟩ = some (.slice ad fs.length cap) ∧ fs.length ≤ 4194304 := by
  obtain ⟨mv, jv, K, T, js, h1, h2, h3⟩ := h.st
  obtain ⟨_, _, r, d, e, ok, h4, h5⟩ := h2.ok
  obtain ⟨rfl, rfl⟩ : f = _ ∧ fs = _ := by simpa using e
  obtain ⟨ad, cap, e, _, _⟩ := own_any h1.jo
  have := h1.hn
  exact ⟨ad, cap, by rw [h1.c2, e, h5], by omega⟩



theorem drop_cons {α : Type} (l : List α) (j : Nat) (h : j < l.length) : ∃ x, l.drop j = x :: l.drop (j + 1) := ⟨_, List.drop_eq_getElem_cons h⟩





end

end Go.Proofs.Ytnlbpjppkfenkaa
