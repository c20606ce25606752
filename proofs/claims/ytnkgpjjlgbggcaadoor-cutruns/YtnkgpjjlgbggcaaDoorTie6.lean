/- The document's links and the forest, held against one another: plain facts. -/
import Derived.Test.YtnkgpjjlgbggcaaDoorTold6
namespace Go.Proofs.YtnkgpjjlgbggcaaDoor
set_option linter.unusedVariables false

/-- The links are the forest's, each once. -/
structure TL (K : Nat) (adj : Nat → Nat → Prop) (ls : List (Nat × Nat)) : Prop where
  eq : ∀ x y, adj x y ↔ adjL ls x y
  rng : ∀ p ∈ ls, p.1 < K ∧ p.2 < K ∧ p.1 ≠ p.2
  once : ∀ (i j : Nat) (p q : Nat × Nat), ls[i]? = some p → ls[j]? = some q → isL p.1 p.2 q → i = j

theorem adjL_isL {ls : List (Nat × Nat)} {a b : Nat} : adjL ls (a + 1) (b + 1) ↔ ∃ p ∈ ls, isL a b p := by
  constructor
  · rintro ⟨p, hp, ⟨h1, h2⟩ | ⟨h1, h2⟩⟩
    · exact ⟨p, hp, Or.inl (Prod.ext (by simp; omega) (by simp; omega))⟩
    · exact ⟨p, hp, Or.inr (Prod.ext (by simp; omega) (by simp; omega))⟩
  · rintro ⟨p, hp, rfl | rfl⟩
    · exact ⟨_, hp, Or.inl ⟨rfl, rfl⟩⟩
    · exact ⟨_, hp, Or.inr ⟨rfl, rfl⟩⟩

/-- Find finds a link where there is one. -/
theorem TL.found {K : Nat} {adj : Nat → Nat → Prop} {ls : List (Nat × Nat)} (h : TL K adj ls) {a b : Nat} {z : Int} (f : Found ls a b z) :
    (adj (a + 1) (b + 1) ∧ ∃ (i : Nat) (p : Nat × Nat), z = (i : Int) ∧ ls[i]? = some p ∧ isL a b p) ∨ (¬ adj (a + 1) (b + 1) ∧ z = -1) := by
  rcases f with ⟨i, p, h1, h2, h3⟩ | ⟨h1, h2⟩
  · exact Or.inl ⟨(h.eq _ _).2 (adjL_isL.2 ⟨p, List.mem_of_getElem? h2, h3⟩), i, p, h1, h2, h3⟩
  · refine Or.inr ⟨fun e => ?_, h1⟩
    obtain ⟨p, hp, hl⟩ := adjL_isL.1 ((h.eq _ _).1 e)
    exact h2 p hp hl

theorem isL_symm {a b : Nat} {p : Nat × Nat} (h : isL a b p) : isL p.1 p.2 (a, b) := by
  rcases h with rfl | rfl
  · exact Or.inl rfl
  · exact Or.inr rfl

theorem isL_trans {a b : Nat} {p q : Nat × Nat} (h : isL a b p) (k : isL a b q) : isL p.1 p.2 q := by
  rcases h with rfl | rfl <;> rcases k with rfl | rfl <;> simp [isL]

theorem TL.nil (K : Nat) (adj : Nat → Nat → Prop) (h : ∀ x y, ¬ adj x y) : TL K adj [] :=
  ⟨fun x y => ⟨fun e => absurd e (h x y), fun ⟨p, hp, _⟩ => by cases hp⟩, by simp, by simp⟩

/-- Two are linked. -/
theorem TL.link {K : Nat} {adj : Nat → Nat → Prop} {ls : List (Nat × Nat)} (h : TL K adj ls) {a b : Nat} (ha : a < K) (hb : b < K) (hne : a ≠ b) (hn : ¬ adj (a + 1) (b + 1)) : TL K (addE adj (a + 1) (b + 1)) (ls ++ [(a, b)]) := by
  have hno : ∀ p ∈ ls, ¬ isL a b p := fun p hp hl => hn ((h.eq _ _).2 (adjL_isL.2 ⟨p, hp, hl⟩))
  refine ⟨fun x y => ?_, fun p hp => ?_, fun i j p q hi hj hl => ?_⟩
  · unfold addE
    rw [h.eq x y]
    unfold adjL
    constructor
    · rintro (⟨p, hp, hc⟩ | ⟨h1, h2⟩ | ⟨h1, h2⟩)
      · exact ⟨p, List.mem_append_left _ hp, hc⟩
      · exact ⟨(a, b), by simp, Or.inl ⟨h1, h2⟩⟩
      · exact ⟨(a, b), by simp, Or.inr ⟨h1, h2⟩⟩
    · rintro ⟨p, hp, hc⟩
      rcases List.mem_append.1 hp with hp | hp
      · exact Or.inl ⟨p, hp, hc⟩
      · rw [List.mem_singleton.1 hp] at hc
        exact Or.inr hc
  · rcases List.mem_append.1 hp with hp | hp
    · exact h.rng p hp
    · rw [List.mem_singleton.1 hp]; exact ⟨ha, hb, hne⟩
  · have hlen : ∀ (k : Nat) (r : Nat × Nat), (ls ++ [(a, b)])[k]? = some r → ls[k]? = some r ∨ (k = ls.length ∧ r = (a, b)) := fun k r hk => by
      rcases Nat.lt_or_ge k ls.length with g | g
      · rw [List.getElem?_append_left g] at hk; exact Or.inl hk
      · rw [List.getElem?_append_right g] at hk
        have := (List.getElem?_eq_some_iff.1 hk).1
        simp at this
        obtain rfl : k = ls.length := by omega
        simp at hk
        exact Or.inr ⟨rfl, hk.symm⟩
    rcases hlen i p hi with hi | ⟨rfl, rfl⟩ <;> rcases hlen j q hj with hj | ⟨rfl, rfl⟩
    · exact h.once i j p q hi hj hl
    · exact absurd (by simpa using isL_symm hl) (hno p (List.mem_of_getElem? hi))
    · exact absurd hl (hno q (List.mem_of_getElem? hj))
    · rfl

/-- A link is cut. -/
theorem TL.cut {K : Nat} {adj : Nat → Nat → Prop} {ls : List (Nat × Nat)} (h : TL K adj ls) {a b i : Nat} {p : Nat × Nat} (hi : ls[i]? = some p) (hl : isL a b p) : TL K (delE adj (a + 1) (b + 1)) (ls.take i ++ ls.drop (i + 1)) := by
  rw [← List.eraseIdx_eq_take_drop_succ]
  have hm : ∀ q, q ∈ ls.eraseIdx i → ∃ j, j ≠ i ∧ ls[j]? = some q := fun q hq => by
    obtain ⟨j, h1, h2⟩ := List.mem_eraseIdx_iff_getElem?.1 hq
    exact ⟨j, h1, h2⟩
  have hg : ∀ (k : Nat) (q : Nat × Nat), (ls.eraseIdx i)[k]? = some q → ls[if k < i then k else k + 1]? = some q := fun k q hk => by
    rw [List.getElem?_eraseIdx] at hk
    split at hk
    · rename_i g; rw [if_pos g]; exact hk
    · rename_i g; rw [if_neg g]; exact hk
  refine ⟨fun x y => ?_, fun q hq => ?_, fun j k q r hj hk hc => ?_⟩
  · unfold delE
    rw [h.eq x y]
    constructor
    · rintro ⟨⟨q, hq, hc⟩, n1, n2⟩
      obtain ⟨j, hj⟩ := List.mem_iff_getElem?.1 hq
      have hji : j ≠ i := fun e => by
        rw [e, hi] at hj
        cases hj
        rcases hl with rfl | rfl
        · rcases hc with hc | hc
          · exact n1 hc
          · exact n2 hc
        · rcases hc with hc | hc
          · exact n2 hc
          · exact n1 hc
      exact ⟨q, List.mem_eraseIdx_iff_getElem?.2 ⟨j, hji, hj⟩, hc⟩
    · rintro ⟨q, hq, hc⟩
      obtain ⟨j, hji, hj⟩ := hm q hq
      have hnq : ¬ isL a b q := fun e => hji (h.once j i q p hj hi (isL_trans e hl))
      refine ⟨⟨q, List.mem_of_getElem? hj, hc⟩, fun e => hnq ?_, fun e => hnq ?_⟩
      · rcases hc with hc | hc
        · exact Or.inl (Prod.ext (by simp; omega) (by simp; omega))
        · exact Or.inr (Prod.ext (by simp; omega) (by simp; omega))
      · rcases hc with hc | hc
        · exact Or.inr (Prod.ext (by simp; omega) (by simp; omega))
        · exact Or.inl (Prod.ext (by simp; omega) (by simp; omega))
  · obtain ⟨j, _, hj⟩ := hm q hq
    exact h.rng q (List.mem_of_getElem? hj)
  · have := h.once _ _ q r (hg j q hj) (hg k r hk) hc
    split at this <;> split at this <;> omega

end Go.Proofs.YtnkgpjjlgbggcaaDoor
