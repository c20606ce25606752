/- What the laws ask of cycles, in lists alone. -/
import Derived.Test.YtiiklklokkcnpaaDoorSure5
namespace Go.Proofs.YtiiklklokkcnpaaDoor
open Go.RowKit
set_option linter.unusedVariables false

theorem mod_up2 (n M : Int) (h1 : 1 ≤ M) (h2 : M ≤ 1000000) : ∃ K : Nat, wrap64 (2 + wrap64 ((IntKind.u64.wrap n).tmod M)) = (K : Int) ∧ 2 ≤ K ∧ (K : Int) ≤ M + 1 := by
  have e : (IntKind.u64.wrap n).tmod M = n % 18446744073709551616 % M := by
    rw [IntKind.wrap_u64, Int.tmod_eq_emod_of_nonneg (by omega)]
  have g1 : 0 ≤ n % 18446744073709551616 % M := Int.emod_nonneg _ (by omega)
  have g2 : n % 18446744073709551616 % M < M := Int.emod_lt_of_pos _ (by omega)
  rw [e]
  generalize n % 18446744073709551616 % M = r at g1 g2
  refine ⟨(2 + r).toNat, ?_, by omega, by omega⟩
  have w1 : wrap64 r = r := IntWalk.wrap64_in r ⟨by omega, by omega⟩
  have w2 : wrap64 (2 + r) = 2 + r := IntWalk.wrap64_in _ ⟨by omega, by omega⟩
  rw [w1, w2]
  omega

theorem sl_of {w : World} {g : Nat} {l : List Nat} (h : ∀ (j d : Nat), l[j]? = some d → w.cell? ⟨g, j, none⟩ = some (itm d)) : Sl w ⟨g, 0, none⟩ l := fun j u hu => by
  rw [List.getElem?_map] at hu
  obtain ⟨d, hd, rfl⟩ := Option.map_eq_some_iff.1 hu
  rw [show (⟨g, 0, none⟩ : Addr).add j = ⟨g, j, none⟩ from by unfold Addr.add; split <;> simp_all]
  exact h j d hd

theorem rot_one (X : Nat) : rot (one (X + 1)) (X + 1) = [X + 1] := by
  rw [show one (X + 1) = [X + 1] from by simp [one]]
  exact rot_self rfl

/-- A row cut in two: up to a place, and from it on. -/
theorem cut_rows {w : World} {g c : Nat} {l : List Nat} {M : Nat} (h : Rw w (.slice (some ⟨g, 0, none⟩) M c) l) (hl : l ≠ []) (M' : Nat) (hM : l.length = M') (j : Nat) (hj : j ≤ 8388610) (hM8 : M' ≤ 8388610 := by omega) :
    Ns w (.slice (some ⟨g, 0, none⟩) (min j M') c) (items (l.take j)) ∧ Ns w (.slice (some ⟨g, j, none⟩) (M' - j) (c - j)) (items (l.drop j)) := by
  obtain ⟨g', c', e, _, _, hc⟩ := h.sl hl M' hM
  injection e with e1 e2 e3
  injection e1 with e1
  injection e1 with e1
  subst e1
  refine ⟨⟨_, c, by rw [items_length, List.length_take, hM], (fun e => by cases e), by rw [items_length, List.length_take]; omega, fun a ha i z hz => ?_⟩, ⟨_, c - j, by rw [items_length, List.length_drop, hM], (fun e => by cases e), by rw [items_length, List.length_drop]; omega, fun a ha i z hz => ?_⟩⟩
  · cases ha
    unfold items at hz
    rw [List.getElem?_map] at hz
    obtain ⟨d, hd, rfl⟩ := Option.map_eq_some_iff.1 hz
    rw [show (⟨g, 0, none⟩ : Addr).add i = ⟨g, i, none⟩ from by unfold Addr.add; split <;> simp_all]
    rw [List.getElem?_take] at hd
    split at hd
    · exact hc i d hd
    · cases hd
  · cases ha
    unfold items at hz
    rw [List.getElem?_map] at hz
    obtain ⟨d, hd, rfl⟩ := Option.map_eq_some_iff.1 hz
    rw [show (⟨g, j, none⟩ : Addr).add i = ⟨g, j + i, none⟩ from by unfold Addr.add; split <;> simp_all]
    rw [List.getElem?_drop] at hd
    exact hc (j + i) d hd

section
variable {n : Nat} {seq : Nat → List Nat}

theorem Rw.nsr {w : World} {u : Value} {x : Nat} (h : Part n seq) (hx : x ≠ 0) (hr : Rw w u (rot (seq x) x)) : Ns w u (items (rot (seq x) x)) := hr.ns (by rw [rot_len]; have := h.len x hx; omega)
/-- Two merged: from the one on, and from the other; the front. -/
theorem merge_tells (h : Part n seq) {x y : Nat} (hx : x ≠ 0) (hy0 : y ≠ 0) (hy : y ∉ seq x) : rot (mrgS seq x y x) x = rot (seq x) x ++ rot (seq y) y ∧ (mrgS seq x y y)[0]? = some x := by
  obtain ⟨P, hP⟩ := rot_head (h.self x hx)
  have m1 : mrgS seq x y x = rot (seq x) x ++ rot (seq y) y := by
    unfold mrgS
    rw [if_pos (Or.inl (h.self x hx))]
  have m2 : mrgS seq x y y = rot (seq x) x ++ rot (seq y) y := by
    unfold mrgS
    rw [if_pos (Or.inr (h.self y hy0))]
  refine ⟨?_, ?_⟩
  · rw [m1, hP]
    exact rot_self rfl
  · rw [m2, hP]
    rfl
end

end Go.Proofs.YtiiklklokkcnpaaDoor
