/- 'CutSums', walked. -/
import Derived.Test.YtnkgpjjlgbggcaaDoorRfind4
import Derived.Test.YtnkgpjjlgbggcaaDoorGrown6
namespace Go.Proofs.YtnkgpjjlgbggcaaDoor
open Go.RowKit
set_option linter.unusedVariables false

theorem first_one {v : Nat → Int} {W : Int} : ∀ {A A' B B' : List Nat} {p q : Nat}, A ++ p :: B = A' ++ q :: B' → v p = W → v q = W → (∀ z, z ∈ A → v z ≠ W) → (∀ z, z ∈ A' → v z ≠ W) → p = q
  | [], [], _, _, _, _, h, _, _, _, _ => by simp at h; exact h.1
  | [], a :: A', _, _, p, _, h, hp, _, _, hA => by simp at h; exact absurd hp (h.1 ▸ hA a List.mem_cons_self)
  | a :: A, [], _, _, _, q, h, _, hq, hA, _ => by simp at h; exact absurd hq (h.1 ▸ hA a List.mem_cons_self)
  | a :: A, a' :: A', _, _, _, _, h, hp, hq, hA, hA' => by
    simp at h
    exact first_one h.2 hp hq (fun z hz => hA z (List.mem_cons_of_mem _ hz)) (fun z hz => hA' z (List.mem_cons_of_mem _ hz))

theorem least_one {v : Nat → Int} {l : List Nat} (hr : In64 v l) {d e : Nat} (h : ∃ A B, l = A ++ (d + 1) :: B ∧ v (d + 1) = lowV v l ∧ ∀ z, z ∈ A → v z ≠ lowV v l) (k : Fst v l (e + 1)) : d = e := by
  obtain ⟨A, B, h1, h2, h3⟩ := h
  obtain ⟨A', B', k1, k2, k3⟩ := k
  have hm : e + 1 ∈ l := by rw [k1]; simp
  obtain ⟨z, hz, hzv⟩ := lowV_att v l (by rw [k1]; simp) hr
  have hle : v (e + 1) ≤ v z := by
    rw [k1] at hz
    rcases List.mem_append.1 hz with hz | hz
    · have := k2 z hz; omega
    · rcases List.mem_cons.1 hz with rfl | hz
      · omega
      · exact k3 z hz
  have hge := lowV_mem v l (e + 1) hm
  have he : v (e + 1) = lowV v l := by omega
  have := first_one (h1.symm.trans k1) h2 he h3 (fun z hz => by have := k2 z hz; omega)
  omega

theorem most_one {v : Nat → Int} {l : List Nat} (hr : In64 v l) {d e : Nat} (h : ∃ A B, l = A ++ (d + 1) :: B ∧ v (d + 1) = highV v l ∧ ∀ z, z ∈ A → v z ≠ highV v l) (k : Fst (fun z => -(v z)) l (e + 1)) : d = e := by
  obtain ⟨A, B, h1, h2, h3⟩ := h
  obtain ⟨A', B', k1, k2, k3⟩ := k
  have hm : e + 1 ∈ l := by rw [k1]; simp
  obtain ⟨z, hz, hzv⟩ := highV_att v l (by rw [k1]; simp) hr
  have hle : v z ≤ v (e + 1) := by
    rw [k1] at hz
    rcases List.mem_append.1 hz with hz | hz
    · have : -(v (e + 1)) < -(v z) := k2 z hz
      omega
    · rcases List.mem_cons.1 hz with rfl | hz
      · omega
      · have : -(v (e + 1)) ≤ -(v z) := k3 z hz
        omega
  have hge := highV_mem v l (e + 1) hm
  have he : v (e + 1) = highV v l := by omega
  have := first_one (h1.symm.trans k1) h2 he h3 (fun z hz => by have : -(v (e + 1)) < -(v z) := k2 z hz; omega)
  omega

theorem RB.ir {w : World} {g : Nat} {l : List Nat} (h : RB w g l) : Ir w g 0 l := fun j d hd => by rw [Nat.zero_add]; exact h.cell hd
theorem VB.vr {w : World} {b K : Nat} {v : Nat → Int} (h : VB w b K v) : Vr w b K v := fun d hd => h.cell d hd



end Go.Proofs.YtnkgpjjlgbggcaaDoor
