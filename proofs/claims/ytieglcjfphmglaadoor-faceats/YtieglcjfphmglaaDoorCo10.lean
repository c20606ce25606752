/- Corners, and how long the lists are. -/
import Derived.Test.YtieglcjfphmglaaDoorCorner10
namespace Go.Proofs.YtieglcjfphmglaaDoor
open Go.RowKit
set_option linter.unusedVariables false

theorem pig : ∀ (l m : List Nat), l.Nodup → (∀ x, x ∈ l → x ∈ m) → l.length ≤ m.length
  | [], m, _, _ => by simp
  | x :: l, m, hn, hs => by
    have hx := hs x List.mem_cons_self
    obtain ⟨h1, h2⟩ := List.nodup_cons.1 hn
    have hlen := List.length_erase_of_mem hx
    have hpos : 0 < m.length := List.length_pos_of_mem hx
    have h3 := pig l (m.erase x) h2 (fun y hy => by
      have hne : y ≠ x := fun e => h1 (e ▸ hy)
      exact (List.mem_erase_of_ne hne).2 (hs y (List.mem_cons_of_mem _ hy)))
    simp
    omega

theorem Tn.len {V E : Nat} {R : Nat → List Nat} (h : Tn V E R) {v : Nat} (hv : v < V) : (R v).length ≤ 2 * E := by
  have := pig (R v) (List.range (2 * E)) (h.nd v hv) (fun x hx => List.mem_range.2 (h.low v x hv hx))
  simpa using this

/-- What a corner is behind. -/
def co (b : Int) : Option Nat := if b < 0 then none else some b.toNat
theorem co_none : co (-1) = none := rfl
theorem co_some (k : Nat) : co (k : Int) = some k := by unfold co; rw [if_neg (by omega)]; simp

theorem Co.mem {V : Nat} {R : Nat → List Nat} {v : Nat} {b : Int} (h : Co V R (v : Int) b) : ∀ y, co b = some y → y ∈ R v := by
  obtain ⟨u, e, _, h1 | ⟨d, rfl, h2⟩⟩ := h
  · rw [h1.1, co_none]; intro y hy; cases hy
  · obtain rfl : v = u := by omega
    rw [co_some]; intro y hy; cases hy; exact h2

end Go.Proofs.YtieglcjfphmglaaDoor
