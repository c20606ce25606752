/- The document's Flat, walked. -/
import Derived.Test.YtboafgimjadboabGreatDoorRCountW12
import Derived.Test.YtboafgimjadboabGreatDoorRegion
import Derived.Deep.CutBlock
namespace Go.Proofs.YtboafgimjadboabGreatDoor
open Go.RowKit
set_option linter.unusedVariables false

/-- What Flat asks of a component, by its own vertex. -/
def flA (V E : Nat) (R : Nat → List Nat) (l : List Nat) (c : Nat) (P : Nat → Bool) : Prop := (k0 P l : Int) - (evl P R l : Int) + ((k2 P R l + (fcs V R (2 * E)).countP (fun f => P (og V R (f.headD 0))) : Nat) : Int) = 2

open Classical in
/-- A component's vertices. -/
noncomputable def Pc (V E : Nat) (R : Nat → List Nat) (c : Nat) : Nat → Bool := fun v => decide (lb V E R v = c)

theorem k0_le (P : Nat → Bool) (l : List Nat) : k0 P l ≤ l.length := List.countP_le_length
theorem k2_le (P : Nat → Bool) (R : Nat → List Nat) (l : List Nat) : k2 P R l ≤ l.length := List.countP_le_length
theorem evl_bd (P : Nat → Bool) (R : Nat → List Nat) : ∀ l : List Nat, (∀ x, x ∈ l → (R x).length ≤ 100) → evl P R l ≤ 100 * l.length
  | [], _ => by simp [evl]
  | x :: l, h => by
    have := evl_bd P R l (fun y hy => h y (List.mem_cons_of_mem _ hy))
    have h2 : ev (R x) ≤ (R x).length := List.countP_le_length
    have h3 := h x List.mem_cons_self
    simp only [evl, List.length_cons]
    split <;> omega



end Go.Proofs.YtboafgimjadboabGreatDoor
