/- The document's Check of a list of vertices, walked. -/
import Derived.Test.YtboafgimjadboaaGreatDoorBface
import Derived.Test.YtboafgimjadboaaGreatDoorBput
import Derived.Test.YtboafgimjadboaaGreatDoorIntsM10
namespace Go.Proofs.YtboafgimjadboaaGreatDoor
open Go.RowKit
set_option linter.unusedVariables false

/-- How often each number was met. -/
def cnt (l : List Nat) : Nat → Nat := fun y => l.count y
def cts (n : Nat) (p : Nat → Nat) : List Value := (List.range n).map (fun i => .int .i64 (p i : Int))
@[simp] theorem cts_length (n : Nat) (p : Nat → Nat) : (cts n p).length = n := by simp [cts]
theorem cts_get {n : Nat} {p : Nat → Nat} {j : Nat} (h : j < n) : (cts n p)[j]? = some (.int .i64 (p j : Int)) := by simp [cts, h]
theorem cts_set (n : Nat) (l : List Nat) (x : Nat) : (cts n (cnt l)).set x (.int .i64 ((cnt l x + 1 : Nat) : Int)) = cts n (cnt (l ++ [x])) := by
  apply List.ext_getElem?
  intro j
  by_cases hj : j < n
  · rw [cts_get hj, List.getElem?_set]
    by_cases e : x = j
    · subst e; simp [cnt, hj]
    · rw [if_neg e, cts_get hj]
      have : (l ++ [x]).count j = l.count j := by simp [e]
      simp [cnt, this]
  · rw [List.getElem?_eq_none (by simp; omega), List.getElem?_eq_none (by simp; omega)]
theorem cts_made (n : Nat) : (madeCells (Value.cells (.int .i64 0)) (n * 1)).toList = cts n (cnt []) := by
  rw [Nat.mul_one]
  show (madeCells #[Value.int .i64 0] n).toList = _
  rw [toList_madeCells_one]
  apply List.ext_getElem?
  intro j
  by_cases hj : j < n
  · rw [cts_get hj]; simp [hj, cnt]
  · rw [List.getElem?_eq_none (by simp; omega), List.getElem?_eq_none (by simp; omega)]

/-- Counts made since w0 began. -/
structure Ct (base : Nat) (w0 w : World) (v : Value) (n : Nat) (l : List Nat) : Prop where
  row : w.ownsRow base 3 1 v n (cts n (cnt l))
  bel : Below base w0 w
  low : base ≤ w0.heap.size

theorem Ct.more {base n : Nat} {w0 w w' : World} {v : Value} {l : List Nat} (h : Ct base w0 w v n l) (hb : Below w.heap.size w w') : Ct base w0 w' v n l :=
  ⟨ownsRow_below h.row hb, h.bel.trans (hb.mono (Nat.le_trans h.low h.bel.size)), h.low⟩


/-- What Check tells of a list. -/
def Ck12 (V : Nat) (R : Nat → List Nat) (zs : List Int) (c : Int) : Prop := (c = 12 ∧ ∃ x, x ∈ zs ∧ (x < 0 ∨ (V : Int) ≤ x)) ∨ ∃ l : List Nat, zs = l.map (fun x : Nat => (x : Int)) ∧ (∀ x, x ∈ l → x < V) ∧ ((c = 20 ∧ ¬ l.Nodup) ∨ (l.Nodup ∧ ((c = 13 ∧ ∃ v, v < V ∧ R v ≠ [] ∧ v ∉ l) ∨ (c = 0 ∧ ∀ v, v < V → R v ≠ [] → v ∈ l))))

theorem int_list {V : Nat} {zs : List Int} (h : ∀ x, x ∈ zs → ¬ (x < 0 ∨ (V : Int) ≤ x)) : ∃ l : List Nat, zs = l.map (fun x : Nat => (x : Int)) ∧ ∀ x, x ∈ l → x < V := by
  refine ⟨zs.map Int.toNat, ?_, fun x hx => ?_⟩
  · rw [List.map_map]
    conv => lhs; rw [← List.map_id zs]
    refine List.map_congr_left (fun x hx => ?_)
    have := h x hx
    show x = ((x.toNat : Nat) : Int)
    omega
  · obtain ⟨y, hy, rfl⟩ := List.mem_map.1 hx
    have := h y hy
    omega



end Go.Proofs.YtboafgimjadboaaGreatDoor
