/- The document's Lay, walked. -/
import Derived.Test.YtboafgimjadboaaGreatDoorBput
import Derived.Test.YtboafgimjadboaaGreatDoorPut10
import Derived.Deep.CutBlock
namespace Go.Proofs.YtboafgimjadboaaGreatDoor
open Go.RowKit
set_option linter.unusedVariables false

/-- What Lay keeps: its arguments in blocks of their own, and the answer's. -/
def Fk (s : Nat) (E : Nat) (lv : Value) (a0 a1 b0 b1 : Int) (y : World) : Prop :=
  y.heap[s]? = some (.cells #[.int .i64 (E : Int), lv] 76 (0, 0)) ∧ y.heap[s + 1]? = some (.cells #[.int .i64 a0, .int .i64 a1] 197 (0, 0)) ∧ y.heap[s + 2]? = some (.cells #[.int .i64 b0, .int .i64 b1] 197 (0, 0)) ∧ y.heap[s + 3]? = some (.cells #[.int .i64 0, .slice none 0 0] 76 (0, 0))

theorem Fk.below {s E : Nat} {lv : Value} {a0 a1 b0 b1 : Int} {y y' : World} (h : Fk s E lv a0 a1 b0 b1 y) (hb : Below y.heap.size y y') : Fk s E lv a0 a1 b0 b1 y' := by
  obtain ⟨h1, h2, h3, h4⟩ := h
  have k : ∀ {g : Nat} {o : Obj}, y.heap[g]? = some o → y'.heap[g]? = some o := fun {g o} hg => (hb.block g (Array.getElem?_eq_some_iff.1 hg).1).trans hg
  exact ⟨k h1, k h2, k h3, k h4⟩

theorem Fk.new (w : World) (E : Nat) (lv : Value) (a0 a1 b0 b1 : Int) : Fk w.heap.size E lv a0 a1 b0 b1 ((((w.alloc (.cells #[.int .i64 (E : Int), lv] 76)).alloc (.cells #[.int .i64 a0, .int .i64 a1] 197)).alloc (.cells #[.int .i64 b0, .int .i64 b1] 197)).alloc (.cells #[.int .i64 0, .slice none 0 0] 76)) := by
  obtain ⟨w1, hw1⟩ : ∃ w1, w.alloc (.cells #[.int .i64 (E : Int), lv] 76) = w1 := ⟨_, rfl⟩
  have s1 : w1.heap.size = w.heap.size + 1 := by rw [← hw1]; exact World.size_alloc _ _
  have h1 : w1.heap[w.heap.size]? = some (.cells #[.int .i64 (E : Int), lv] 76 (0, 0)) := by rw [← hw1]; exact heap_alloc_new w _
  rw [hw1]
  obtain ⟨w2, hw2⟩ : ∃ w2, w1.alloc (.cells #[.int .i64 a0, .int .i64 a1] 197) = w2 := ⟨_, rfl⟩
  have s2 : w2.heap.size = w.heap.size + 2 := by rw [← hw2, World.size_alloc, s1]
  have h2 : w2.heap[w.heap.size + 1]? = some (.cells #[.int .i64 a0, .int .i64 a1] 197 (0, 0)) := by rw [← hw2, ← s1]; exact heap_alloc_new w1 _
  have b2 : Below w1.heap.size w1 w2 := by rw [← hw2]; exact balloc _ _
  rw [hw2]
  obtain ⟨w3, hw3⟩ : ∃ w3, w2.alloc (.cells #[.int .i64 b0, .int .i64 b1] 197) = w3 := ⟨_, rfl⟩
  have s3 : w3.heap.size = w.heap.size + 3 := by rw [← hw3, World.size_alloc, s2]
  have h3 : w3.heap[w.heap.size + 2]? = some (.cells #[.int .i64 b0, .int .i64 b1] 197 (0, 0)) := by rw [← hw3, ← s2]; exact heap_alloc_new w2 _
  have b3 : Below w2.heap.size w2 w3 := by rw [← hw3]; exact balloc _ _
  rw [hw3]
  have b4 := balloc w3 (.cells #[.int .i64 0, .slice none 0 0] 76)
  have h4 := heap_alloc_new w3 (.cells #[.int .i64 0, .slice none 0 0] 76)
  rw [s3] at h4
  refine ⟨?_, ?_, ?_, h4⟩
  · rw [b4.block _ (by omega), b3.block _ (by omega), b2.block _ (by omega)]; exact h1
  · rw [b4.block _ (by omega), b3.block _ (by omega)]; exact h2
  · rw [b4.block _ (by omega)]; exact h3



theorem Co.bh {V : Nat} {R : Nat → List Nat} {v : Nat} {b : Int} (h : Co V R (v : Int) b) : b = -1 ∨ 0 ≤ b := by
  obtain ⟨u, e, _, h1 | ⟨d, rfl, h2⟩⟩ := h
  · exact .inl h1.1
  · exact .inr (by omega)



end Go.Proofs.YtboafgimjadboaaGreatDoor
