/- face.At, face.together, face.Same, walked. -/
import Derived.Test.YtghpjljnbdjmaaaGreatDoorBface
import Derived.Test.YtghpjljnbdjmaaaGreatDoorBpure
import Derived.Test.YtghpjljnbdjmaaaGreatDoorBtakes
namespace Go.Proofs.YtghpjljnbdjmaaaGreatDoor
open Go.RowKit
set_option linter.unusedVariables false

/-- The dart whose face a corner looks into. -/
noncomputable def fa (V : Nat) (R : Nat → List Nat) (b : Int) : Int := match co b with
  | none => -1
  | some d => (vx V R d : Int)

theorem fa_none (V : Nat) (R : Nat → List Nat) : fa V R (-1) = -1 := by unfold fa; rw [co_none]
theorem fa_some (V : Nat) (R : Nat → List Nat) (d : Nat) : fa V R (d : Int) = (vx V R d : Int) := by unfold fa; rw [co_some]

section
variable {w : World} {lo tb V E : Nat} {R : Nat → List Nat}





open Classical in
/-- By how many steps it comes to v. -/
noncomputable def stp (f : Nat → Nat) (x v : Nat) : Nat := if h : ∃ j, j < Pq.per f x ∧ Pq.it f j x = v then h.choose else 0

theorem stp_is {n : Nat} {f : Nat → Nat} (h : Pq.Pm n f) {x j : Nat} (hx : x < n) (hj : j < Pq.per f x) : stp f x (Pq.it f j x) = j := by
  have he : ∃ i, i < Pq.per f x ∧ Pq.it f i x = Pq.it f j x := ⟨j, hj, rfl⟩
  unfold stp
  rw [dif_pos he]
  exact h.apart hx (h.per_is hx).1 he.choose_spec.1 hj he.choose_spec.2

/-- Gone round, and not met. -/
theorem notmet {n : Nat} {f : Nat → Nat} (h : Pq.Pm n f) {x y j : Nat} (hx : x < n) (hj : Pq.it f (j + 1) x = x) (hn : ∀ i, i ≤ j → Pq.it f i x ≠ y) : ¬ Pq.Of1 f x y := by
  rintro ⟨k, hk⟩
  have hper : ∀ m, Pq.it f (m * (j + 1)) x = x := fun m => by
    induction m with
    | zero => simp [Pq.it]
    | succ m ih => rw [Nat.succ_mul, Pq.it_add, hj, ih]
  have e : Pq.it f k x = Pq.it f (k % (j + 1)) x := by
    conv => lhs; rw [← Nat.mod_add_div k (j + 1), Nat.mul_comm, Pq.it_add, hper]
  exact hn (k % (j + 1)) (by have := Nat.mod_lt k (show 0 < j + 1 by omega); omega) (e.symm.trans hk)

end

/-- Two corners in two blocks. -/
def C2 (s : Nat) (a0 a1 b0 b1 : Int) (y : World) : Prop := y.heap[s]? = some (.cells #[.int .i64 a0, .int .i64 a1] 60 (0, 0)) ∧ y.heap[s + 1]? = some (.cells #[.int .i64 b0, .int .i64 b1] 60 (0, 0))

theorem C2.new (w : World) (a0 a1 b0 b1 : Int) : C2 w.heap.size a0 a1 b0 b1 ((w.alloc (.cells #[.int .i64 a0, .int .i64 a1] 60)).alloc (.cells #[.int .i64 b0, .int .i64 b1] 60)) := by
  refine ⟨(Below.heap_alloc _ _ _ (by simp)).trans (heap_alloc_new w _), ?_⟩
  have := heap_alloc_new (w.alloc (.cells #[.int .i64 a0, .int .i64 a1] 60)) (.cells #[.int .i64 b0, .int .i64 b1] 60)
  simpa using this

theorem C2.below {s : Nat} {a0 a1 b0 b1 : Int} {y y' : World} (h : C2 s a0 a1 b0 b1 y) (hb : Below y.heap.size y y') : C2 s a0 a1 b0 b1 y' :=
  ⟨(hb.block _ (Array.getElem?_eq_some_iff.1 h.1).1).trans h.1, (hb.block _ (Array.getElem?_eq_some_iff.1 h.2).1).trans h.2⟩

theorem C2.cells {s : Nat} {a0 a1 b0 b1 : Int} {y : World} (h : C2 s a0 a1 b0 b1 y) : y.cell? ⟨s, 0, none⟩ = some (.int .i64 a0) ∧ y.cell? ⟨s, 1, none⟩ = some (.int .i64 a1) ∧ y.cell? ⟨s + 1, 0, none⟩ = some (.int .i64 b0) ∧ y.cell? ⟨s + 1, 1, none⟩ = some (.int .i64 b1) := by
  obtain ⟨q0, q1, _, _⟩ := blk2 h.1
  obtain ⟨p0, p1, _, _⟩ := blk2 h.2
  exact ⟨q0, q1, p0, p1⟩

section
variable {w : World} {lo tb V E : Nat} {R : Nat → List Nat}







theorem fa_in (ht : Tn V E R) {u : Nat} {b : Int} (h : Co V R (u : Int) b) : (b = -1 ∧ co b = none ∧ R u = [] ∧ fa V R b = -1) ∨ ∃ d : Nat, b = (d : Int) ∧ co b = some d ∧ d ∈ R u ∧ u < V ∧ fa V R b = (vx V R d : Int) ∧ In V R (vx V R d) := by
  obtain ⟨u', e, hu, ⟨rfl, h1⟩ | ⟨d, rfl, h1⟩⟩ := h
  · obtain rfl : u = u' := by omega
    exact .inl ⟨rfl, co_none, h1, fa_none V R⟩
  · obtain rfl : u = u' := by omega
    exact .inr ⟨d, rfl, co_some d, h1, hu, fa_some V R d, vx_in ⟨u, hu, h1⟩⟩

/-- What both corners' None says of One. -/
theorem one_none {u v : Nat} {a b : Int} (ht : Tn V E R) (ha : Co V R (u : Int) a) (hb : Co V R (v : Int) b) (hn : fa V R a = -1 ∨ fa V R b = -1) : One V R u v (co a) (co b) ↔ (u : Int) = (v : Int) ∧ a = b := by
  rcases fa_in ht ha with ⟨rfl, e1, e2, e3⟩ | ⟨d, rfl, e1, e2, e2', e3, e4⟩
  · rcases fa_in ht hb with ⟨rfl, g1, g2, g3⟩ | ⟨c, rfl, g1, g2, g2', g3, g4⟩
    · rw [e1]
      show u = v ↔ _
      constructor
      · rintro rfl; exact ⟨rfl, rfl⟩
      · intro q; omega
    · rw [e1, g1]
      show False ↔ _
      constructor
      · intro q; exact q.elim
      · intro q; omega
  · rcases fa_in ht hb with ⟨rfl, g1, g2, g3⟩ | ⟨c, rfl, g1, g2, g2', g3, g4⟩
    · rw [e1, g1]
      show False ↔ _
      constructor
      · intro q; exact q.elim
      · intro q; omega
    · rw [e3, g3] at hn
      omega

end
end Go.Proofs.YtghpjljnbdjmaaaGreatDoor
