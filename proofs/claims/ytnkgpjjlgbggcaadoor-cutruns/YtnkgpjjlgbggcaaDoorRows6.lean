/- Rows of nodes, to be read; what stands beside what on a road. -/
import Derived.Test.YtnkgpjjlgbggcaaDoorFew6
namespace Go.Proofs.YtnkgpjjlgbggcaaDoor
open Go.RowKit
set_option linter.unusedVariables false

/-- The block holds these nodes. -/
def RB (w : World) (g : Nat) (l : List Nat) : Prop := w.heap[g]? = some (.cells (l.map itm).toArray 3 (0, 0))
theorem RB.keep {w w' : World} {g : Nat} {l : List Nat} (h : RB w g l) (k : Keep w w') : RB w' g l := k g _ _ _ h (by decide) (by decide)
theorem RB.more {w w' : World} {g : Nat} {l : List Nat} (h : RB w g l) (hb : Below w.heap.size w w') : RB w' g l := h.keep (Keep.ofBelow hb)
theorem RB.cell {w : World} {g : Nat} {l : List Nat} (h : RB w g l) {j d : Nat} (hd : l[j]? = some (d + 1)) : w.cell? ⟨g, j, none⟩ = some (.int .i64 (d : Int)) := by
  unfold World.cell?
  rw [show w.heap[g]? = _ from h]
  simp [hd, itm]

theorem Wk.at {adj : Nat → Nat → Prop} {a b : Nat} {l : List Nat} (h : Wk adj a b l) : ∀ (j p q : Nat), l[j]? = some p → l[j + 1]? = some q → adj p q := by
  induction h with
  | one a _ => intro j p q _ h2; simp at h2
  | step a c b l _ hac hk ih =>
    intro j p q h1 h2
    cases j with
    | zero =>
      obtain ⟨m, e, _⟩ := hk.head
      rw [e] at h2
      simp at h1 h2
      subst h1; subst h2
      exact hac
    | succ j => exact ih j p q (by simpa using h1) (by simpa using h2)

theorem Wk.last_at {adj : Nat → Nat → Prop} {a b : Nat} {l : List Nat} (h : Wk adj a b l) : l[0]? = some a ∧ l[l.length - 1]? = some b ∧ 1 ≤ l.length := by
  obtain ⟨m, e, e2⟩ := h.head
  obtain ⟨l0, e3⟩ := split_last 0 l h.last.1
  rw [h.last.2] at e3
  refine ⟨by rw [e]; rfl, by rw [e3]; simp, by rw [e]; simp⟩

end Go.Proofs.YtnkgpjjlgbggcaaDoor
