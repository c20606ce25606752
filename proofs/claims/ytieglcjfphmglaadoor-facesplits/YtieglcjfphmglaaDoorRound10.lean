/- The document's Round, walked. -/
import Derived.Test.YtieglcjfphmglaaDoorNext10
namespace Go.Proofs.YtieglcjfphmglaaDoor
open Go.RowKit
set_option linter.unusedVariables false

/-- Numbers as cells. -/
def ncs (l : List Nat) : List Value := l.map (fun i : Nat => .int .i64 (i : Int))
@[simp] theorem ncs_length (l : List Nat) : (ncs l).length = l.length := by simp [ncs]
theorem ncs_append (a b : List Nat) : ncs (a ++ b) = ncs a ++ ncs b := by simp [ncs]

/-- A row of one's own is to be read. -/
theorem nl_of {base : Nat} {w : World} {v : Value} {l : List Nat} (h : w.ownsRow base 3 1 v l.length (ncs l)) : NL w v l := by
  rcases h.2 with ⟨rfl, h0⟩ | ⟨g, cap, cur, rfl, _, hg, h1, h2, _⟩
  · have : l = [] := List.eq_nil_of_length_eq_zero h0
    subst this
    exact ⟨none, 0, 0, rfl, rfl, ⟨Nat.le_refl _, fun _ => rfl, fun a e => by cases e⟩, Nat.zero_le _, fun j x hx => by simp at hx⟩
  · refine ⟨some ⟨g, 0, none⟩, l.length, cap, rfl, rfl, ⟨h1, (fun e => by cases e), fun a e => ⟨g, 0, (Option.some.inj e).symm, _, _, hg⟩⟩, h2, fun j x hx => ⟨g, 0, rfl, ?_⟩⟩
    have hj := (List.getElem?_eq_some_iff.1 hx).1
    rw [Nat.zero_add, h.cellAt j (by omega)]
    simp [ncs, hx]

theorem one_new (w : World) (u : Value) (t : TypeId) : ∀ j x, ([u] : List Value)[j]? = some x → (w.alloc (.cells #[u] t)).cell? ((⟨w.heap.size, 0, none⟩ : Addr).add j) = some x := by
  intro j x hx
  rw [add_zero, Nat.zero_add]
  have hn := heap_alloc_new w (.cells #[u] t)
  unfold World.cell?
  rw [hn]
  simpa using hx

/-- The least of the first ones. -/
def Lo (l : List Nat) (j a : Nat) : Prop := (j = 0 ∧ a = 0) ∨ ∃ x, a < j ∧ l[a]? = some x ∧ ∀ (k y : Nat), k < j → l[k]? = some y → x ≤ y

theorem Lo.least {l : List Nat} {a : Nat} (h : Lo l l.length a) (hne : l ≠ []) : l[a]? = some (least0 l) := by
  rcases h with ⟨h0, _⟩ | ⟨x, h1, h2, h3⟩
  · exact absurd (List.eq_nil_of_length_eq_zero h0) hne
  · obtain ⟨k, hk⟩ := List.getElem?_of_mem (least0_mem l hne)
    have q1 := h3 k _ (List.getElem?_eq_some_iff.1 hk).1 hk
    have q2 := least0_le l x (List.mem_of_getElem? h2)
    rw [h2]
    congr 1
    omega



end Go.Proofs.YtieglcjfphmglaaDoor
