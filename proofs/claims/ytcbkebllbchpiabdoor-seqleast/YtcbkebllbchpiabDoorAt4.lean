/- 'At', walked. -/
import Derived.Test.YtcbkebllbchpiabDoorList4
import Derived.Deep.RegionHeld3
namespace Go.Proofs.YtcbkebllbchpiabDoor
open Go.RowKit
set_option linter.unusedVariables false

/-- The closure's variables: the Forest, and how many are still to be passed over. -/
def FBox (w : World) (b fb : Nat) : Prop := w.heap[b]? = some (.cells #[.pointer (some ⟨fb, 0, none⟩)] 24 (0, 0))
def IBox (w : World) (b : Nat) (z : Int) : Prop := w.heap[b]? = some (.cells #[.int .i64 z] 3 (0, 0))

theorem FBox.keep {w w' : World} {b fb : Nat} (h : FBox w b fb) (k : Keep w w') : FBox w' b fb := k b _ _ _ h (by decide) (by decide)
theorem IBox.keep {w w' : World} {b : Nat} {z : Int} (h : IBox w b z) (k : Keep w w') : IBox w' b z := k b _ _ _ h (by decide) (by decide)
theorem FBox.cell {w : World} {b fb : Nat} (h : FBox w b fb) : w.cell? ⟨b, 0, none⟩ = some (.pointer (some ⟨fb, 0, none⟩)) := by unfold World.cell?; rw [h]; simp
theorem IBox.cell {w : World} {b : Nat} {z : Int} (h : IBox w b z) : w.cell? ⟨b, 0, none⟩ = some (.int .i64 z) := by unfold World.cell?; rw [h]; simp
theorem IBox.fro {w : World} {b : Nat} {z : Int} (h : IBox w b z) : w.frozen? ⟨b, 0, none⟩ = false := by unfold World.frozen?; rw [h]; simp

section
variable {lo fb n nb N : Nat} {w w0 wr : World} {T : Tb} {v : Nat → Int} {sub seq : Nat → List Nat}

theorem HS.setI (h : HS lo w w0 fb n nb N T v sub seq wr) {b : Nat} {z : Int} (hb : IBox wr b z) (h0 : w0.heap.size ≤ b) (hlo : lo ≤ b) (z' : Int) : HS lo w w0 fb n nb N T v sub seq (wr.setCell ⟨b, 0, none⟩ (.int .i64 z')) ∧ IBox (wr.setCell ⟨b, 0, none⟩ (.int .i64 z')) b z' ∧ (∀ k fb', FBox wr k fb' → FBox (wr.setCell ⟨b, 0, none⟩ (.int .i64 z')) k fb') := by
  have ht : Turned (fun k => k = b) wr (wr.setCell ⟨b, 0, none⟩ (.int .i64 z')) := (Turned.refl (fun k => k = b) wr).setCell (p := ⟨b, 0, none⟩) rfl _
  have nf : fb ≠ b := fun e => by
    have := h.fo.self
    rw [e, hb] at this
    injection this with this; injection this with _ this; exact absurd this (by decide)
  have nn : nb ≠ b := fun e => by
    have := h.fo.nodes
    rw [e, hb] at this
    injection this with this; injection this with _ this; exact absurd this (by decide)
  refine ⟨⟨h.fo.of ht nf nn, h.gd, h.hN, h.nlo, h.flo, h.below.trans (ht.below (fun j hj => by rw [hj]; exact hlo) (Nat.le_trans h.lw h.below.size)), h.n1, h.n2, h.lw, fun k cs t fr hk h1 h2 => ?_⟩, ?_, fun k fb' hk => ?_⟩
  · have h3 := h.keep k cs t fr hk h1 h2
    have := (Array.getElem?_eq_some_iff.1 hk).1
    rw [Below.heap_setCell _ _ _ _ (by simp; omega)]
    exact h3
  · unfold IBox World.setCell
    rw [Array.getElem?_modify, if_pos rfl, hb]
    simp
  · unfold FBox
    rw [Below.heap_setCell _ _ _ _ (fun e => by
      have e : k = b := e
      have hk' : wr.heap[k]? = _ := hk
      rw [e, hb] at hk'
      injection hk' with hk'; injection hk' with _ hk'; exact absurd hk' (by decide))]
    exact hk









end

end Go.Proofs.YtcbkebllbchpiabDoor
