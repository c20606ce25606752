/- Where a law over Turns and the document's turns stands. -/
import Derived.Test.YtghpjljnbdjmaaaGreatDoorDoL10
namespace Go.Proofs.YtghpjljnbdjmaaaGreatDoor
open Go.RowKit
set_option linter.unusedVariables false

theorem At.notin {V : Nat} {R : Nat → List Nat} {k : Nat} {r s : Int} (hin : ¬ In V R k) (hat : At V R (k : Int) r s) : r = -1 ∧ s = -1 := by
  refine At.none (fun u hu x hx hxe => hin ⟨u, hu, ?_⟩) hat
  obtain rfl : x = k := by omega
  exact hx

/-- Both, the document's in the variable at g, made since w. -/
def Ls (w : World) (tb g V E F : Nat) (R : Nat → List Nat) (wr : World) : Prop := ∃ ad cap, Bo wr w.heap.size tb (.agg #[.int .i64 (F : Int), .slice ad V cap]) V E F R ∧ wr.heap[g]? = some (.cells #[.int .i64 (F : Int), .slice ad V cap] 27 (0, 0)) ∧ w.heap.size ≤ g ∧ Below w.heap.size w wr

theorem Ls.more {w wr w' : World} {tb g V E F : Nat} {R : Nat → List Nat} (h : Ls w tb g V E F R wr) (hb : Below wr.heap.size wr w') : Ls w tb g V E F R w' := by
  obtain ⟨ad, cap, h1, h2, h3, h4⟩ := h
  exact ⟨ad, cap, h1.more hb, (hb.block _ (Array.getElem?_eq_some_iff.1 h2).1).trans h2, h3, h4.trans (hb.mono h4.size)⟩

/-- The first state: New, and the document's New. -/
theorem Ls.new {w w2 : World} {tb V E F : Nat} {xv : Value} (ht : TA w2 w.heap.size tb V E (fun _ => [])) (hb : Below w.heap.size w w2) (hx : RT w2 xv F V (fun _ => [])) (hle : F ≤ E) : ∃ ad cap, xv = .agg #[.int .i64 (F : Int), .slice ad V cap] ∧ Ls w tb w2.heap.size V E F (fun _ => []) (w2.alloc (.cells #[.int .i64 (F : Int), .slice ad V cap] 27)) := by
  obtain ⟨lv, rfl, hr⟩ := hx
  have hr' := hr
  obtain ⟨ad, cap, rfl, _⟩ := hr'
  have b := balloc w2 (.cells #[.int .i64 (F : Int), .slice ad V cap] 27)
  exact ⟨ad, cap, rfl, ad, cap, ⟨ht.more b, ⟨_, rfl, hr.below b⟩, Tn.new V F, Tw.new V F, hle⟩, heap_alloc_new _ _, hb.size, hb.alloc hb.size _⟩

/-- The variable takes the new value. -/
theorem Ls.store {w w2 : World} {tb g V E F : Nat} {R : Nat → List Nat} {ad : Option Addr} {cap : Nat} {u v : Value} (hb : Bo w2 w.heap.size tb (.agg #[.int .i64 (F : Int), .slice ad V cap]) V E F R) (hg : w2.heap[g]? = some (.cells #[u, v] 27 (0, 0))) (hl : w.heap.size ≤ g) (hbb : Below w.heap.size w w2) : Ls w tb g V E F R ((w2.setCell ⟨g, 0, none⟩ (.int .i64 (F : Int))).setCell ⟨g, 1, none⟩ (.slice ad V cap)) :=
  ⟨ad, cap, ⟨hb.ta.set2 ⟨_, _, hg⟩ _ _, hb.rt.al (set2_al hg _ _), hb.tn, hb.tw, hb.le⟩, set2_block hg _ _, hl, below2 hbb hl _ _⟩

theorem mod_up (n M : Int) (h1 : 1 ≤ M) (h2 : M ≤ 1000000) : ∃ K : Nat, wrap64 (1 + wrap64 ((IntKind.u64.wrap n).tmod M)) = (K : Int) ∧ 1 ≤ K ∧ (K : Int) ≤ M := by
  obtain ⟨a, ha, hlt, _⟩ := mod_inN n M.toNat (by omega) (by omega)
  rw [show ((M.toNat : Nat) : Int) = M from by omega] at ha
  refine ⟨1 + a, ?_, by omega, by omega⟩
  rw [ha, IntWalk.wrap64_in _ ⟨by omega, by omega⟩]
  omega

/-- An act's cells, as the walk asks them. -/
theorem AV.six {w w' : World} {v : Value} {l : List Ac} (h : AV w v l) (hb : Below w.heap.size w w') {j : Nat} {q : Ac} (hq : l[j]? = some q) : ∃ b o n cap, v = .slice (some ⟨b, o, none⟩) n cap ∧ b < w.heap.size ∧ w'.cell? ⟨b, o + j * 6, none⟩ = some (.int .i64 q.k) ∧ w'.cell? ⟨b, o + j * 6 + 1, none⟩ = some (.int .i64 q.e) ∧ w'.cell? ⟨b, o + j * 6 + 2, none⟩ = some (.int .i64 q.a0) ∧ w'.cell? ⟨b, o + j * 6 + 3, none⟩ = some (.int .i64 q.a1) ∧ w'.cell? ⟨b, o + j * 6 + 4, none⟩ = some (.int .i64 q.b0) ∧ w'.cell? ⟨b, o + j * 6 + 5, none⟩ = some (.int .i64 q.b1) := by
  have h0 := h
  obtain ⟨ad, n, cap, rfl, hl, _, _, hc⟩ := h
  obtain ⟨b, o, rfl, c0, _⟩ := hc j q hq
  have hlt := World.block_lt_of_cell? _ _ c0
  obtain ⟨ad', n', cap', e, _, _, _, hc'⟩ := h0.below hb
  simp only [Value.slice.injEq] at e
  obtain ⟨rfl, _, _⟩ := e
  obtain ⟨b', o', e, k0, k1, k2, k3, k4, k5⟩ := hc' j q hq
  cases e
  exact ⟨b, o, n, cap, rfl, hlt, k0, k1, k2, k3, k4, k5⟩

end Go.Proofs.YtghpjljnbdjmaaaGreatDoor
