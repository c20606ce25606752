/- Where a law over Turns and the document's turns stands (the seat without 'do'). -/
import Derived.Test.YtegljhbjjdfhiaaLift10
import Derived.Test.YtegljhbjjdfhiaaLaid10
import Derived.Test.YtegljhbjjdfhiaaLibL10
import Derived.Test.YtegljhbjjdfhiaaOpen10
namespace Go.Proofs.Ytegljhbjjdfhiaa
open Go.RowKit
set_option linter.unusedVariables false

/-- The two, side by side. -/
structure Bo (w : World) (lo tb : Nat) (xv : Value) (V E F : Nat) (R : Nat → List Nat) : Prop where
  ta : TA w lo tb V E R
  rt : RT w xv F V R
  tn : Tn V F R
  tw : Tw V F R
  le : F ≤ E

/-- An act's cells as a value. -/
abbrev acv (q : Ac) : Value := .agg #[.int .i64 q.k, .int .i64 q.e, .int .i64 q.a0, .int .i64 q.a1, .int .i64 q.b0, .int .i64 q.b1]

theorem Bo.more {w w' : World} {lo tb : Nat} {xv : Value} {V E F : Nat} {R : Nat → List Nat} (h : Bo w lo tb xv V E F R) (hb : Below w.heap.size w w') : Bo w' lo tb xv V E F R := ⟨h.ta.more hb, h.rt.below hb, h.tn, h.tw, h.le⟩

theorem TA.keepT {w w' : World} {lo tb V E : Nat} {R : Nat → List Nat} (h : TA w lo tb V E R) (hk : ∀ b, Mi w b → w'.heap[b]? = w.heap[b]?) : TA w' lo tb V E R := by
  obtain ⟨dv, sv, K, M, D, S, h1, h2⟩ := h
  exact ⟨dv, sv, K, M, D, S, h1.of (hk tb (.inl h1.ty)) (fun k hk' => hk k (.inr (.inl (h1.dty hk')))) (fun k hk' => hk k (.inr (.inr (h1.sty hk')))), h2⟩

theorem Mi.ne {w : World} {b g : Nat} {t : TypeId} (h : Mi w b) (hg : Ty w g t) (h1 : t ≠ 60) (h2 : t ≠ 81) (h3 : t ≠ 86) : b ≠ g := fun e => by
  subst e
  rcases h with h | h | h
  · exact h1 (hg.uniq h)
  · exact h2 (hg.uniq h)
  · exact h3 (hg.uniq h)

theorem TA.set2 {w : World} {lo tb V E g : Nat} {R : Nat → List Nat} (h : TA w lo tb V E R) (hg : Ty w g 34) (p q : Value) : TA ((w.setCell ⟨g, 0, none⟩ p).setCell ⟨g, 1, none⟩ q) lo tb V E R :=
  h.keepT (fun b hb => by
    have hne := hb.ne hg (by decide) (by decide) (by decide)
    rw [Below.heap_setCell _ _ _ _ hne, Below.heap_setCell _ _ _ _ hne])

theorem al_keep {y : World} {b : Nat} {o o' : Obj} (h : y.heap[b]? = some o) : (y.alloc o').heap[b]? = some o := (Below.heap_alloc _ _ _ (Array.getElem?_eq_some_iff.1 h).1).trans h
abbrev zp : Obj := .cells #[.int .i64 0, .int .i64 0] 23 (0, 0)

/-- Both, the document's in the variable at g, made since w. -/
def Ls (w : World) (tb g V E F : Nat) (R : Nat → List Nat) (wr : World) : Prop := ∃ ad cap, Bo wr w.heap.size tb (.agg #[.int .i64 (F : Int), .slice ad V cap]) V E F R ∧ wr.heap[g]? = some (.cells #[.int .i64 (F : Int), .slice ad V cap] 34 (0, 0)) ∧ w.heap.size ≤ g ∧ Below w.heap.size w wr

theorem Ls.more {w wr w' : World} {tb g V E F : Nat} {R : Nat → List Nat} (h : Ls w tb g V E F R wr) (hb : Below wr.heap.size wr w') : Ls w tb g V E F R w' := by
  obtain ⟨ad, cap, h1, h2, h3, h4⟩ := h
  exact ⟨ad, cap, h1.more hb, (hb.block _ (Array.getElem?_eq_some_iff.1 h2).1).trans h2, h3, h4.trans (hb.mono h4.size)⟩

/-- The first state: New, and the document's New. -/
theorem Ls.new {w w2 : World} {tb V E F : Nat} {xv : Value} (ht : TA w2 w.heap.size tb V E (fun _ => [])) (hb : Below w.heap.size w w2) (hx : RT w2 xv F V (fun _ => [])) (hle : F ≤ E) : ∃ ad cap, xv = .agg #[.int .i64 (F : Int), .slice ad V cap] ∧ Ls w tb w2.heap.size V E F (fun _ => []) (w2.alloc (.cells #[.int .i64 (F : Int), .slice ad V cap] 34)) := by
  obtain ⟨lv, rfl, hr⟩ := hx
  have hr' := hr
  obtain ⟨ad, cap, rfl, _⟩ := hr'
  have b := balloc w2 (.cells #[.int .i64 (F : Int), .slice ad V cap] 34)
  exact ⟨ad, cap, rfl, ad, cap, ⟨ht.more b, ⟨_, rfl, hr.below b⟩, Tn.new V F, Tw.new V F, hle⟩, heap_alloc_new _ _, hb.size, hb.alloc hb.size _⟩

/-- The variable takes the new value. -/
theorem Ls.store {w w2 : World} {tb g V E F : Nat} {R : Nat → List Nat} {ad : Option Addr} {cap : Nat} {u v : Value} (hb : Bo w2 w.heap.size tb (.agg #[.int .i64 (F : Int), .slice ad V cap]) V E F R) (hg : w2.heap[g]? = some (.cells #[u, v] 34 (0, 0))) (hl : w.heap.size ≤ g) (hbb : Below w.heap.size w w2) : Ls w tb g V E F R ((w2.setCell ⟨g, 0, none⟩ (.int .i64 (F : Int))).setCell ⟨g, 1, none⟩ (.slice ad V cap)) :=
  ⟨ad, cap, ⟨hb.ta.set2 ⟨_, _, hg⟩ _ _, hb.rt.al (set2_al hg _ _), hb.tn, hb.tw, hb.le⟩, set2_block hg _ _, hl, below2 hbb hl _ _⟩

theorem mod_up (n M : Int) (h1 : 1 ≤ M) (h2 : M ≤ 1000000) : ∃ K : Nat, wrap64 (1 + wrap64 ((IntKind.u64.wrap n).tmod M)) = (K : Int) ∧ 1 ≤ K ∧ (K : Int) ≤ M := by
  obtain ⟨a, ha, hlt, _⟩ := mod_inN n M.toNat (by omega) (by omega)
  rw [show ((M.toNat : Nat) : Int) = M from by omega] at ha
  refine ⟨1 + a, ?_, by omega, by omega⟩
  rw [ha, IntWalk.wrap64_in _ ⟨by omega, by omega⟩]
  omega

/-- An act's cells, as the walk asks them. -/
theorem AV.six {w w' : World} {v : Value} {l : List Ac} (h : AV w v l) (hb : Below w.heap.size w w') {j : Nat} {q : Ac} (hq : l[j]? = some q) : ∃ b o n cap, v = .slice (some ⟨b, o, none⟩) n cap ∧ b < w.heap.size ∧ w'.cell? ⟨b, o + j * 6, none⟩ = some (.int .i64 q.k) ∧ w'.cell? ⟨b, o + j * 6 + 1, none⟩ = some (.int .i64 q.e) ∧ w'.cell? ⟨b, o + j * 6 + 2, none⟩ = some (.int .i64 q.a0) ∧ w'.cell? ⟨b, o + j * 6 + 3, none⟩ = some (.int .i64 q.a1) ∧ w'.cell? ⟨b, o + j * 6 + 4, none⟩ = some (.int .i64 q.b0) ∧ w'.cell? ⟨b, o + j * 6 + 5, none⟩ = some (.int .i64 q.b1) := by
  have h0 := h
  obtain ⟨ad, n, cap, rfl, hl, _, _, hc⟩ := h
  obtain ⟨b, o, rfl, c0, _⟩ := hc j q hq
  have hlt := World.block_lt_of_cell? _ _ c0
  obtain ⟨ad', n', cap', e, _, _, _, hc'⟩ := h0.below hb
  simp only [Value.slice.injEq] at e
  obtain ⟨rfl, _, _⟩ := e
  obtain ⟨b', o', e, k0, k1, k2, k3, k4, k5⟩ := hc' j q hq
  cases e
  exact ⟨b, o, n, cap, rfl, hlt, k0, k1, k2, k3, k4, k5⟩

theorem Ls.ta {w y : World} {tb g V E F : Nat} {R : Nat → List Nat} (h : Ls w tb g V E F R y) : TA y w.heap.size tb V E R := by
  obtain ⟨_, _, hbo, _⟩ := h
  exact hbo.ta
theorem Ls.bel {w y : World} {tb g V E F : Nat} {R : Nat → List Nat} (h : Ls w tb g V E F R y) : Below w.heap.size w y := by
  obtain ⟨_, _, _, _, _, hb⟩ := h
  exact hb
theorem Ls.tn {w y : World} {tb g V E F : Nat} {R : Nat → List Nat} (h : Ls w tb g V E F R y) : Tn V F R := by
  obtain ⟨_, _, hbo, _⟩ := h
  exact hbo.tn
theorem Ls.tw {w y : World} {tb g V E F : Nat} {R : Nat → List Nat} (h : Ls w tb g V E F R y) : Tw V F R := by
  obtain ⟨_, _, hbo, _⟩ := h
  exact hbo.tw
/-- The document's turns, and where they lie. -/
theorem Ls.rt {w y : World} {tb g V E F : Nat} {R : Nat → List Nat} (h : Ls w tb g V E F R y) : ∃ ad cap, RT y (.agg #[.int .i64 (F : Int), .slice ad V cap]) F V R ∧ y.cell? ⟨g, 0, none⟩ = some (.int .i64 (F : Int)) ∧ y.cell? ⟨g, 1, none⟩ = some (.slice ad V cap) := by
  obtain ⟨ad, cap, hbo, hg, _⟩ := h
  obtain ⟨c0, c1, _, _⟩ := blk2 hg
  exact ⟨ad, cap, hbo.rt, c0, c1⟩

theorem len16 {V : Nat} {R : Nat → List Nat} (h : Tn V 8 R) : ∀ u, u < V → (R u).length ≤ 1000 := fun u hu => by
  have := h.len hu
  omega

theorem two_at {g : Nat} {a b : Value} {y : World} (h0 : y.cell? ⟨g, 0, none⟩ = some a) (h1 : y.cell? ⟨g, 1, none⟩ = some b) : ∀ z, Below y.heap.size y z → z.cell? ⟨g, 0, none⟩ = some a ∧ z.cell? ⟨g, 1, none⟩ = some b := fun z hz =>
  ⟨(hz.cell (World.block_lt_of_cell? _ _ h0)).trans h0, (hz.cell (World.block_lt_of_cell? _ _ h1)).trans h1⟩

end Go.Proofs.Ytegljhbjjdfhiaa
