/- The document's Join, whether it joins or not. -/
import Derived.Test.YtnlbpjppkfenkaaDoorPick9
namespace Go.Proofs.YtnlbpjppkfenkaaDoor
open Go.RowKit
set_option linter.unusedVariables false

theorem rjoin_any (u : Value) (n a b : Nat) (f : Nat → Nat) (w : World) (h : Ls w u n f) (ha : a < n) (hb : b < n) (hn : n ≤ 1000) (hf : ∀ x, f x ≤ x) :
    Calls Tryd.prog 20 #[u, .int .i64 (a : Int), .int .i64 (b : Int)] w fun e w' => ∃ u' t, e = .returned (.tuple #[u', .bool t]) ∧ t = (!decide (f a = f b)) ∧ Ls w' u' n (jn f a b) ∧ Below w.heap.size w w' := by
  by_cases he : f a = f b
  · refine (rjoin_same u n a b f w h ha hb hn he).mono ?_
    rintro e w' ⟨rfl, b1⟩
    exact ⟨u, false, rfl, by rw [decide_eq_true he]; rfl, by rw [jn_same he]; exact h.below b1, b1⟩
  · refine (rjoin_new u n a b f w h ha hb hn he (fun x _ => hf x)).mono ?_
    rintro e w' ⟨u', rfl, h1, b1⟩
    exact ⟨u', true, rfl, by rw [decide_eq_false he]; rfl, h1, b1⟩

theorem bstep {w a b : World} (h : Hid (Below w.heap.size w a)) (k : Below a.heap.size a b) : Hid (Below w.heap.size w b) := h.out.trans (k.mono h.out.size)

end Go.Proofs.YtnlbpjppkfenkaaDoor
