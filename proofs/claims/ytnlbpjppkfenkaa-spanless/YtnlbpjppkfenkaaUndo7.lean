/- 'undo', walked: the last join taken back. -/
import Derived.Test.YtnlbpjppkfenkaaReach7
import Derived.Deep.CutBlock
import Derived.Deep.QuietTactic
import Derived.BigQuiet
namespace Go.Proofs.Ytnlbpjppkfenkaa
open Go.RowKit
set_option linter.unusedVariables false

/-- Inside 'undo': the Groups, what has turned since w, the box. -/
structure UG (w wx : World) (gb n K g mcap : Nat) (jv jv' : Value) (T : Tb) (js : List (Nat × Nat)) (u l : Nat) : Prop where
  gr : Gr wx gb (.slice (some ⟨g, 0, none⟩) K mcap) jv' n K T js
  tu : Turned (own gb (.slice (some ⟨g, 0, none⟩) K mcap) jv) w wx
  b0 : wx.heap[w.heap.size]? = some (.cells #[.int .i32 (u : Int), .int .i32 (l : Int)] 78 (0, 0))
  fj : Fresh w jv jv'
  gl : g < w.heap.size

theorem UG.drew {w wx : World} {gb n K g mcap : Nat} {jv jv' : Value} {T : Tb} {js : List (Nat × Nat)} {u l : Nat} (h : UG w wx gb n K g mcap jv jv' T js u l) : UG w wx.drew gb n K g mcap jv jv' T js u l := ⟨h.gr.more (Below.refl _ _).drew, h.tu.drew, h.b0, h.fj, h.gl⟩

theorem UG.set {w wx : World} {gb n K g mcap : Nat} {jv jv' : Value} {T : Tb} {js : List (Nat × Nat)} {u l : Nat} (h : UG w wx gb n K g mcap jv jv' T js u l) {i : Nat} (k : Nat) {x : Value} (n' : Mb) (hi : i < K) (hk : k < 3) (hn : nc n' = (nc (T i)).set k x) :
    UG w (wx.setCell ⟨g, i * 3 + k, none⟩ x) gb n K g mcap jv jv' (upd T i n') js u l := by
  refine ⟨h.gr.set k n' hi hk hn, ?_, ?_, h.fj, h.gl⟩
  · exact h.tu.setCell (p := ⟨g, i * 3 + k, none⟩) (Or.inr (Or.inl rfl)) x
  · exact (Below.heap_setCell _ _ _ _ (fun e => by have := h.gl; simp at e; omega)).trans h.b0

theorem UG.box {w wx : World} {gb n K g mcap : Nat} {jv jv' : Value} {T : Tb} {js : List (Nat × Nat)} {u l : Nat} (h : UG w wx gb n K g mcap jv jv' T js u l) : wx.cell? ⟨w.heap.size, 0, none⟩ = some (.int .i32 (u : Int)) ∧ wx.cell? ⟨w.heap.size, 1, none⟩ = some (.int .i32 (l : Int)) := by
  unfold World.cell?
  rw [h.b0]
  simp

theorem undo_steps {T : Tb} {o u so su lo lu l : Nat} (h1 : T o = ⟨o, so, lo⟩) (h2 : T u = ⟨o, su, lu⟩) (ne : o ≠ u) :
    upd (upd (upd T o ⟨o, so - su, lo⟩) o ⟨o, so - su, l⟩) u ⟨u, su, lu⟩ = undoT T u l := by
  funext j
  unfold undoT
  rw [h2]
  simp only []
  rw [h1]
  by_cases e : j = u
  · subst e; rw [upd_same, upd_same]
  · rw [upd_ne e, upd_ne e]
    by_cases e2 : j = o
    · subst e2; rw [upd_same, upd_same]
    · rw [upd_ne e2, upd_ne e2, upd_ne e2]

theorem jcs_get (js : List (Nat × Nat)) (u l : Nat) : (jcs (js ++ [(u, l)]))[js.length * 2]? = some (.int .i32 (u : Int)) ∧ (jcs (js ++ [(u, l)]))[js.length * 2 + 1]? = some (.int .i32 (l : Int)) ∧ (jcs (js ++ [(u, l)])).take (js.length * 2) = jcs js := by
  have hl := jcs_length js
  rw [jcs_append]
  refine ⟨?_, ?_, ?_⟩
  · rw [List.getElem?_append_right (by omega), hl, Nat.sub_self]; rfl
  · rw [List.getElem?_append_right (by omega), hl, show js.length * 2 + 1 - js.length * 2 = 1 by omega]; rfl
  · rw [← hl, List.take_left]



end Go.Proofs.Ytnlbpjppkfenkaa
