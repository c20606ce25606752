/- 'undo', walked: the last join taken back. -/
import Derived.Test.YtbjodjpdfpcjjaaDoorReach7
import Derived.Deep.CutBlock
import Derived.Deep.QuietTactic
import Derived.BigQuiet
namespace Go.Proofs.YtbjodjpdfpcjjaaDoor
open Go.RowKit
set_option linter.unusedVariables false

/-- Inside 'undo': the Groups, what has turned since w, the box. -/
structure UG (w wx : World) (gb n K g mcap : Nat) (jv jv' : Value) (T : Tb) (js : List (Nat × Nat)) (u l : Nat) : Prop where
  gr : Gr wx gb (.slice (some ⟨g, 0, none⟩) K mcap) jv' n K T js
  tu : Turned (own gb (.slice (some ⟨g, 0, none⟩) K mcap) jv) w wx
  b0 : wx.heap[w.heap.size]? = some (.cells #[.int .i32 (u : Int), .int .i32 (l : Int)] 61 (0, 0))
  fj : Fresh w jv jv'
  gl : g < w.heap.size

theorem UG.drew {w wx : World} {gb n K g mcap : Nat} {jv jv' : Value} {T : Tb} {js : List (Nat × Nat)} {u l : Nat} (h : UG w wx gb n K g mcap jv jv' T js u l) : UG w wx.drew gb n K g mcap jv jv' T js u l := ⟨h.gr.more (Below.refl _ _).drew, h.tu.drew, h.b0, h.fj, h.gl⟩

theorem UG.set {w wx : World} {gb n K g mcap : Nat} {jv jv' : Value} {T : Tb} {js : List (Nat × Nat)} {u l : Nat} (h : UG w wx gb n K g mcap jv jv' T js u l) {i : Nat} (k : Nat) {x : Value} (n' : Mb) (hi : i < K) (hk : k < 3) (hn : nc n' = (nc (T i)).set k x) :
    UG w (wx.setCell ⟨g, i * 3 + k, none⟩ x) gb n K g mcap jv jv' (upd T i n') js u l := by
  refine ⟨h.gr.set k n' hi hk hn, ?_, ?_, h.fj, h.gl⟩
  · exact h.tu.setCell (p := ⟨g, i * 3 + k, none⟩) (Or.inr (Or.inl rfl)) x
  · exact (Below.heap_setCell _ _ _ _ (fun e => by have := h.gl; simp at e; omega)).trans h.b0

theorem UG.box {w wx : World} {gb n K g mcap : Nat} {jv jv' : Value} {T : Tb} {js : List (Nat × Nat)} {u l : Nat} (h : UG w wx gb n K g mcap jv jv' T js u l) : wx.cell? ⟨w.heap.size, 0, none⟩ = some (.int .i32 (u : Int)) ∧ wx.cell? ⟨w.heap.size, 1, none⟩ = some (.int .i32 (l : Int)) := by
  unfold World.cell?
  rw [h.b0]
  simp

theorem undo_steps {T : Tb} {o u so su lo lu l : Nat} (h1 : T o = ⟨o, so, lo⟩) (h2 : T u = ⟨o, su, lu⟩) (ne : o ≠ u) :
    upd (upd (upd T o ⟨o, so - su, lo⟩) o ⟨o, so - su, l⟩) u ⟨u, su, lu⟩ = undoT T u l := by
  funext j
  unfold undoT
  rw [h2]
  simp only []
  rw [h1]
  by_cases e : j = u
  · subst e; rw [upd_same, upd_same]
  · rw [upd_ne e, upd_ne e]
    by_cases e2 : j = o
    · subst e2; rw [upd_same, upd_same]
    · rw [upd_ne e2, upd_ne e2, upd_ne e2]

theorem jcs_get (js : List (Nat × Nat)) (u l : Nat) : (jcs (js ++ [(u, l)]))[js.length * 2]? = some (.int .i32 (u : Int)) ∧ (jcs (js ++ [(u, l)]))[js.length * 2 + 1]? = some (.int .i32 (l : Int)) ∧ (jcs (js ++ [(u, l)])).take (js.length * 2) = jcs js := by
  have hl := jcs_length js
  rw [jcs_append]
  refine ⟨?_, ?_, ?_⟩
  · rw [List.getElem?_append_right (by omega), hl, Nat.sub_self]; rfl
  · rw [List.getElem?_append_right (by omega), hl, show js.length * 2 + 1 - js.length * 2 = 1 by omega]; rfl
  · rw [← hl, List.take_left]

set_option maxRecDepth 100000 in
set_option maxHeartbeats 2000000 in
theorem undo_ok (gb n K o u so su lo lu l : Nat) (mv jv : Value) (T : Tb) (js : List (Nat × Nat)) (w : World) (h : Gr w gb mv jv n K T (js ++ [(u, l)])) (ho : o < K) (hu : u < K) (hto : T o = ⟨o, so, lo⟩) (htu : T u = ⟨o, su, lu⟩) (ne : o ≠ u) (hs : su ≤ so) (hs2 : so ≤ n) (hl : l < n) :
    Calls Tryd.prog 19 #[.pointer (some ⟨gb, 0, none⟩)] w fun e w' => e = .returned (.tuple #[]) ∧ ∃ jv', Gr w' gb mv jv' n K (undoT T u l) js ∧ Turned (own gb mv jv) w w' ∧ Fresh w jv jv' := by
  have hn := h.hn
  have hK := h.hK
  have hjl := h.hj
  have elen : (js ++ [(u, l)]).length = js.length + 1 := by simp
  rw [elen] at hjl
  obtain ⟨g, mcap, rfl, _, _⟩ := own_form h.mem (by omega)
  obtain ⟨gj, cap, rfl, hc1, hc2⟩ := own_form h.jo (by omega)
  rw [elen] at hc1
  have hgl := (h.mem.lt g rfl).2
  have hgjl := (h.jo.lt gj rfl).2
  have hbl := h.lt
  have hjne := h.jne (k := gj) rfl
  obtain ⟨q0, q1, q2⟩ := jcs_get js u l
  have j0 := (h.jo.cellAt (js.length * 2) (by omega)).trans q0
  have j1 := (h.jo.cellAt (js.length * 2 + 1) (by omega)).trans q1
  have hst := hid (undo_steps (l := l) hto htu ne)
  have c2 := h.c2
  rw [elen] at c2
  have hcut : Hid (w.ownsRow 0 61 2 (.slice (some ⟨gj, 0, none⟩) js.length cap) js.length (jcs js)) := by
    have := own_take h.jo (m := js.length) (by omega)
    rw [q2] at this
    exact hid this
  have hG : Hid (UG w ((w.setCell ⟨gb, 2, none⟩ (.slice (some ⟨gj, 0, none⟩) js.length cap)).alloc (.cells #[.int .i32 (u : Int), .int .i32 (l : Int)] 61)) gb n K g mcap (.slice (some ⟨gj, 0, none⟩) (js.length + 1) cap) (.slice (some ⟨gj, 0, none⟩) js.length cap) T js u l) := by
    have hp := put2 h.self h.mem hcut.out (by have := (h.mne (k := g) rfl).1; simpa [Value.ownBlock] using this) (by have := hjne.1; simpa [Value.ownBlock] using this) h.rest hK (by omega) hn
    refine ⟨hp.more ((Below.refl _ _).alloc (Nat.le_refl _) _), ?_, ?_, fun k hk => Or.inl hk, hgl⟩
    · exact ((Turned.refl _ w).setCell (p := ⟨gb, 2, none⟩) (Or.inl rfl) _).alloc _
    · have := heap_alloc_new (w.setCell ⟨gb, 2, none⟩ (.slice (some ⟨gj, 0, none⟩) js.length cap)) (.cells #[.int .i32 (u : Int), .int .i32 (l : Int)] 61)
      rw [show (w.setCell ⟨gb, 2, none⟩ (.slice (some ⟨gj, 0, none⟩) js.length cap)).heap.size = w.heap.size from by simp] at this
      exact this
  have f2 := h.f2
  have e1 : IntKind.i64.wrap (((js.length + 1 : Nat) : Int) - 1) = (js.length : Int) := by rw [IntKind.wrap_i64]; omega
  rw [elen]
  generalize js.length = L at *
  replace hto := hid hto
  replace htu := hid htu
  clear h q0 q1 q2
  have i1 : (0 : Int) ≤ (L : Int) := by omega
  have i2 : (L : Int) < ((L + 1 : Nat) : Int) := by omega
  have i3 : (L : Int) ≤ (cap : Int) := by omega
  go_enter Tryd.func19, Tryd.ntmps19
  go_upto_region 3 with fail
  generalize (w.setCell ⟨gb, 2, none⟩ (.slice (some ⟨gj, 0, none⟩) L cap)).alloc (.cells #[.int .i32 (u : Int), .int .i32 (l : Int)] 61) = wx at hG ⊢
  clear j0 j1 c2 f2 hcut e1 i1 i2 i3
  have ks : (0 : Int) ≤ (u : Int) ∧ (u : Int) < (K : Int) ∧ (0 : Int) ≤ (o : Int) ∧ (o : Int) < (K : Int) := by omega
  obtain ⟨k1, k2, k3, k4⟩ := ks
  have c1 := hG.out.gr.c1
  obtain ⟨x0, x1⟩ := hG.out.box
  have a0 := (hG.out.gr.at hu).1
  rw [htu.out] at a0
  simp only [] at a0
  go_region_held3 (fun y => y.cell? ⟨gb, 1, none⟩ = some (.slice (some ⟨g, 0, none⟩) K mcap) ∧ y.cell? ⟨w.heap.size, 0, none⟩ = some (.int .i32 (u : Int))) (go_keep) (fail)
  go_upto_region 4 with fail
  go_region_held3 (fun y => y.cell? ⟨gb, 1, none⟩ = some (.slice (some ⟨g, 0, none⟩) K mcap) ∧ y.cell? ⟨g, u * 3, none⟩ = some (.int .i32 (o : Int))) (go_keep) (fail)
  go_upto_region 5 with fail
  replace hG := hid hG.out.drew.drew
  clear c1 x0 x1 a0
  generalize wx.drew.drew = wy at hG ⊢
  go_cut [44] from 44 to 54 (fun _ wz => Hid (UG w wz gb n K g mcap (.slice (some ⟨gj, 0, none⟩) (L + 1) cap) (.slice (some ⟨gj, 0, none⟩) L cap) (upd T o ⟨o, so - su, lo⟩) js u l))
  case first =>
    have a1 := (hG.out.gr.at ho).2.1
    have a2 := (hG.out.gr.at hu).2.1
    rw [hto.out] at a1
    rw [htu.out] at a2
    simp only [] at a1 a2
    have z1 := hG.out.gr.mem.frozenAt (o * 3 + 1)
    have s5 := hid (hG.out.set (i := o) 1 (x := .int .i32 ((so - su : Nat) : Int)) ⟨o, so - su, lo⟩ ho (by decide) (by rw [hto.out]; rfl)).drew
    have hwr : IntKind.i32.wrap ((so : Int) - (su : Int)) = ((so - su : Nat) : Int) := by rw [IntKind.wrap_i32]; omega
    go_region
    all_goals
      go_wp2_with fail
      go_meet
      case rel => exact s5
  case rest =>
    have H := hcut
    clear hcut hG
    obtain ⟨x0, x1⟩ := H.out.box
    have a1 := (H.out.gr.at ho).2.2
    rw [upd_same] at a1
    simp only [] at a1
    have z1 := H.out.gr.mem.frozenAt (o * 3 + 2)
    have s6 := hid (H.out.set (i := o) 2 (x := .int .i32 (l : Int)) ⟨o, so - su, l⟩ ho (by decide) (by rw [upd_same]; rfl))
    clear H
    go_upto_region 7 with fail
    generalize wc.setCell ⟨g, o * 3 + 2, none⟩ (.int .i32 (l : Int)) = wd at s6 ⊢
    clear x0 x1 a1 z1
    obtain ⟨x0, x1⟩ := s6.out.box
    have a1 := (s6.out.gr.at hu).1
    rw [upd_ne (Ne.symm ne), upd_ne (Ne.symm ne), htu.out] at a1
    simp only [] at a1
    have z1 := s6.out.gr.mem.frozenAt (u * 3)
    have s7 := s6.out.set (i := u) 0 (x := .int .i32 (u : Int)) ⟨u, su, lu⟩ hu (by decide) (by rw [upd_ne (Ne.symm ne), upd_ne (Ne.symm ne), htu.out]; rfl)
    rw [hst.out] at s7
    simp only [Nat.add_zero] at s7
    replace s7 := hid s7
    clear s6
    go_wp2_with fail
    go_end0
    exact ⟨rfl, _, s7.out.gr, s7.out.tu, s7.out.fj⟩

end Go.Proofs.YtbjodjpdfpcjjaaDoor
