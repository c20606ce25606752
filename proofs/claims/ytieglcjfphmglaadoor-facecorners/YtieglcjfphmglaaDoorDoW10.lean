/- 'do', walked. -/
import Derived.Test.YtieglcjfphmglaaDoorDo10
namespace Go.Proofs.YtieglcjfphmglaaDoor
open Go.RowKit
set_option linter.unusedVariables false

theorem Handle.kp {w w' : World} {lo : Nat} (hg : Handle w) (hk : Kp lo w w') (h0 : 0 < lo) : Handle w' := by
  have hl := hg.lt
  have := hk.block 0 hl (.inl h0)
  unfold Handle
  rw [World.cell?_of_block (a := ⟨0, 0, none⟩) this]
  exact hg

theorem num_any (r : Value) (c : Int) (y : World) (hg : Handle y) (h : (r = .nilIface ∧ c = 0) ∨ (r = .iface 74 (.int .i64 c) ∧ c ≠ 0)) : Calls Tryd.prog 12 #[r] y fun e w' => e = .returned (.int .i64 c) ∧ Below y.heap.size y w' := by
  rcases h with ⟨rfl, rfl⟩ | ⟨rfl, _⟩
  · exact num_nil y
  · exact num_err c y hg

theorem TA.keepT {w w' : World} {lo tb V E : Nat} {R : Nat → List Nat} (h : TA w lo tb V E R) (hk : ∀ b, Mi w b → w'.heap[b]? = w.heap[b]?) : TA w' lo tb V E R := by
  obtain ⟨dv, sv, K, M, D, S, h1, h2⟩ := h
  exact ⟨dv, sv, K, M, D, S, h1.of (hk tb (.inl h1.ty)) (fun k hk' => hk k (.inr (.inl (h1.dty hk')))) (fun k hk' => hk k (.inr (.inr (h1.sty hk')))), h2⟩

theorem Mi.ne {w : World} {b g : Nat} {t : TypeId} (h : Mi w b) (hg : Ty w g t) (h1 : t ≠ 96) (h2 : t ≠ 90) (h3 : t ≠ 83) : b ≠ g := fun e => by
  subst e
  rcases h with h | h | h
  · exact h1 (hg.uniq h)
  · exact h2 (hg.uniq h)
  · exact h3 (hg.uniq h)

theorem TA.set2 {w : World} {lo tb V E g : Nat} {R : Nat → List Nat} (h : TA w lo tb V E R) (hg : Ty w g 26) (p q : Value) : TA ((w.setCell ⟨g, 0, none⟩ p).setCell ⟨g, 1, none⟩ q) lo tb V E R :=
  h.keepT (fun b hb => by
    have hne := hb.ne hg (by decide) (by decide) (by decide)
    rw [Below.heap_setCell _ _ _ _ hne, Below.heap_setCell _ _ _ _ hne])

theorem Kp.set2 {lo : Nat} {w w' : World} (h : Kp lo w w') {g : Nat} (hp : w.heap.size ≤ g) (p q : Value) : Kp lo w ((w'.setCell ⟨g, 0, none⟩ p).setCell ⟨g, 1, none⟩ q) :=
  (h.setNew (p := ⟨g, 0, none⟩) hp p).setNew (p := ⟨g, 1, none⟩) hp q

/-- 'do's three blocks. -/
def Dk (s F : Nat) (lv : Value) (q : Ac) (y : World) : Prop :=
  y.heap[s]? = some (.cells #[.int .i64 (F : Int), lv] 26 (0, 0)) ∧ y.heap[s + 1]? = some (.cells #[.int .i64 q.k, .int .i64 q.e, .int .i64 q.a0, .int .i64 q.a1, .int .i64 q.b0, .int .i64 q.b1] 49 (0, 0)) ∧ y.heap[s + 2]? = some (.cells #[.int .i64 0, .slice none 0 0] 26 (0, 0))

theorem Dk.new (w : World) (F : Nat) (lv : Value) (q : Ac) : Dk w.heap.size F lv q (((w.alloc (.cells #[.int .i64 (F : Int), lv] 26)).alloc (.cells #[.int .i64 q.k, .int .i64 q.e, .int .i64 q.a0, .int .i64 q.a1, .int .i64 q.b0, .int .i64 q.b1] 49)).alloc (.cells #[.int .i64 0, .slice none 0 0] 26)) := by
  obtain ⟨w1, hw1⟩ : ∃ w1, w.alloc (.cells #[.int .i64 (F : Int), lv] 26) = w1 := ⟨_, rfl⟩
  have s1 : w1.heap.size = w.heap.size + 1 := by rw [← hw1]; exact World.size_alloc _ _
  have h1 : w1.heap[w.heap.size]? = some (.cells #[.int .i64 (F : Int), lv] 26 (0, 0)) := by rw [← hw1]; exact heap_alloc_new w _
  rw [hw1]
  obtain ⟨w2, hw2⟩ : ∃ w2, w1.alloc (.cells #[.int .i64 q.k, .int .i64 q.e, .int .i64 q.a0, .int .i64 q.a1, .int .i64 q.b0, .int .i64 q.b1] 49) = w2 := ⟨_, rfl⟩
  have s2 : w2.heap.size = w.heap.size + 2 := by rw [← hw2, World.size_alloc, s1]
  have h2 : w2.heap[w.heap.size + 1]? = some (.cells #[.int .i64 q.k, .int .i64 q.e, .int .i64 q.a0, .int .i64 q.a1, .int .i64 q.b0, .int .i64 q.b1] 49 (0, 0)) := by rw [← hw2, ← s1]; exact heap_alloc_new w1 _
  have b2 : Below w1.heap.size w1 w2 := by rw [← hw2]; exact balloc _ _
  rw [hw2]
  have b4 := balloc w2 (.cells #[.int .i64 0, .slice none 0 0] 26)
  have h4 := heap_alloc_new w2 (.cells #[.int .i64 0, .slice none 0 0] 26)
  rw [s2] at h4
  refine ⟨?_, ?_, h4⟩
  · rw [b4.block _ (by omega), b2.block _ (by omega)]; exact h1
  · rw [b4.block _ (by omega)]; exact h2

section
variable {s F : Nat} {lv : Value} {q : Ac} {y y' : World}
theorem Dk.below (h : Dk s F lv q y) (hb : Below y.heap.size y y') : Dk s F lv q y' :=
  ⟨(hb.block _ (Array.getElem?_eq_some_iff.1 h.1).1).trans h.1, (hb.block _ (Array.getElem?_eq_some_iff.1 h.2.1).1).trans h.2.1, (hb.block _ (Array.getElem?_eq_some_iff.1 h.2.2).1).trans h.2.2⟩
theorem Dk.kp {lo : Nat} (h : Dk s F lv q y) (hk : Kp lo y y') : Dk s F lv q y' :=
  ⟨(hk.keep ⟨_, _, h.1⟩ (by decide) (by decide) (by decide)).trans h.1, (hk.keep ⟨_, _, h.2.1⟩ (by decide) (by decide) (by decide)).trans h.2.1, (hk.keep ⟨_, _, h.2.2⟩ (by decide) (by decide) (by decide)).trans h.2.2⟩
theorem Dk.act (h : Dk s F lv q y) : y.cell? ⟨s + 1, 0, none⟩ = some (.int .i64 q.k) ∧ y.cell? ⟨s + 1, 1, none⟩ = some (.int .i64 q.e) ∧ y.cell? ⟨s + 1, 2, none⟩ = some (.int .i64 q.a0) ∧ y.cell? ⟨s + 1, 3, none⟩ = some (.int .i64 q.a1) ∧ y.cell? ⟨s + 1, 4, none⟩ = some (.int .i64 q.b0) ∧ y.cell? ⟨s + 1, 5, none⟩ = some (.int .i64 q.b1) := by
  unfold World.cell?
  rw [h.2.1]
  exact ⟨rfl, rfl, rfl, rfl, rfl, rfl⟩
end

set_option maxRecDepth 100000 in
set_option maxHeartbeats 2000000 in
theorem do_lift {w : World} {lo tb V E F : Nat} {xv : Value} {R : Nat → List Nat} (h : Bo w lo tb xv V E F R) (q : Ac) (κ : Nat) (hκ : wrap64 ((IntKind.u64.wrap q.k).tmod 12) = (κ : Int)) (hκ9 : 9 < κ) (hκ12 : κ < 12) (hg : Handle w) (hlo : 0 < lo) (hV : V ≤ 1000) (hE : F ≤ 100) (hef : (q.e < 0 ∨ (E : Int) ≤ q.e) ∨ q.e < (F : Int)) :
    Calls Tryd.prog 35 #[.pointer (some ⟨tb, 0, none⟩), xv, acv q] w fun x w' => ∃ xv' R', x = .returned (.tuple #[xv', .bool true]) ∧ Bo w' lo tb xv' V E F R' ∧ Kp lo w w' := by
  obtain ⟨R', c, r, htt, hr, hl1, hl2⟩ := both_lift h q.e hef hE hV
  have hnum := hid (fun y hy => num_any r c y hy hr)
  replace hl1 := hid hl1
  replace hl2 := hid hl2
  replace hg := hid hg
  have hle := h.le
  have hta := hid h.ta
  have hrt := h.rt
  obtain ⟨lv, rfl, ad, cap, rfl, _⟩ := hrt
  have hk := hid (Dk.new w F (.slice ad V cap) q)
  obtain ⟨w1, hw1⟩ : ∃ w1, ((w.alloc (.cells #[.int .i64 (F : Int), .slice ad V cap] 26)).alloc (.cells #[.int .i64 q.k, .int .i64 q.e, .int .i64 q.a0, .int .i64 q.a1, .int .i64 q.b0, .int .i64 q.b1] 49)).alloc (.cells #[.int .i64 0, .slice none 0 0] 26) = w1 := ⟨_, rfl⟩
  have hb1 : Hid (Below w.heap.size w w1) := by
    rw [← hw1]
    exact hid ((((Below.refl w.heap.size w).alloc (Nat.le_refl _) _).alloc (by simp) _).alloc (by simp; omega) _)
  rw [hw1] at hk
  replace hw1 := hid hw1
  obtain ⟨k0, k1, k2, k3, k4, k5⟩ := hk.out.act
  obtain ⟨p0, p1, _, _⟩ := blk2 hk.out.1
  have t1 : decide (9 < (κ : Int)) = true := decide_eq_true (by omega)
  have t1' : decide ((κ : Int) > 9) = true := decide_eq_true (by omega)
  obtain ⟨qk, qe, qa0, qa1, qb0, qb1⟩ := q
  simp only [] at *
  clear h hr hef
  go_enter Tryd.func35, Tryd.ntmps35
  go_upto_region 1 with fail
  rw [hw1.out]
  go_wp2_with fail
  refine (hl1.out _ hb1.out).mono ?_
  rintro x w2 ⟨xv', rfl, hx2, b2⟩
  have hx2' := hx2
  obtain ⟨lv', rfl, ad', cap', rfl, _⟩ := hx2'
  have hk2 := hid (hk.out.below b2)
  have hb2 : Hid (Below w.heap.size w w2) := hb1.out.trans (b2.mono hb1.out.size)
  have hnew := hid (heap_alloc_new w2 (.cells #[.int .i64 (F : Int), .slice ad' V cap'] 26))
  have hk3 := hid (hk2.out.below (balloc w2 (.cells #[.int .i64 (F : Int), .slice ad' V cap'] 26)))
  have hb3 := hid (hb2.out.alloc hb2.out.size (.cells #[.int .i64 (F : Int), .slice ad' V cap'] 26))
  have hx3 := hid (hx2.below (balloc w2 (.cells #[.int .i64 (F : Int), .slice ad' V cap'] 26)))
  have hs2 : w.heap.size + 3 ≤ w2.heap.size := by have := (Array.getElem?_eq_some_iff.1 hk2.out.2.2).1; omega
  obtain ⟨w3, hw3⟩ : ∃ w3, w2.alloc (.cells #[.int .i64 (F : Int), .slice ad' V cap'] 26) = w3 := ⟨_, rfl⟩
  rw [hw3] at hnew hk3 hb3 hx3
  replace hw3 := hid hw3
  clear b2 hx2 k0 k1 k2 k3 k4 k5 p0 p1 hk hb1 hw1 hk2 hl1
  obtain ⟨_, e1, _, _, _, _⟩ := hk3.out.act
  obtain ⟨n0, n1, _, _⟩ := blk2 hnew.out
  go_upto_region 4 with fail
  rw [hw3.out]
  clear hw3
  go_region_held3 (fun y => y.cell? ⟨w2.heap.size, 0, none⟩ = some (.int .i64 (F : Int)) ∧ y.cell? ⟨w2.heap.size, 1, none⟩ = some (.slice ad' V cap') ∧ y.cell? ⟨w.heap.size + 1, 1, none⟩ = some (.int .i64 qe)) (first | exact ⟨n0, n1, e1⟩ | exact ⟨m0, m1, f1⟩ | exact ⟨o0, o1, g1⟩ | exact ⟨(cell_set2 (by show w2.heap.size ≠ w.heap.size + 1 + 1; omega) _ _).trans o0, (cell_set2 (by show w2.heap.size ≠ w.heap.size + 1 + 1; omega) _ _).trans o1, (cell_set2 (by show w.heap.size + 1 ≠ w.heap.size + 1 + 1; omega) _ _).trans g1⟩ | go_keep) ((first
    | (go_at_call 40; refine (hl2.out _ (hta.out.more hb3.out.drew)).mono ?_; rintro x w4 ⟨rfl, a4, kp4⟩; have hk4 := hid (Dk.kp (y := w3.drew) hk3.out kp4); have hK4 : Hid (Kp lo w w4) := (Kp.ofBelow hb3.out.drew lo).trans kp4; have hnew4 := hid ((kp4.keep (k := w2.heap.size) ⟨_, _, hnew.out⟩ (by decide) (by decide) (by decide)).trans hnew.out); have hx4 := hid (RT.al (w := w3.drew) (hx3.out.below (Below.refl _ _).drew) kp4.al); obtain ⟨_, f1, _, _, _, _⟩ := hk4.out.act; obtain ⟨m0, m1, _, _⟩ := blk2 hnew4.out; replace a4 := hid a4; clear kp4 hl2)
    | (go_at_call 12; refine (hnum.out w4 (hg.out.kp hK4.out hlo)).mono ?_; rintro x w5 ⟨rfl, b5⟩; have hk5 := hid (hk4.out.below b5); have hK5 : Hid (Kp lo w w5) := hK4.out.trans (Kp.ofBelow b5 lo); have hnew5 := hid ((b5.block _ (Array.getElem?_eq_some_iff.1 hnew4.out).1).trans hnew4.out); have hx5 := hid (hx4.out.below b5); have a5 := hid (a4.out.more b5); obtain ⟨_, g1, _, _, _, _⟩ := hk5.out.act; obtain ⟨o0, o1, _, _⟩ := blk2 hnew5.out; obtain ⟨y1, y2, y3, y4⟩ := blk2 hk5.out.2.2; clear b5 hnum)))
  have hfin := hid (set2_block hk5.out.2.2 (.int .i64 (F : Int)) (.slice ad' V cap'))
  have hF : Hid (Bo ((w5.setCell ⟨w.heap.size + 2, 0, none⟩ (.int .i64 (F : Int))).setCell ⟨w.heap.size + 2, 1, none⟩ (.slice ad' V cap')) lo tb (.agg #[.int .i64 (F : Int), .slice ad' V cap']) V E F R') := ⟨a5.out.set2 ⟨_, _, hk5.out.2.2⟩ _ _, hx5.out.al (set2_al hk5.out.2.2 _ _), htt.1, htt.2, hle⟩
  have hKF := hid (hK5.out.set2 (g := w.heap.size + 2) (by omega) (.int .i64 (F : Int)) (.slice ad' V cap'))
  go_wp2_with fail
  refine bodyPost_ret (results_cell2 rfl _ _ (w.heap.size + 2) 26 _ (0, 0) _ rfl hfin.out Tryd.underlying26 rfl (by kernel_rfl)) rfl ?_
  exact ⟨_, R', by simp, hF.out, hKF.out⟩

end Go.Proofs.YtieglcjfphmglaaDoor
