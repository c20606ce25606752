/- 'New', 'Check', walked. 'put', 'take' over what stands round; 'Lift', walked. 'Lay', walked. -/
import Derived.Test.YtboafgimjadboaaGreatDoorBput
namespace Go.Proofs.YtboafgimjadboaaGreatDoor
open Go.RowKit
set_option linter.unusedVariables false

set_option maxRecDepth 100000 in
set_option maxHeartbeats 1000000 in
theorem new_ok (V E : Nat) (w : World) (h1 : 1 ≤ V) (h2 : V ≤ 1048576) (h3 : 1 ≤ E) (h4 : E ≤ 1048576) : Calls Tryz.prog 81 #[.int .i64 (V : Int), .int .i64 (E : Int)] w fun x w' => x = .returned (.tuple #[.pointer (some ⟨w.heap.size, 0, none⟩), .nilIface]) ∧ TA w' w.heap.size w.heap.size V E (fun _ => []) ∧ Below w.heap.size w w' := by
  have hp := pair_at (V : Int) (E : Int)
  have t1 : decide ((V : Int) < 1) = false := decide_eq_false (by omega)
  have t2 : decide (1048576 < (V : Int)) = false := decide_eq_false (by omega)
  have t3 : decide ((E : Int) < 1) = false := decide_eq_false (by omega)
  have t4 : decide (1048576 < (E : Int)) = false := decide_eq_false (by omega)
  go_enter Tryz.func81, Tryz.ntmps81
  go_wp2_with fail
  go_loop [7, 11] (fun _ s11 => ∃ j : Nat, j ≤ 2 ∧ s11 = .int .i64 (j : Int)) (fun _ s11 => 2 - (intOf s11).toNat)
  case atStart => exact ⟨0, by omega, by go_num⟩
  case round =>
    obtain ⟨j, hj, rfl⟩ := hrel
    have hj3 : j = 0 ∨ j = 1 ∨ j = 2 := by omega
    rcases hj3 with rfl | rfl | rfl
    · have hi0 := (hp w).1
      go_wp2_with fail
      go_round
      case rel => exact ⟨1, by omega, by go_num⟩
      case measure => simp [intOf]
    · have hi0 := (hp w).2
      go_wp2_with fail
      go_round
      case rel => exact ⟨2, by omega, by go_num⟩
      case measure => simp [intOf]
    · go_wp2_with fail
      go_ret2
      refine ⟨rfl, ⟨.slice none 0 0, .slice none 0 0, 0, 0, fun _ => nw, fun _ => sd0, ⟨heap_alloc_new _ _, World.ownsRow_nil _ _ _ _, World.ownsRow_nil _ _ _ _, fun _ _ => rfl, fun _ _ => rfl, Nat.le_refl _, Nat.zero_le _, Nat.zero_le _, h2, h4⟩, Tt.new V E⟩, (Below.refl _ _).alloc (Nat.le_refl _) _⟩

section
variable {w : World} {lo tb V E : Nat} {R : Nat → List Nat}

theorem at_any (h : TA w lo tb V E R) (b : Int) : ∃ (n p : Nat) (o : Int), (∀ y, Below w.heap.size w y → Calls Tryz.prog 101 #[.pointer (some ⟨tb, 0, none⟩), .int .i64 b] y fun e w' => e = .returned (.agg #[.int .i32 (n : Int), .int .i32 (p : Int), .int .i32 o]) ∧ Below y.heap.size y w') ∧ (∀ u, u < V → (o = (u : Int) ↔ ∃ k : Nat, b = (k : Int) ∧ k ∈ R u)) ∧ -1 ≤ o ∧ o ≤ 1048576 ∧ (o = -1 ↔ ¬ ∃ k : Nat, b = (k : Int) ∧ In V R k) := by
  have hV := h.hV
  obtain ⟨dv, sv, K, M, D, S, h1, h2⟩ := h
  by_cases hb : b < 0
  · refine ⟨0, 0, -1, fun y hy => at_none b (h1.more hy) (.inl hb), fun u hu => ⟨fun e => by omega, fun ⟨k, e, _⟩ => by omega⟩, by omega, by omega, ⟨fun _ => fun ⟨k, e, _⟩ => by omega, fun _ => rfl⟩⟩
  · obtain ⟨k, rfl⟩ : ∃ k : Nat, b = (k : Int) := ⟨b.toNat, by omega⟩
    refine ⟨(D k).nx, (D k).pv, (D k).og, fun y hy => at_ok k (h1.more hy), fun u hu => ?_, ?_, ?_, ?_⟩
    · rw [h2.og u k hu]
      refine ⟨fun hm => ⟨k, rfl, hm⟩, fun ⟨k', e, hm⟩ => ?_⟩
      obtain rfl : k = k' := by omega
      exact hm
    · by_cases hi : In V R k
      · obtain ⟨u, hu, hm⟩ := hi
        rw [h2.on u k hu hm]; simp only []; omega
      · rw [h2.off k hi]; omega
    · by_cases hi : In V R k
      · obtain ⟨u, hu, hm⟩ := hi
        rw [h2.on u k hu hm]; simp only []; omega
      · rw [h2.off k hi]; omega
    · constructor
      · rintro e ⟨k', e', hi⟩
        obtain rfl : k = k' := by omega
        exact (h2.laid k).2 hi e
      · intro hn
        exact h2.off k (fun hi => hn ⟨k, rfl, hi⟩)





end

end Go.Proofs.YtboafgimjadboaaGreatDoor

namespace Go.Proofs.YtboafgimjadboaaGreatDoor
open Go.RowKit
set_option linter.unusedVariables false

section
variable {w : World} {lo tb V E : Nat} {R : Nat → List Nat}



theorem TA.putc (h : TA w lo tb V E R) (d v : Nat) (b : Int) (hc : Co V R (v : Int) b) (hd : d < 2 * E) (hn : ¬ In V R d) : Calls Tryz.prog 103 #[.pointer (some ⟨tb, 0, none⟩), .int .i64 (d : Int), .agg #[.int .i64 (v : Int), .int .i64 b]] w fun e w' => e = .returned (.tuple #[]) ∧ TA w' lo tb V E (putR R v (co b) d) ∧ Kp lo w w' := by
  have hEb := h.hE
  obtain ⟨u, e, hu, hcc⟩ := hc
  obtain rfl : v = u := by omega
  have hlen := h.tn.len hu
  obtain ⟨dv, sv, K, M, D, S, h1, h2⟩ := h
  have hdeg := h2.deg v hu
  rcases hcc with ⟨rfl, h3⟩ | ⟨k, rfl, h3⟩
  · refine (put_ok d v d d (-1) h1 hd hu (by omega) (.inl ⟨rfl, rfl, rfl⟩)).mono ?_
    rintro e w' ⟨rfl, K', M', dv', sv', g1, g2⟩
    exact ⟨rfl, ⟨dv', sv', K', M', _, _, g1, h2.alone hu h3 hn hd⟩, g2⟩
  · have hon := h2.on v k hu h3
    have hon2 := h2.on v _ hu (nx_mem h3)
    refine (put_ok d v (nx (R v) k) k (k : Int) h1 hd hu (by omega) (.inr ⟨rfl, by rw [hon], by rw [hon]; simp only []; omega, by rw [hon2]; simp only []; omega⟩)).mono ?_
    rintro e w' ⟨rfl, K', M', dv', sv', g1, g2⟩
    rw [co_some]
    exact ⟨rfl, ⟨dv', sv', K', M', _, _, g1, h2.put hu h3 hn hd⟩, g2⟩







end

end Go.Proofs.YtboafgimjadboaaGreatDoor

namespace Go.Proofs.YtboafgimjadboaaGreatDoor
open Go.RowKit
set_option linter.unusedVariables false

section
variable {w : World} {lo tb V E : Nat} {R : Nat → List Nat}









/-- The two corners' blocks. -/
def Lk (w : World) (s : Nat) (a0 a1 b0 b1 : Int) : Prop := w.heap[s]? = some (.cells #[.int .i64 a0, .int .i64 a1] 203 (0, 0)) ∧ w.heap[s + 1]? = some (.cells #[.int .i64 b0, .int .i64 b1] 203 (0, 0))

theorem Lk.new (w : World) (a0 a1 b0 b1 : Int) : Lk ((w.alloc (.cells #[.int .i64 a0, .int .i64 a1] 203)).alloc (.cells #[.int .i64 b0, .int .i64 b1] 203)) w.heap.size a0 a1 b0 b1 := by
  refine ⟨(Below.heap_alloc _ _ _ (by simp)).trans (heap_alloc_new _ _), ?_⟩
  have := heap_alloc_new (w.alloc (.cells #[.int .i64 a0, .int .i64 a1] 203)) (.cells #[.int .i64 b0, .int .i64 b1] 203)
  simpa using this
theorem Lk.below {w w' : World} {s : Nat} {a0 a1 b0 b1 : Int} (h : Lk w s a0 a1 b0 b1) (hb : Below w.heap.size w w') : Lk w' s a0 a1 b0 b1 :=
  ⟨(hb.block _ (Array.getElem?_eq_some_iff.1 h.1).1).trans h.1, (hb.block _ (Array.getElem?_eq_some_iff.1 h.2).1).trans h.2⟩
theorem Kp.setNew {lo : Nat} {w w' : World} (h : Kp lo w w') {p : Addr} (hp : w.heap.size ≤ p.block) (u : Value) : Kp lo w (w'.setCell p u) :=
  ⟨h.os, h.tape, h.output, by have := h.size; simpa [World.setCell] using this, fun k hk ho => (Below.heap_setCell _ _ _ _ (fun e => by omega)).trans (h.block k hk ho)⟩

theorem TA.setc (h : TA w lo tb V E R) {g k : Nat} (hg : Ty w g 203) (u : Value) : TA (w.setCell ⟨g, k, none⟩ u) lo tb V E R := by
  obtain ⟨dv, sv, K, M, D, S, h1, h2⟩ := h
  refine ⟨dv, sv, K, M, D, S, h1.of (Below.heap_setCell _ _ _ _ (fun e => ?_)) (fun k hk => Below.heap_setCell _ _ _ _ (fun e => ?_)) (fun k hk => Below.heap_setCell _ _ _ _ (fun e => ?_)), h2⟩
  · have e' : tb = g := e
    subst e'
    exact absurd (h1.ty.uniq hg) (by decide)
  · have e' : k = g := e
    subst e'
    exact absurd ((h1.dty hk).uniq hg) (by decide)
  · have e' : k = g := e
    subst e'
    exact absurd ((h1.sty hk).uniq hg) (by decide)

end

end Go.Proofs.YtboafgimjadboaaGreatDoor
