/- 'New', 'Check', walked. -/
import Derived.Test.YtieglcjfphmglaaDoorTRound10
namespace Go.Proofs.YtieglcjfphmglaaDoor
open Go.RowKit
set_option linter.unusedVariables false

set_option maxRecDepth 100000 in
set_option maxHeartbeats 1000000 in
theorem new_bad (v e : Int) (w : World) (h : ¬ (1 ≤ v ∧ v ≤ 1048576 ∧ 1 ≤ e ∧ e ≤ 1048576)) : Calls Tryd.prog 33 #[.int .i64 v, .int .i64 e] w fun x w' => x = .returned (.tuple #[.pointer none, .iface 74 (.int .i64 1)]) ∧ w = w' := by
  have hp := pair_at v e
  replace h := hid h
  go_enter Tryd.func33, Tryd.ntmps33
  go_wp2_with fail
  go_loop [7, 11] (fun _ s11 => ∃ j : Nat, j ≤ 2 ∧ s11 = .int .i64 (j : Int) ∧ Hid ((1 ≤ j → 1 ≤ v ∧ v ≤ 1048576) ∧ (2 ≤ j → 1 ≤ e ∧ e ≤ 1048576))) (fun _ s11 => 2 - (intOf s11).toNat)
  case atStart => exact ⟨0, by omega, by go_num, fun h => by omega, fun h => by omega⟩
  case round =>
    obtain ⟨j, hj, rfl, hst⟩ := hrel
    have hj3 : j = 0 ∨ j = 1 ∨ j = 2 := by omega
    rcases hj3 with rfl | rfl | rfl
    · have hi0 := (hp w).1
      by_cases h1 : v < 1
      · have t1 : decide (v < 1) = true := decide_eq_true h1
        go_wp2_with fail
        go_ret2
        exact ⟨rfl, rfl⟩
      · have t1 : decide (v < 1) = false := decide_eq_false h1
        by_cases h2 : 1048576 < v
        · have t2 : decide (1048576 < v) = true := decide_eq_true h2
          go_wp2_with fail
          go_ret2
          exact ⟨rfl, rfl⟩
        · have t2 : decide (1048576 < v) = false := decide_eq_false h2
          go_wp2_with fail
          go_round
          case rel => exact ⟨1, by omega, by go_num, fun _ => by omega, fun h => by omega⟩
          case measure => simp [intOf]
    · have hi0 := (hp w).2
      by_cases h1 : e < 1
      · have t1 : decide (e < 1) = true := decide_eq_true h1
        go_wp2_with fail
        go_ret2
        exact ⟨rfl, rfl⟩
      · have t1 : decide (e < 1) = false := decide_eq_false h1
        by_cases h2 : 1048576 < e
        · have t2 : decide (1048576 < e) = true := decide_eq_true h2
          go_wp2_with fail
          go_ret2
          exact ⟨rfl, rfl⟩
        · exact absurd ⟨(hst.out.1 (by omega)).1, (hst.out.1 (by omega)).2, by omega, by omega⟩ h.out
    · exact absurd ⟨(hst.out.1 (by omega)).1, (hst.out.1 (by omega)).2, (hst.out.2 (by omega)).1, (hst.out.2 (by omega)).2⟩ h.out

set_option maxRecDepth 100000 in
set_option maxHeartbeats 1000000 in
theorem new_ok (V E : Nat) (w : World) (h1 : 1 ≤ V) (h2 : V ≤ 1048576) (h3 : 1 ≤ E) (h4 : E ≤ 1048576) : Calls Tryd.prog 33 #[.int .i64 (V : Int), .int .i64 (E : Int)] w fun x w' => x = .returned (.tuple #[.pointer (some ⟨w.heap.size, 0, none⟩), .nilIface]) ∧ TA w' w.heap.size w.heap.size V E (fun _ => []) ∧ Below w.heap.size w w' := by
  have hp := pair_at (V : Int) (E : Int)
  have t1 : decide ((V : Int) < 1) = false := decide_eq_false (by omega)
  have t2 : decide (1048576 < (V : Int)) = false := decide_eq_false (by omega)
  have t3 : decide ((E : Int) < 1) = false := decide_eq_false (by omega)
  have t4 : decide (1048576 < (E : Int)) = false := decide_eq_false (by omega)
  go_enter Tryd.func33, Tryd.ntmps33
  go_wp2_with fail
  go_loop [7, 11] (fun _ s11 => ∃ j : Nat, j ≤ 2 ∧ s11 = .int .i64 (j : Int)) (fun _ s11 => 2 - (intOf s11).toNat)
  case atStart => exact ⟨0, by omega, by go_num⟩
  case round =>
    obtain ⟨j, hj, rfl⟩ := hrel
    have hj3 : j = 0 ∨ j = 1 ∨ j = 2 := by omega
    rcases hj3 with rfl | rfl | rfl
    · have hi0 := (hp w).1
      go_wp2_with fail
      go_round
      case rel => exact ⟨1, by omega, by go_num⟩
      case measure => simp [intOf]
    · have hi0 := (hp w).2
      go_wp2_with fail
      go_round
      case rel => exact ⟨2, by omega, by go_num⟩
      case measure => simp [intOf]
    · go_wp2_with fail
      go_ret2
      refine ⟨rfl, ⟨.slice none 0 0, .slice none 0 0, 0, 0, fun _ => nw, fun _ => sd0, ⟨heap_alloc_new _ _, World.ownsRow_nil _ _ _ _, World.ownsRow_nil _ _ _ _, fun _ _ => rfl, fun _ _ => rfl, Nat.le_refl _, Nat.zero_le _, Nat.zero_le _, h2, h4⟩, Tt.new V E⟩, (Below.refl _ _).alloc (Nat.le_refl _) _⟩

section
variable {w : World} {lo tb V E : Nat} {R : Nat → List Nat}

theorem at_any (h : TA w lo tb V E R) (b : Int) : ∃ (n p : Nat) (o : Int), (∀ y, Below w.heap.size w y → Calls Tryd.prog 56 #[.pointer (some ⟨tb, 0, none⟩), .int .i64 b] y fun e w' => e = .returned (.agg #[.int .i32 (n : Int), .int .i32 (p : Int), .int .i32 o]) ∧ Below y.heap.size y w') ∧ (∀ u, u < V → (o = (u : Int) ↔ ∃ k : Nat, b = (k : Int) ∧ k ∈ R u)) ∧ -1 ≤ o ∧ o ≤ 1048576 ∧ (o = -1 ↔ ¬ ∃ k : Nat, b = (k : Int) ∧ In V R k) := by
  have hV := h.hV
  obtain ⟨dv, sv, K, M, D, S, h1, h2⟩ := h
  by_cases hb : b < 0
  · refine ⟨0, 0, -1, fun y hy => at_none b (h1.more hy) (.inl hb), fun u hu => ⟨fun e => by omega, fun ⟨k, e, _⟩ => by omega⟩, by omega, by omega, ⟨fun _ => fun ⟨k, e, _⟩ => by omega, fun _ => rfl⟩⟩
  · obtain ⟨k, rfl⟩ : ∃ k : Nat, b = (k : Int) := ⟨b.toNat, by omega⟩
    refine ⟨(D k).nx, (D k).pv, (D k).og, fun y hy => at_ok k (h1.more hy), fun u hu => ?_, ?_, ?_, ?_⟩
    · rw [h2.og u k hu]
      refine ⟨fun hm => ⟨k, rfl, hm⟩, fun ⟨k', e, hm⟩ => ?_⟩
      obtain rfl : k = k' := by omega
      exact hm
    · by_cases hi : In V R k
      · obtain ⟨u, hu, hm⟩ := hi
        rw [h2.on u k hu hm]; simp only []; omega
      · rw [h2.off k hi]; omega
    · by_cases hi : In V R k
      · obtain ⟨u, hu, hm⟩ := hi
        rw [h2.on u k hu hm]; simp only []; omega
      · rw [h2.off k hi]; omega
    · constructor
      · rintro e ⟨k', e', hi⟩
        obtain rfl : k = k' := by omega
        exact (h2.laid k).2 hi e
      · intro hn
        exact h2.off k (fun hi => hn ⟨k, rfl, hi⟩)

set_option maxRecDepth 100000 in
set_option maxHeartbeats 1000000 in
theorem check_nil (a b : Int) (w : World) : Calls Tryd.prog 42 #[.pointer none, .agg #[.int .i64 a, .int .i64 b]] w fun x w' => x = .returned (.iface 74 (.int .i64 1)) ∧ Below w.heap.size w w' := by
  have hh := hid (fun y => degree_nil a y)
  go_enter Tryd.func42, Tryd.ntmps42
  go_wp2_with fail
  refine (hh.out _).mono ?_
  rintro x w1 ⟨rfl, b1⟩
  have hb := hid ((balloc w _).trans (b1.mono (by simp)))
  clear b1
  go_wp2_with fail
  go_ret
  exact ⟨rfl, hb.out⟩

set_option maxRecDepth 100000 in
set_option maxHeartbeats 1000000 in
theorem check_range (h : TA w lo tb V E R) (a b : Int) (ha : a < 0 ∨ (V : Int) ≤ a) : Calls Tryd.prog 42 #[.pointer (some ⟨tb, 0, none⟩), .agg #[.int .i64 a, .int .i64 b]] w fun x w' => x = .returned (.iface 74 (.int .i64 12)) ∧ Below w.heap.size w w' := by
  have hh := hid (fun y (hy : Below w.heap.size w y) => degree_range (h.more hy) a ha)
  clear h ha
  go_enter Tryd.func42, Tryd.ntmps42
  go_wp2_with fail
  refine (hh.out _ (balloc _ _)).mono ?_
  rintro x w1 ⟨rfl, b1⟩
  have hb := hid ((balloc w _).trans (b1.mono (by simp)))
  clear b1
  go_wp2_with fail
  go_ret
  exact ⟨rfl, hb.out⟩

set_option maxRecDepth 100000 in
set_option maxHeartbeats 2000000 in
theorem check_in (h : TA w lo tb V E R) (u : Nat) (b : Int) (r : Value) (hu : u < V) (hr : (r = .nilIface ∧ Co V R (u : Int) b) ∨ (r = .iface 74 (.int .i64 13) ∧ ¬ Co V R (u : Int) b)) : Calls Tryd.prog 42 #[.pointer (some ⟨tb, 0, none⟩), .agg #[.int .i64 (u : Int), .int .i64 b]] w fun x w' => x = .returned r ∧ Below w.heap.size w w' := by
  have hh := hid (fun y (hy : Below w.heap.size w y) => degree_ok (h.more hy) u hu)
  obtain ⟨n, p, o, hat, ho, ho1, ho2, ho3⟩ := at_any h b
  clear ho3
  replace hat := hid hat
  have hou := ho u hu
  have hV := h.hV
  have hq := hid (heap_alloc_new w (.cells #[.int .i64 (u : Int), .int .i64 b] 53))
  have hb := hid (balloc w (.cells #[.int .i64 (u : Int), .int .i64 b] 53))
  obtain ⟨w1, hw1⟩ : ∃ w1, w.alloc (.cells #[.int .i64 (u : Int), .int .i64 b] 53) = w1 := ⟨_, rfl⟩
  rw [hw1] at hq hb
  obtain ⟨m, hm⟩ : ∃ m, m = (R u).length := ⟨_, rfl⟩
  rw [← hm] at hh
  have hlen : m ≤ 2097152 := by have := h.tn.len hu; have := h.hE; omega
  have hm0 : Hid (m = 0 ↔ R u = []) := by rw [hm]; exact hid List.length_eq_zero_iff
  replace hw1 := hid hw1
  clear h ho hm
  have hco : Hid (Co V R (u : Int) b ↔ (b = -1 ∧ m = 0) ∨ o = (u : Int)) := by
    refine hid ⟨?_, ?_⟩
    · rintro ⟨u', e, _, h1 | ⟨d, h1, h2⟩⟩
      · obtain rfl : u = u' := by omega
        exact .inl ⟨h1.1, hm0.out.2 h1.2⟩
      · obtain rfl : u = u' := by omega
        exact .inr (hou.2 ⟨d, h1, h2⟩)
    · rintro (⟨h1, h2⟩ | h1)
      · exact ⟨u, rfl, hu, .inl ⟨h1, hm0.out.1 h2⟩⟩
      · exact ⟨u, rfl, hu, .inr (hou.1 h1)⟩
  have hfd : ∀ w : World, (Instr.field 90 (.agg #[.int .i32 (n : Int), .int .i32 (p : Int), .int .i32 o]) 2).run Tryd.prog w = .ok (.int .i32 o) w := fun _ => by kernel_rfl
  replace hou := hid hou
  by_cases hbm : b = -1 ∧ m = 0
  · obtain ⟨rfl, rfl⟩ := hbm
    have hrr : r = .nilIface := by
      rcases hr with ⟨h1, _⟩ | ⟨_, h2⟩
      · exact h1
      · exact absurd (hco.out.2 (.inl ⟨rfl, rfl⟩)) h2
    subst hrr
    clear hr hco hm0
    go_enter Tryd.func42, Tryd.ntmps42
    go_wp2_with fail
    rw [hw1.out]
    refine (hh.out w1 hb.out).mono ?_
    rintro x w2 ⟨rfl, b2⟩
    obtain ⟨k0, k1, _, _⟩ := blk2' ((b2.block _ (Array.getElem?_eq_some_iff.1 hq.out).1).trans hq.out)
    have hb2 := hid (hb.out.trans (b2.mono hb.out.size))
    clear b2
    go_wp2_with fail
    go_ret
    exact ⟨rfl, hb2.out⟩
  · have hgo : ((b = -1 ∧ ((m : Int) == 0) = false ∧ ¬ (m : Int) = 0 ∧ o ≠ (u : Int)) ∨ ((b == -1) = false)) := by
      by_cases e : b = -1
      · have h0 : m ≠ 0 := fun e2 => hbm ⟨e, e2⟩
        exact .inl ⟨e, by simp; omega, by omega, fun e2 => by obtain ⟨k, hk, _⟩ := hou.out.1 e2; omega⟩
      · exact .inr (by simpa using e)
    have hor : (o = (u : Int) ∧ r = .nilIface) ∨ ((o != (u : Int)) = true ∧ (o == (u : Int)) = false ∧ r = .iface 74 (.int .i64 13)) := by
      by_cases e : o = (u : Int)
      · rcases hr with ⟨h1, _⟩ | ⟨_, h2⟩
        · exact .inl ⟨e, h1⟩
        · exact absurd (hco.out.2 (.inr e)) h2
      · rcases hr with ⟨_, h2⟩ | ⟨h1, _⟩
        · exact absurd (hco.out.1 h2) (by rintro (h | h); exact hbm h; exact e h)
        · exact .inr ⟨by simpa using e, by simpa using e, h1⟩
    clear hr hco hbm hm0 hou
    have hwo : IntKind.i64.wrap o = o := by rw [IntKind.wrap_i64]; omega
    rcases hgo with ⟨rfl, g1, g2, hne⟩ | g1
    · rcases hor with ⟨p1, _⟩ | ⟨p1, p2, rfl⟩
      · exact absurd p1 hne
      · clear hne
        go_enter Tryd.func42, Tryd.ntmps42
        go_wp2_with fail
        rw [hw1.out]
        refine (hh.out w1 hb.out).mono ?_
        rintro x w2 ⟨rfl, b2⟩
        have hq2 := hid ((b2.block _ (Array.getElem?_eq_some_iff.1 hq.out).1).trans hq.out)
        obtain ⟨k0, k1, _, _⟩ := blk2' hq2.out
        have hb2 := hid (hb.out.trans (b2.mono hb.out.size))
        clear b2
        go_wp2_with fail
        go_region_held3 (fun y => y.cell? ⟨w.heap.size, 0, none⟩ = some (.int .i64 (u : Int)) ∧ y.cell? ⟨w.heap.size, 1, none⟩ = some (.int .i64 (-1))) (first | exact ⟨k0, k1⟩ | exact ⟨j0, j1⟩ | go_keep) ((go_at_call 56; refine (hat.out _ (hb2.out.drew)).mono ?_; rintro e w3 ⟨rfl, b3⟩; have hb3 := hid (hb2.out.drew.trans (b3.mono hb2.out.size)); obtain ⟨j0, j1, _, _⟩ := blk2' ((b3.block _ (Array.getElem?_eq_some_iff.1 hq2.out).1).trans hq2.out); clear b3))
        go_wp2_with fail
        go_ret
        exact ⟨rfl, hb3.out⟩
    · rcases hor with ⟨rfl, rfl⟩ | ⟨p1, p2, rfl⟩
      · skip
        go_enter Tryd.func42, Tryd.ntmps42
        go_wp2_with fail
        rw [hw1.out]
        refine (hh.out w1 hb.out).mono ?_
        rintro x w2 ⟨rfl, b2⟩
        have hq2 := hid ((b2.block _ (Array.getElem?_eq_some_iff.1 hq.out).1).trans hq.out)
        obtain ⟨k0, k1, _, _⟩ := blk2' hq2.out
        have hb2 := hid (hb.out.trans (b2.mono hb.out.size))
        clear b2
        go_wp2_with fail
        go_region_held3 (fun y => y.cell? ⟨w.heap.size, 0, none⟩ = some (.int .i64 (u : Int)) ∧ y.cell? ⟨w.heap.size, 1, none⟩ = some (.int .i64 b)) (first | exact ⟨k0, k1⟩ | exact ⟨j0, j1⟩ | go_keep) ((go_at_call 56; refine (hat.out _ (hb2.out.drew)).mono ?_; rintro e w3 ⟨rfl, b3⟩; have hb3 := hid (hb2.out.drew.trans (b3.mono hb2.out.size)); obtain ⟨j0, j1, _, _⟩ := blk2' ((b3.block _ (Array.getElem?_eq_some_iff.1 hq2.out).1).trans hq2.out); clear b3))
        go_wp2_with fail
        go_ret
        exact ⟨rfl, hb3.out⟩
      · skip
        go_enter Tryd.func42, Tryd.ntmps42
        go_wp2_with fail
        rw [hw1.out]
        refine (hh.out w1 hb.out).mono ?_
        rintro x w2 ⟨rfl, b2⟩
        have hq2 := hid ((b2.block _ (Array.getElem?_eq_some_iff.1 hq.out).1).trans hq.out)
        obtain ⟨k0, k1, _, _⟩ := blk2' hq2.out
        have hb2 := hid (hb.out.trans (b2.mono hb.out.size))
        clear b2
        go_wp2_with fail
        go_region_held3 (fun y => y.cell? ⟨w.heap.size, 0, none⟩ = some (.int .i64 (u : Int)) ∧ y.cell? ⟨w.heap.size, 1, none⟩ = some (.int .i64 b)) (first | exact ⟨k0, k1⟩ | exact ⟨j0, j1⟩ | go_keep) ((go_at_call 56; refine (hat.out _ (hb2.out.drew)).mono ?_; rintro e w3 ⟨rfl, b3⟩; have hb3 := hid (hb2.out.drew.trans (b3.mono hb2.out.size)); obtain ⟨j0, j1, _, _⟩ := blk2' ((b3.block _ (Array.getElem?_eq_some_iff.1 hq2.out).1).trans hq2.out); clear b3))
        go_wp2_with fail
        go_ret
        exact ⟨rfl, hb3.out⟩
end

end Go.Proofs.YtieglcjfphmglaaDoor
