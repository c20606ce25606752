/- 'least', 'Degree', 'Round', 'Sizes', 'New', walked. 'New', 'Check', walked. 'put', 'take' over what stands round; 'Lift', walked. -/
import Derived.Test.YtegljhbjjdfhiaaDoorBfind
import Derived.Test.YtegljhbjjdfhiaaDoorApi10
import Derived.Test.YtegljhbjjdfhiaaDoorBwith
namespace Go.Proofs.YtegljhbjjdfhiaaDoor
open Go.RowKit
set_option linter.unusedVariables false

theorem itn_mem {l : List Nat} {x : Nat} (hn : l.Nodup) (hx : x ∈ l) : ∀ k, itn (nx l) k x ∈ l
  | 0 => hx
  | k + 1 => nx_mem (itn_mem hn hx k)

theorem itn_all {l : List Nat} {x y : Nat} (hn : l.Nodup) (hx : x ∈ l) (hy : y ∈ l) : ∃ k, k < l.length ∧ itn (nx l) k x = y := by
  obtain ⟨i, hi⟩ := List.getElem?_of_mem (rot_mem (x := x).2 hy)
  have hil := (List.getElem?_eq_some_iff.1 hi).1
  rw [rot_len] at hil
  rw [itn_get hn hx i hil] at hi
  exact ⟨i, hil, Option.some.inj hi⟩

/-- The least of those gone over. -/
def Lt (l : List Nat) (x i y : Nat) : Prop := y ∈ l ∧ ∀ k, k < i → y ≤ itn (nx l) k x

theorem Lt.end_ {l : List Nat} {x y : Nat} (hn : l.Nodup) (hx : x ∈ l) (h : Lt l x l.length y) : y = least0 l := by
  have hne : l ≠ [] := fun e => by rw [e] at hx; simp at hx
  obtain ⟨k, hk, e⟩ := itn_all hn hx (least0_mem l hne)
  have h1 := h.2 k hk
  rw [e] at h1
  have h2 := least0_le l y h.1
  omega

section
variable {w : World} {lo tb V E : Nat} {R : Nat → List Nat}



set_option maxRecDepth 100000 in
set_option maxHeartbeats 1000000 in
theorem degree_nil (v : Int) (w : World) : Calls Tryd.prog 61 #[.pointer none, .int .i64 v] w fun x w' => x = .returned (.tuple #[.int .i64 0, .iface 66 (.int .i64 1)]) ∧ Below w.heap.size w w' := by
  have hh := hid (stand_nil v w)
  go_enter Tryd.func61, Tryd.ntmps61
  go_wp2_with fail
  refine hh.out.mono ?_
  rintro x w1 ⟨rfl, b1⟩
  have hb := hid (b1.alloc b1.size (.cells #[.int .i32 0, .int .i32 0] 128))
  clear b1
  go_wp2_with fail
  go_ret2
  exact ⟨rfl, hb.out⟩

set_option maxRecDepth 100000 in
set_option maxHeartbeats 1000000 in
theorem degree_range (h : TA w lo tb V E R) (v : Int) (hv : v < 0 ∨ (V : Int) ≤ v) : Calls Tryd.prog 61 #[.pointer (some ⟨tb, 0, none⟩), .int .i64 v] w fun x w' => x = .returned (.tuple #[.int .i64 0, .iface 66 (.int .i64 12)]) ∧ Below w.heap.size w w' := by
  obtain ⟨dv, sv, K, M, D, S, h1, h2⟩ := h
  have hh := hid (stand_range v h1 hv)
  clear h1 h2 hv
  go_enter Tryd.func61, Tryd.ntmps61
  go_wp2_with fail
  refine hh.out.mono ?_
  rintro x w1 ⟨rfl, b1⟩
  have hb := hid (b1.alloc b1.size (.cells #[.int .i32 0, .int .i32 0] 128))
  clear b1
  go_wp2_with fail
  go_ret2
  exact ⟨rfl, hb.out⟩

theorem TA.stand (h : TA w lo tb V E R) (v : Nat) (hv : v < V) : ∃ dg so : Nat, dg = (R v).length ∧ (R v ≠ [] → so ∈ R v) ∧ dg ≤ 2097152 ∧ Calls Tryd.prog 81 #[.pointer (some ⟨tb, 0, none⟩), .int .i64 (v : Int)] w fun e w' => e = .returned (.tuple #[.agg #[.int .i32 (dg : Int), .int .i32 (so : Int)], .nilIface]) ∧ Below w.heap.size w w' := by
  have hl := h.tn.len hv
  have hEb := h.hE
  obtain ⟨dv, sv, K, M, D, S, h1, h2⟩ := h
  exact ⟨(S v).dg, (S v).so, h2.deg v hv, h2.som v hv, by rw [h2.deg v hv]; omega, stand_ok v h1 hv⟩

set_option maxRecDepth 100000 in
set_option maxHeartbeats 1000000 in
theorem degree_ok (h : TA w lo tb V E R) (v : Nat) (hv : v < V) : Calls Tryd.prog 61 #[.pointer (some ⟨tb, 0, none⟩), .int .i64 (v : Int)] w fun x w' => x = .returned (.tuple #[.int .i64 ((R v).length : Int), .nilIface]) ∧ Below w.heap.size w w' := by
  obtain ⟨dg, so, hdg, _, hle, hh⟩ := h.stand v hv
  rw [← hdg]
  replace hh := hid hh
  clear h hv hdg
  go_enter Tryd.func61, Tryd.ntmps61
  go_wp2_with fail
  refine hh.out.mono ?_
  rintro x w1 ⟨rfl, b1⟩
  have hb := hid (b1.alloc b1.size (.cells #[.int .i32 (dg : Int), .int .i32 (so : Int)] 128))
  clear b1
  go_wp2_with fail
  go_ret2
  exact ⟨rfl, hb.out⟩





theorem ownsRow_below' {w w' : World} {base e size n : Nat} {v : Value} {xs : List Value} (h : w.ownsRow base e size v n xs) (hb : Below w.heap.size w w') : w'.ownsRow base e size v n xs := by
  refine ⟨h.1, ?_⟩
  rcases h.2 with h2 | ⟨g, cap, cur, hv, hg, hh, r⟩
  · exact .inl h2
  · refine .inr ⟨g, cap, cur, hv, hg, ?_, r⟩
    rw [hb.block g (Array.getElem?_eq_some_iff.1 hh).1]
    exact hh

theorem set_mid (A : List Value) (z u : Value) (j n : Nat) (hA : A.length = j) (hj : j < n) : (A ++ List.replicate (n - j) z).set j u = (A ++ [u]) ++ List.replicate (n - (j + 1)) z := by
  rw [List.set_append_right _ _ (by omega), hA, Nat.sub_self, show n - j = (n - (j + 1)) + 1 from by omega, List.replicate_succ, List.set_cons_zero]
  simp

theorem get_mid (A : List Value) (z : Value) (j n : Nat) (hA : A.length = j) (hj : j < n) : (A ++ List.replicate (n - j) z)[j]? = some z := by
  rw [List.getElem?_append_right (by omega), hA, Nat.sub_self, List.getElem?_replicate, if_pos (by omega)]



set_option maxRecDepth 100000 in
set_option maxHeartbeats 1000000 in
theorem sizes_nil (w : World) : Calls Tryd.prog 56 #[.pointer none] w fun x w' => x = .returned (.tuple #[.int .i64 0, .int .i64 0]) ∧ w = w' := by
  go_enter Tryd.func56, Tryd.ntmps56
  go_wp2_with fail
  go_ret2
  exact ⟨rfl, rfl⟩

set_option maxRecDepth 100000 in
set_option maxHeartbeats 1000000 in
theorem sizes_ok (h : TA w lo tb V E R) : Calls Tryd.prog 56 #[.pointer (some ⟨tb, 0, none⟩)] w fun x w' => x = .returned (.tuple #[.int .i64 (V : Int), .int .i64 (E : Int)]) ∧ ∃ m, w' = w.drewN m := by
  obtain ⟨dv, sv, K, M, D, S, h1, h2⟩ := h
  have c0 := h1.c0
  have c1 := h1.c1
  clear h1 h2
  go_enter Tryd.func56, Tryd.ntmps56
  go_wp2_with fail
  go_quiet (fail)
  go_wp2_with fail
  go_ret2
  exact ⟨rfl, _, rfl⟩

theorem pair_at (a b : Int) (w : World) : (Instr.index 45 (.agg #[.int .i64 a, .int .i64 b]) (.int .i64 0)).run Tryd.prog w = .ok (.int .i64 a) w ∧ (Instr.index 45 (.agg #[.int .i64 a, .int .i64 b]) (.int .i64 1)).run Tryd.prog w = .ok (.int .i64 b) w := by
  obtain ⟨i0, hif, hz0, hz1, hz2⟩ := info_parts infoInt
  constructor <;> simp [Instr.index, asIntOf, run_underlying Tryd.underlying45, part, Go.sizeOf, typeInfo, hif, hz1, isAgg, run_underlying Tryd.underlying3, go_sem]
end

end Go.Proofs.YtegljhbjjdfhiaaDoor

namespace Go.Proofs.YtegljhbjjdfhiaaDoor
open Go.RowKit
set_option linter.unusedVariables false

set_option maxRecDepth 100000 in
set_option maxHeartbeats 1000000 in
theorem new_bad (v e : Int) (w : World) (h : ¬ (1 ≤ v ∧ v ≤ 1048576 ∧ 1 ≤ e ∧ e ≤ 1048576)) : Calls Tryd.prog 18 #[.int .i64 v, .int .i64 e] w fun x w' => x = .returned (.tuple #[.pointer none, .iface 66 (.int .i64 1)]) ∧ w = w' := by
  have hp := pair_at v e
  replace h := hid h
  go_enter Tryd.func18, Tryd.ntmps18
  go_wp2_with fail
  go_loop [7, 11] (fun _ s11 => ∃ j : Nat, j ≤ 2 ∧ s11 = .int .i64 (j : Int) ∧ Hid ((1 ≤ j → 1 ≤ v ∧ v ≤ 1048576) ∧ (2 ≤ j → 1 ≤ e ∧ e ≤ 1048576))) (fun _ s11 => 2 - (intOf s11).toNat)
  case atStart => exact ⟨0, by omega, by go_num, fun h => by omega, fun h => by omega⟩
  case round =>
    obtain ⟨j, hj, rfl, hst⟩ := hrel
    have hj3 : j = 0 ∨ j = 1 ∨ j = 2 := by omega
    rcases hj3 with rfl | rfl | rfl
    · have hi0 := (hp w).1
      by_cases h1 : v < 1
      · have t1 : decide (v < 1) = true := decide_eq_true h1
        go_wp2_with fail
        go_ret2
        exact ⟨rfl, rfl⟩
      · have t1 : decide (v < 1) = false := decide_eq_false h1
        by_cases h2 : 1048576 < v
        · have t2 : decide (1048576 < v) = true := decide_eq_true h2
          go_wp2_with fail
          go_ret2
          exact ⟨rfl, rfl⟩
        · have t2 : decide (1048576 < v) = false := decide_eq_false h2
          go_wp2_with fail
          go_round
          case rel => exact ⟨1, by omega, by go_num, fun _ => by omega, fun h => by omega⟩
          case measure => simp [intOf]
    · have hi0 := (hp w).2
      by_cases h1 : e < 1
      · have t1 : decide (e < 1) = true := decide_eq_true h1
        go_wp2_with fail
        go_ret2
        exact ⟨rfl, rfl⟩
      · have t1 : decide (e < 1) = false := decide_eq_false h1
        by_cases h2 : 1048576 < e
        · have t2 : decide (1048576 < e) = true := decide_eq_true h2
          go_wp2_with fail
          go_ret2
          exact ⟨rfl, rfl⟩
        · exact absurd ⟨(hst.out.1 (by omega)).1, (hst.out.1 (by omega)).2, by omega, by omega⟩ h.out
    · exact absurd ⟨(hst.out.1 (by omega)).1, (hst.out.1 (by omega)).2, (hst.out.2 (by omega)).1, (hst.out.2 (by omega)).2⟩ h.out

set_option maxRecDepth 100000 in
set_option maxHeartbeats 1000000 in
theorem new_ok (V E : Nat) (w : World) (h1 : 1 ≤ V) (h2 : V ≤ 1048576) (h3 : 1 ≤ E) (h4 : E ≤ 1048576) : Calls Tryd.prog 18 #[.int .i64 (V : Int), .int .i64 (E : Int)] w fun x w' => x = .returned (.tuple #[.pointer (some ⟨w.heap.size, 0, none⟩), .nilIface]) ∧ TA w' w.heap.size w.heap.size V E (fun _ => []) ∧ Below w.heap.size w w' := by
  have hp := pair_at (V : Int) (E : Int)
  have t1 : decide ((V : Int) < 1) = false := decide_eq_false (by omega)
  have t2 : decide (1048576 < (V : Int)) = false := decide_eq_false (by omega)
  have t3 : decide ((E : Int) < 1) = false := decide_eq_false (by omega)
  have t4 : decide (1048576 < (E : Int)) = false := decide_eq_false (by omega)
  go_enter Tryd.func18, Tryd.ntmps18
  go_wp2_with fail
  go_loop [7, 11] (fun _ s11 => ∃ j : Nat, j ≤ 2 ∧ s11 = .int .i64 (j : Int)) (fun _ s11 => 2 - (intOf s11).toNat)
  case atStart => exact ⟨0, by omega, by go_num⟩
  case round =>
    obtain ⟨j, hj, rfl⟩ := hrel
    have hj3 : j = 0 ∨ j = 1 ∨ j = 2 := by omega
    rcases hj3 with rfl | rfl | rfl
    · have hi0 := (hp w).1
      go_wp2_with fail
      go_round
      case rel => exact ⟨1, by omega, by go_num⟩
      case measure => simp [intOf]
    · have hi0 := (hp w).2
      go_wp2_with fail
      go_round
      case rel => exact ⟨2, by omega, by go_num⟩
      case measure => simp [intOf]
    · go_wp2_with fail
      go_ret2
      refine ⟨rfl, ⟨.slice none 0 0, .slice none 0 0, 0, 0, fun _ => nw, fun _ => sd0, ⟨heap_alloc_new _ _, World.ownsRow_nil _ _ _ _, World.ownsRow_nil _ _ _ _, fun _ _ => rfl, fun _ _ => rfl, Nat.le_refl _, Nat.zero_le _, Nat.zero_le _, h2, h4⟩, Tt.new V E⟩, (Below.refl _ _).alloc (Nat.le_refl _) _⟩

section
variable {w : World} {lo tb V E : Nat} {R : Nat → List Nat}

theorem at_any (h : TA w lo tb V E R) (b : Int) : ∃ (n p : Nat) (o : Int), (∀ y, Below w.heap.size w y → Calls Tryd.prog 52 #[.pointer (some ⟨tb, 0, none⟩), .int .i64 b] y fun e w' => e = .returned (.agg #[.int .i32 (n : Int), .int .i32 (p : Int), .int .i32 o]) ∧ Below y.heap.size y w') ∧ (∀ u, u < V → (o = (u : Int) ↔ ∃ k : Nat, b = (k : Int) ∧ k ∈ R u)) ∧ -1 ≤ o ∧ o ≤ 1048576 ∧ (o = -1 ↔ ¬ ∃ k : Nat, b = (k : Int) ∧ In V R k) := by
  have hV := h.hV
  obtain ⟨dv, sv, K, M, D, S, h1, h2⟩ := h
  by_cases hb : b < 0
  · refine ⟨0, 0, -1, fun y hy => at_none b (h1.more hy) (.inl hb), fun u hu => ⟨fun e => by omega, fun ⟨k, e, _⟩ => by omega⟩, by omega, by omega, ⟨fun _ => fun ⟨k, e, _⟩ => by omega, fun _ => rfl⟩⟩
  · obtain ⟨k, rfl⟩ : ∃ k : Nat, b = (k : Int) := ⟨b.toNat, by omega⟩
    refine ⟨(D k).nx, (D k).pv, (D k).og, fun y hy => at_ok k (h1.more hy), fun u hu => ?_, ?_, ?_, ?_⟩
    · rw [h2.og u k hu]
      refine ⟨fun hm => ⟨k, rfl, hm⟩, fun ⟨k', e, hm⟩ => ?_⟩
      obtain rfl : k = k' := by omega
      exact hm
    · by_cases hi : In V R k
      · obtain ⟨u, hu, hm⟩ := hi
        rw [h2.on u k hu hm]; simp only []; omega
      · rw [h2.off k hi]; omega
    · by_cases hi : In V R k
      · obtain ⟨u, hu, hm⟩ := hi
        rw [h2.on u k hu hm]; simp only []; omega
      · rw [h2.off k hi]; omega
    · constructor
      · rintro e ⟨k', e', hi⟩
        obtain rfl : k = k' := by omega
        exact (h2.laid k).2 hi e
      · intro hn
        exact h2.off k (fun hi => hn ⟨k, rfl, hi⟩)

set_option maxRecDepth 100000 in
set_option maxHeartbeats 1000000 in
theorem check_nil (a b : Int) (w : World) : Calls Tryd.prog 33 #[.pointer none, .agg #[.int .i64 a, .int .i64 b]] w fun x w' => x = .returned (.iface 66 (.int .i64 1)) ∧ Below w.heap.size w w' := by
  have hh := hid (fun y => degree_nil a y)
  go_enter Tryd.func33, Tryd.ntmps33
  go_wp2_with fail
  refine (hh.out _).mono ?_
  rintro x w1 ⟨rfl, b1⟩
  have hb := hid ((balloc w _).trans (b1.mono (by simp)))
  clear b1
  go_wp2_with fail
  go_ret
  exact ⟨rfl, hb.out⟩

set_option maxRecDepth 100000 in
set_option maxHeartbeats 1000000 in
theorem check_range (h : TA w lo tb V E R) (a b : Int) (ha : a < 0 ∨ (V : Int) ≤ a) : Calls Tryd.prog 33 #[.pointer (some ⟨tb, 0, none⟩), .agg #[.int .i64 a, .int .i64 b]] w fun x w' => x = .returned (.iface 66 (.int .i64 12)) ∧ Below w.heap.size w w' := by
  have hh := hid (fun y (hy : Below w.heap.size w y) => degree_range (h.more hy) a ha)
  clear h ha
  go_enter Tryd.func33, Tryd.ntmps33
  go_wp2_with fail
  refine (hh.out _ (balloc _ _)).mono ?_
  rintro x w1 ⟨rfl, b1⟩
  have hb := hid ((balloc w _).trans (b1.mono (by simp)))
  clear b1
  go_wp2_with fail
  go_ret
  exact ⟨rfl, hb.out⟩

set_option maxRecDepth 100000 in
set_option maxHeartbeats 2000000 in
theorem check_in (h : TA w lo tb V E R) (u : Nat) (b : Int) (r : Value) (hu : u < V) (hr : (r = .nilIface ∧ Co V R (u : Int) b) ∨ (r = .iface 66 (.int .i64 13) ∧ ¬ Co V R (u : Int) b)) : Calls Tryd.prog 33 #[.pointer (some ⟨tb, 0, none⟩), .agg #[.int .i64 (u : Int), .int .i64 b]] w fun x w' => x = .returned r ∧ Below w.heap.size w w' := by
  have hh := hid (fun y (hy : Below w.heap.size w y) => degree_ok (h.more hy) u hu)
  obtain ⟨n, p, o, hat, ho, ho1, ho2, ho3⟩ := at_any h b
  clear ho3
  replace hat := hid hat
  have hou := ho u hu
  have hV := h.hV
  have hq := hid (heap_alloc_new w (.cells #[.int .i64 (u : Int), .int .i64 b] 51))
  have hb := hid (balloc w (.cells #[.int .i64 (u : Int), .int .i64 b] 51))
  obtain ⟨w1, hw1⟩ : ∃ w1, w.alloc (.cells #[.int .i64 (u : Int), .int .i64 b] 51) = w1 := ⟨_, rfl⟩
  rw [hw1] at hq hb
  obtain ⟨m, hm⟩ : ∃ m, m = (R u).length := ⟨_, rfl⟩
  rw [← hm] at hh
  have hlen : m ≤ 2097152 := by have := h.tn.len hu; have := h.hE; omega
  have hm0 : Hid (m = 0 ↔ R u = []) := by rw [hm]; exact hid List.length_eq_zero_iff
  replace hw1 := hid hw1
  clear h ho hm
  have hco : Hid (Co V R (u : Int) b ↔ (b = -1 ∧ m = 0) ∨ o = (u : Int)) := by
    refine hid ⟨?_, ?_⟩
    · rintro ⟨u', e, _, h1 | ⟨d, h1, h2⟩⟩
      · obtain rfl : u = u' := by omega
        exact .inl ⟨h1.1, hm0.out.2 h1.2⟩
      · obtain rfl : u = u' := by omega
        exact .inr (hou.2 ⟨d, h1, h2⟩)
    · rintro (⟨h1, h2⟩ | h1)
      · exact ⟨u, rfl, hu, .inl ⟨h1, hm0.out.1 h2⟩⟩
      · exact ⟨u, rfl, hu, .inr (hou.1 h1)⟩
  have hfd : ∀ w : World, (Instr.field 115 (.agg #[.int .i32 (n : Int), .int .i32 (p : Int), .int .i32 o]) 2).run Tryd.prog w = .ok (.int .i32 o) w := fun _ => by kernel_rfl
  replace hou := hid hou
  by_cases hbm : b = -1 ∧ m = 0
  · obtain ⟨rfl, rfl⟩ := hbm
    have hrr : r = .nilIface := by
      rcases hr with ⟨h1, _⟩ | ⟨_, h2⟩
      · exact h1
      · exact absurd (hco.out.2 (.inl ⟨rfl, rfl⟩)) h2
    subst hrr
    clear hr hco hm0
    go_enter Tryd.func33, Tryd.ntmps33
    go_wp2_with fail
    rw [hw1.out]
    refine (hh.out w1 hb.out).mono ?_
    rintro x w2 ⟨rfl, b2⟩
    obtain ⟨k0, k1, _, _⟩ := blk2' ((b2.block _ (Array.getElem?_eq_some_iff.1 hq.out).1).trans hq.out)
    have hb2 := hid (hb.out.trans (b2.mono hb.out.size))
    clear b2
    go_wp2_with fail
    go_ret
    exact ⟨rfl, hb2.out⟩
  · have hgo : ((b = -1 ∧ ((m : Int) == 0) = false ∧ ¬ (m : Int) = 0 ∧ o ≠ (u : Int)) ∨ ((b == -1) = false)) := by
      by_cases e : b = -1
      · have h0 : m ≠ 0 := fun e2 => hbm ⟨e, e2⟩
        exact .inl ⟨e, by simp; omega, by omega, fun e2 => by obtain ⟨k, hk, _⟩ := hou.out.1 e2; omega⟩
      · exact .inr (by simpa using e)
    have hor : (o = (u : Int) ∧ r = .nilIface) ∨ ((o != (u : Int)) = true ∧ (o == (u : Int)) = false ∧ r = .iface 66 (.int .i64 13)) := by
      by_cases e : o = (u : Int)
      · rcases hr with ⟨h1, _⟩ | ⟨_, h2⟩
        · exact .inl ⟨e, h1⟩
        · exact absurd (hco.out.2 (.inr e)) h2
      · rcases hr with ⟨_, h2⟩ | ⟨h1, _⟩
        · exact absurd (hco.out.1 h2) (by rintro (h | h); exact hbm h; exact e h)
        · exact .inr ⟨by simpa using e, by simpa using e, h1⟩
    clear hr hco hbm hm0 hou
    have hwo : IntKind.i64.wrap o = o := by rw [IntKind.wrap_i64]; omega
    rcases hgo with ⟨rfl, g1, g2, hne⟩ | g1
    · rcases hor with ⟨p1, _⟩ | ⟨p1, p2, rfl⟩
      · exact absurd p1 hne
      · clear hne
        go_enter Tryd.func33, Tryd.ntmps33
        go_wp2_with fail
        rw [hw1.out]
        refine (hh.out w1 hb.out).mono ?_
        rintro x w2 ⟨rfl, b2⟩
        have hq2 := hid ((b2.block _ (Array.getElem?_eq_some_iff.1 hq.out).1).trans hq.out)
        obtain ⟨k0, k1, _, _⟩ := blk2' hq2.out
        have hb2 := hid (hb.out.trans (b2.mono hb.out.size))
        clear b2
        go_wp2_with fail
        go_region_held3 (fun y => y.cell? ⟨w.heap.size, 0, none⟩ = some (.int .i64 (u : Int)) ∧ y.cell? ⟨w.heap.size, 1, none⟩ = some (.int .i64 (-1))) (first | exact ⟨k0, k1⟩ | exact ⟨j0, j1⟩ | go_keep) ((go_at_call 52; refine (hat.out _ (hb2.out.drew)).mono ?_; rintro e w3 ⟨rfl, b3⟩; have hb3 := hid (hb2.out.drew.trans (b3.mono hb2.out.size)); obtain ⟨j0, j1, _, _⟩ := blk2' ((b3.block _ (Array.getElem?_eq_some_iff.1 hq2.out).1).trans hq2.out); clear b3))
        go_wp2_with fail
        go_ret
        exact ⟨rfl, hb3.out⟩
    · rcases hor with ⟨rfl, rfl⟩ | ⟨p1, p2, rfl⟩
      · skip
        go_enter Tryd.func33, Tryd.ntmps33
        go_wp2_with fail
        rw [hw1.out]
        refine (hh.out w1 hb.out).mono ?_
        rintro x w2 ⟨rfl, b2⟩
        have hq2 := hid ((b2.block _ (Array.getElem?_eq_some_iff.1 hq.out).1).trans hq.out)
        obtain ⟨k0, k1, _, _⟩ := blk2' hq2.out
        have hb2 := hid (hb.out.trans (b2.mono hb.out.size))
        clear b2
        go_wp2_with fail
        go_region_held3 (fun y => y.cell? ⟨w.heap.size, 0, none⟩ = some (.int .i64 (u : Int)) ∧ y.cell? ⟨w.heap.size, 1, none⟩ = some (.int .i64 b)) (first | exact ⟨k0, k1⟩ | exact ⟨j0, j1⟩ | go_keep) ((go_at_call 52; refine (hat.out _ (hb2.out.drew)).mono ?_; rintro e w3 ⟨rfl, b3⟩; have hb3 := hid (hb2.out.drew.trans (b3.mono hb2.out.size)); obtain ⟨j0, j1, _, _⟩ := blk2' ((b3.block _ (Array.getElem?_eq_some_iff.1 hq2.out).1).trans hq2.out); clear b3))
        go_wp2_with fail
        go_ret
        exact ⟨rfl, hb3.out⟩
      · skip
        go_enter Tryd.func33, Tryd.ntmps33
        go_wp2_with fail
        rw [hw1.out]
        refine (hh.out w1 hb.out).mono ?_
        rintro x w2 ⟨rfl, b2⟩
        have hq2 := hid ((b2.block _ (Array.getElem?_eq_some_iff.1 hq.out).1).trans hq.out)
        obtain ⟨k0, k1, _, _⟩ := blk2' hq2.out
        have hb2 := hid (hb.out.trans (b2.mono hb.out.size))
        clear b2
        go_wp2_with fail
        go_region_held3 (fun y => y.cell? ⟨w.heap.size, 0, none⟩ = some (.int .i64 (u : Int)) ∧ y.cell? ⟨w.heap.size, 1, none⟩ = some (.int .i64 b)) (first | exact ⟨k0, k1⟩ | exact ⟨j0, j1⟩ | go_keep) ((go_at_call 52; refine (hat.out _ (hb2.out.drew)).mono ?_; rintro e w3 ⟨rfl, b3⟩; have hb3 := hid (hb2.out.drew.trans (b3.mono hb2.out.size)); obtain ⟨j0, j1, _, _⟩ := blk2' ((b3.block _ (Array.getElem?_eq_some_iff.1 hq2.out).1).trans hq2.out); clear b3))
        go_wp2_with fail
        go_ret
        exact ⟨rfl, hb3.out⟩
end

end Go.Proofs.YtegljhbjjdfhiaaDoor

namespace Go.Proofs.YtegljhbjjdfhiaaDoor
open Go.RowKit
set_option linter.unusedVariables false

section
variable {w : World} {lo tb V E : Nat} {R : Nat → List Nat}

theorem TA.take (h : TA w lo tb V E R) (d v : Nat) (hv : v < V) (hd : d ∈ R v) : Calls Tryd.prog 64 #[.pointer (some ⟨tb, 0, none⟩), .int .i64 (d : Int)] w fun e w' => e = .returned (.tuple #[]) ∧ TA w' lo tb V E (outR R d) ∧ Kp lo w w' := by
  have hlen := h.tn.len hv
  have hEb := h.hE
  have hn := h.tn.nd v hv
  obtain ⟨dv, sv, K, M, D, S, h1, h2⟩ := h
  have og : ∀ x, x ∈ R v → x < K := fun x hx => h1.dlt (by rw [h2.on v x hv hx]; simp only []; omega)
  have hdeg := h2.deg v hv
  have hpos := List.length_pos_of_mem hd
  have hvM : v < M := by
    rcases Nat.lt_or_ge v M with q | q
    · exact q
    · have := h1.rs v q
      rw [this] at hdeg
      simp [sd0] at hdeg
      omega
  refine (take_ok d v (nx (R v) d) (pv (R v) d) h1 (og d hd) (h2.on v d hv hd) (og _ (nx_mem hd)) (og _ (pv_mem hn hd).1) hvM (by omega) (by omega)).mono ?_
  rintro e w' ⟨rfl, K', M', dv', sv', g1, g2⟩
  exact ⟨rfl, ⟨dv', sv', K', M', _, _, g1, h2.take hv hd⟩, g2⟩

theorem TA.putc (h : TA w lo tb V E R) (d v : Nat) (b : Int) (hc : Co V R (v : Int) b) (hd : d < 2 * E) (hn : ¬ In V R d) : Calls Tryd.prog 35 #[.pointer (some ⟨tb, 0, none⟩), .int .i64 (d : Int), .agg #[.int .i64 (v : Int), .int .i64 b]] w fun e w' => e = .returned (.tuple #[]) ∧ TA w' lo tb V E (putR R v (co b) d) ∧ Kp lo w w' := by
  have hEb := h.hE
  obtain ⟨u, e, hu, hcc⟩ := hc
  obtain rfl : v = u := by omega
  have hlen := h.tn.len hu
  obtain ⟨dv, sv, K, M, D, S, h1, h2⟩ := h
  have hdeg := h2.deg v hu
  rcases hcc with ⟨rfl, h3⟩ | ⟨k, rfl, h3⟩
  · refine (put_ok d v d d (-1) h1 hd hu (by omega) (.inl ⟨rfl, rfl, rfl⟩)).mono ?_
    rintro e w' ⟨rfl, K', M', dv', sv', g1, g2⟩
    exact ⟨rfl, ⟨dv', sv', K', M', _, _, g1, h2.alone hu h3 hn hd⟩, g2⟩
  · have hon := h2.on v k hu h3
    have hon2 := h2.on v _ hu (nx_mem h3)
    refine (put_ok d v (nx (R v) k) k (k : Int) h1 hd hu (by omega) (.inr ⟨rfl, by rw [hon], by rw [hon]; simp only []; omega, by rw [hon2]; simp only []; omega⟩)).mono ?_
    rintro e w' ⟨rfl, K', M', dv', sv', g1, g2⟩
    rw [co_some]
    exact ⟨rfl, ⟨dv', sv', K', M', _, _, g1, h2.put hu h3 hn hd⟩, g2⟩

set_option maxRecDepth 100000 in
set_option maxHeartbeats 1000000 in
theorem lift_nil (e : Int) (w : World) : Calls Tryd.prog 37 #[.pointer none, .int .i64 e] w fun x w' => x = .returned (.iface 66 (.int .i64 1)) ∧ w = w' := by
  have hh := hid (holds_nil e w)
  go_enter Tryd.func37, Tryd.ntmps37
  go_wp2_with fail
  refine hh.out.mono ?_
  rintro x w1 ⟨rfl, rfl⟩
  go_wp2_with fail
  go_ret
  exact ⟨rfl, rfl⟩

set_option maxRecDepth 100000 in
set_option maxHeartbeats 1000000 in
theorem lift_range (h : TA w lo tb V E R) (e : Int) (he : e < 0 ∨ (E : Int) ≤ e) : Calls Tryd.prog 37 #[.pointer (some ⟨tb, 0, none⟩), .int .i64 e] w fun x w' => x = .returned (.iface 66 (.int .i64 12)) ∧ w = w' := by
  obtain ⟨dv, sv, K, M, D, S, h1, h2⟩ := h
  have hh := hid (holds_range e h1 he)
  clear h1 h2 he
  go_enter Tryd.func37, Tryd.ntmps37
  go_wp2_with fail
  refine hh.out.mono ?_
  rintro x w1 ⟨rfl, rfl⟩
  go_wp2_with fail
  go_ret
  exact ⟨rfl, rfl⟩

set_option maxRecDepth 100000 in
set_option maxHeartbeats 1000000 in
theorem lift_stale (h : TA w lo tb V E R) (e : Nat) (he : e < E) (hn : ¬ In V R (2 * e)) : Calls Tryd.prog 37 #[.pointer (some ⟨tb, 0, none⟩), .int .i64 (e : Int)] w fun x w' => x = .returned (.iface 66 (.int .i64 13)) ∧ Below w.heap.size w w' := by
  obtain ⟨dv, sv, K, M, D, S, h1, h2⟩ := h
  have hh := hid (holds_ok e false h1 he (fun q => by cases q) (fun _ => h2.off _ hn))
  clear h1 h2 he hn
  go_enter Tryd.func37, Tryd.ntmps37
  go_wp2_with fail
  refine hh.out.mono ?_
  rintro x w1 ⟨rfl, b1⟩
  replace b1 := hid b1
  go_wp2_with fail
  go_ret
  exact ⟨rfl, b1.out⟩

set_option maxRecDepth 100000 in
set_option maxHeartbeats 1000000 in
theorem lift_ok (h : TA w lo tb V E R) (e : Nat) (he : e < E) (hi : In V R (2 * e)) (hj : In V R (2 * e + 1)) : Calls Tryd.prog 37 #[.pointer (some ⟨tb, 0, none⟩), .int .i64 (e : Int)] w fun x w' => x = .returned .nilIface ∧ TA w' lo tb V E (liftR R e) ∧ Kp lo w w' := by
  have hEb := h.hE
  have ht := h.tn
  have hs := hid (fun y => sides_ok e y (by omega))
  have h0 := hid h
  obtain ⟨dv, sv, K, M, D, S, h1, h2⟩ := h
  have hh := hid (holds_ok e true h1 he (fun _ => (h2.laid _).2 hi) (fun q => by cases q))
  obtain ⟨v, hv, hm⟩ := hj
  have h3 := hid (fun y (hy : TA y lo tb V E R) => hy.take (2 * e + 1) v hv hm)
  obtain ⟨u, hu, hm2⟩ := hi
  have hm3 : 2 * e ∈ outR R (2 * e + 1) u := (del_mem (ht.nd u hu)).2 ⟨hm2, by omega⟩
  have h4 := hid (fun y (hy : TA y lo tb V E (outR R (2 * e + 1))) => hy.take (2 * e) u hu hm3)
  have hfin := hid (out_out R (2 * e + 1) (2 * e))
  clear h1 h2 he hm hm2 hm3 ht
  go_enter Tryd.func37, Tryd.ntmps37
  go_wp2_with fail
  refine hh.out.mono ?_
  rintro x w1 ⟨rfl, b1⟩
  replace b1 := hid b1
  go_wp2_with fail
  refine (hs.out w1).mono ?_
  rintro x w1 ⟨rfl, rfl⟩
  go_wp2_with fail
  refine (h3.out _ (h0.out.more b1.out)).mono ?_
  rintro x w2 ⟨rfl, a2, k2⟩
  replace a2 := hid a2
  replace k2 := hid k2
  go_wp2_with fail
  refine (h4.out w2 a2.out).mono ?_
  rintro x w3 ⟨rfl, a3, k3⟩
  rw [hfin.out] at a3
  replace a3 := hid a3
  replace k3 := hid k3
  go_wp2_with fail
  go_ret
  exact ⟨rfl, a3.out, ((Kp.ofBelow b1.out lo).trans k2.out).trans k3.out⟩
end

end Go.Proofs.YtegljhbjjdfhiaaDoor
