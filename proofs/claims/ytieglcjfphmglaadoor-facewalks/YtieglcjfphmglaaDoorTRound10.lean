/- 'least', 'Degree', 'Round', 'Sizes', 'New', walked. -/
import Derived.Test.YtieglcjfphmglaaDoorApi10
import Derived.Test.YtieglcjfphmglaaDoorRound10
namespace Go.Proofs.YtieglcjfphmglaaDoor
open Go.RowKit
set_option linter.unusedVariables false

theorem itn_mem {l : List Nat} {x : Nat} (hn : l.Nodup) (hx : x ∈ l) : ∀ k, itn (nx l) k x ∈ l
  | 0 => hx
  | k + 1 => nx_mem (itn_mem hn hx k)

theorem itn_all {l : List Nat} {x y : Nat} (hn : l.Nodup) (hx : x ∈ l) (hy : y ∈ l) : ∃ k, k < l.length ∧ itn (nx l) k x = y := by
  obtain ⟨i, hi⟩ := List.getElem?_of_mem (rot_mem (x := x).2 hy)
  have hil := (List.getElem?_eq_some_iff.1 hi).1
  rw [rot_len] at hil
  rw [itn_get hn hx i hil] at hi
  exact ⟨i, hil, Option.some.inj hi⟩

/-- The least of those gone over. -/
def Lt (l : List Nat) (x i y : Nat) : Prop := y ∈ l ∧ ∀ k, k < i → y ≤ itn (nx l) k x

theorem Lt.end_ {l : List Nat} {x y : Nat} (hn : l.Nodup) (hx : x ∈ l) (h : Lt l x l.length y) : y = least0 l := by
  have hne : l ≠ [] := fun e => by rw [e] at hx; simp at hx
  obtain ⟨k, hk, e⟩ := itn_all hn hx (least0_mem l hne)
  have h1 := h.2 k hk
  rw [e] at h1
  have h2 := least0_le l y h.1
  omega

section
variable {w : World} {lo tb V E : Nat} {R : Nat → List Nat}



set_option maxRecDepth 100000 in
set_option maxHeartbeats 1000000 in
theorem degree_nil (v : Int) (w : World) : Calls Tryd.prog 28 #[.pointer none, .int .i64 v] w fun x w' => x = .returned (.tuple #[.int .i64 0, .iface 74 (.int .i64 1)]) ∧ Below w.heap.size w w' := by
  have hh := hid (stand_nil v w)
  go_enter Tryd.func28, Tryd.ntmps28
  go_wp2_with fail
  refine hh.out.mono ?_
  rintro x w1 ⟨rfl, b1⟩
  have hb := hid (b1.alloc b1.size (.cells #[.int .i32 0, .int .i32 0] 83))
  clear b1
  go_wp2_with fail
  go_ret2
  exact ⟨rfl, hb.out⟩

set_option maxRecDepth 100000 in
set_option maxHeartbeats 1000000 in
theorem degree_range (h : TA w lo tb V E R) (v : Int) (hv : v < 0 ∨ (V : Int) ≤ v) : Calls Tryd.prog 28 #[.pointer (some ⟨tb, 0, none⟩), .int .i64 v] w fun x w' => x = .returned (.tuple #[.int .i64 0, .iface 74 (.int .i64 12)]) ∧ Below w.heap.size w w' := by
  obtain ⟨dv, sv, K, M, D, S, h1, h2⟩ := h
  have hh := hid (stand_range v h1 hv)
  clear h1 h2 hv
  go_enter Tryd.func28, Tryd.ntmps28
  go_wp2_with fail
  refine hh.out.mono ?_
  rintro x w1 ⟨rfl, b1⟩
  have hb := hid (b1.alloc b1.size (.cells #[.int .i32 0, .int .i32 0] 83))
  clear b1
  go_wp2_with fail
  go_ret2
  exact ⟨rfl, hb.out⟩

theorem TA.stand (h : TA w lo tb V E R) (v : Nat) (hv : v < V) : ∃ dg so : Nat, dg = (R v).length ∧ (R v ≠ [] → so ∈ R v) ∧ dg ≤ 2097152 ∧ Calls Tryd.prog 45 #[.pointer (some ⟨tb, 0, none⟩), .int .i64 (v : Int)] w fun e w' => e = .returned (.tuple #[.agg #[.int .i32 (dg : Int), .int .i32 (so : Int)], .nilIface]) ∧ Below w.heap.size w w' := by
  have hl := h.tn.len hv
  have hEb := h.hE
  obtain ⟨dv, sv, K, M, D, S, h1, h2⟩ := h
  exact ⟨(S v).dg, (S v).so, h2.deg v hv, h2.som v hv, by rw [h2.deg v hv]; omega, stand_ok v h1 hv⟩

set_option maxRecDepth 100000 in
set_option maxHeartbeats 1000000 in
theorem degree_ok (h : TA w lo tb V E R) (v : Nat) (hv : v < V) : Calls Tryd.prog 28 #[.pointer (some ⟨tb, 0, none⟩), .int .i64 (v : Int)] w fun x w' => x = .returned (.tuple #[.int .i64 ((R v).length : Int), .nilIface]) ∧ Below w.heap.size w w' := by
  obtain ⟨dg, so, hdg, _, hle, hh⟩ := h.stand v hv
  rw [← hdg]
  replace hh := hid hh
  clear h hv hdg
  go_enter Tryd.func28, Tryd.ntmps28
  go_wp2_with fail
  refine hh.out.mono ?_
  rintro x w1 ⟨rfl, b1⟩
  have hb := hid (b1.alloc b1.size (.cells #[.int .i32 (dg : Int), .int .i32 (so : Int)] 83))
  clear b1
  go_wp2_with fail
  go_ret2
  exact ⟨rfl, hb.out⟩





theorem ownsRow_below' {w w' : World} {base e size n : Nat} {v : Value} {xs : List Value} (h : w.ownsRow base e size v n xs) (hb : Below w.heap.size w w') : w'.ownsRow base e size v n xs := by
  refine ⟨h.1, ?_⟩
  rcases h.2 with h2 | ⟨g, cap, cur, hv, hg, hh, r⟩
  · exact .inl h2
  · refine .inr ⟨g, cap, cur, hv, hg, ?_, r⟩
    rw [hb.block g (Array.getElem?_eq_some_iff.1 hh).1]
    exact hh

theorem set_mid (A : List Value) (z u : Value) (j n : Nat) (hA : A.length = j) (hj : j < n) : (A ++ List.replicate (n - j) z).set j u = (A ++ [u]) ++ List.replicate (n - (j + 1)) z := by
  rw [List.set_append_right _ _ (by omega), hA, Nat.sub_self, show n - j = (n - (j + 1)) + 1 from by omega, List.replicate_succ, List.set_cons_zero]
  simp

theorem get_mid (A : List Value) (z : Value) (j n : Nat) (hA : A.length = j) (hj : j < n) : (A ++ List.replicate (n - j) z)[j]? = some z := by
  rw [List.getElem?_append_right (by omega), hA, Nat.sub_self, List.getElem?_replicate, if_pos (by omega)]



set_option maxRecDepth 100000 in
set_option maxHeartbeats 1000000 in
theorem sizes_nil (w : World) : Calls Tryd.prog 39 #[.pointer none] w fun x w' => x = .returned (.tuple #[.int .i64 0, .int .i64 0]) ∧ w = w' := by
  go_enter Tryd.func39, Tryd.ntmps39
  go_wp2_with fail
  go_ret2
  exact ⟨rfl, rfl⟩

set_option maxRecDepth 100000 in
set_option maxHeartbeats 1000000 in
theorem sizes_ok (h : TA w lo tb V E R) : Calls Tryd.prog 39 #[.pointer (some ⟨tb, 0, none⟩)] w fun x w' => x = .returned (.tuple #[.int .i64 (V : Int), .int .i64 (E : Int)]) ∧ ∃ m, w' = w.drewN m := by
  obtain ⟨dv, sv, K, M, D, S, h1, h2⟩ := h
  have c0 := h1.c0
  have c1 := h1.c1
  clear h1 h2
  go_enter Tryd.func39, Tryd.ntmps39
  go_wp2_with fail
  go_quiet (fail)
  go_wp2_with fail
  go_ret2
  exact ⟨rfl, _, rfl⟩

theorem pair_at (a b : Int) (w : World) : (Instr.index 47 (.agg #[.int .i64 a, .int .i64 b]) (.int .i64 0)).run Tryd.prog w = .ok (.int .i64 a) w ∧ (Instr.index 47 (.agg #[.int .i64 a, .int .i64 b]) (.int .i64 1)).run Tryd.prog w = .ok (.int .i64 b) w := by
  obtain ⟨i0, hif, hz0, hz1, hz2⟩ := info_parts infoInt
  constructor <;> simp [Instr.index, asIntOf, run_underlying Tryd.underlying47, part, Go.sizeOf, typeInfo, hif, hz1, isAgg, run_underlying Tryd.underlying3, go_sem]
end

end Go.Proofs.YtieglcjfphmglaaDoor
