/- 'reach', walked: the table grows. -/
import Derived.Test.YtpelpcplagfdiaaDoorMove
import Derived.Laws.CopyOwn
import Derived.OwnWalk
import Derived.Deep.Cut
namespace Go.Proofs.YtpelpcplagfdiaaDoor
open Go.RowKit
set_option linter.unusedVariables false

theorem flat_add (T : Tb) (N : Nat) : ∀ d, flat T (N + d) = flat T N ++ flat (fun i => T (N + i)) d
  | 0 => by simp [flat]
  | d + 1 => by
    rw [show N + (d + 1) = (N + d) + 1 from rfl]
    simp only [flat]
    rw [flat_add T N d, List.append_assoc]

theorem flat_over {T Z : Tb} {N K : Nat} (h : N ≤ K) (hz : ∀ i, N ≤ i → T i = Z i) : flat T N ++ (flat Z K).drop (flat T N).length = flat T K := by
  obtain ⟨d, rfl⟩ : ∃ d, K = N + d := ⟨K - N, by omega⟩
  rw [flat_add Z N d, flat_add T N d, flat_length, List.drop_left' (flat_length Z N)]
  congr 1
  exact flat_congr (fun i _ => (hz (N + i) (by omega)).symm)

def zn : Array Value := #[.int .i64 0, .int .i64 0, .int .i64 0, .int .i64 0, .int .i32 0, .int .i32 0, .int .i32 0, .int .i32 0, .bool false]

theorem made_flat (K : Nat) : madeCells zn (K * 9) = (flat (fun _ => nd0) K).toArray := by
  apply Array.ext
  · simp [madeCells, flat_length]
  · intro j h1 h2
    have hj : j < K * 9 := by simpa [madeCells] using h1
    have e := flat_get (fun _ => nd0) K (j / 9) (j % 9) (by omega) (Nat.mod_lt _ (by decide))
    rw [show j / 9 * 9 + j % 9 = j from by omega] at e
    have e2 : (flat (fun _ => nd0) K)[j]? = some ((flat (fun _ => nd0) K).toArray[j]) := by simp
    rw [e2] at e
    have hm : j % 9 < 9 := Nat.mod_lt _ (by decide)
    have key : ∀ k, k < 9 → (nc nd0)[k]? = some (zn[k]!) := fun k hk => match k, hk with
      | 0, _ => rfl | 1, _ => rfl | 2, _ => rfl | 3, _ => rfl | 4, _ => rfl | 5, _ => rfl | 6, _ => rfl | 7, _ => rfl | 8, _ => rfl
    rw [key _ hm] at e
    injection e with e
    rw [e]
    simp [madeCells, zn]

theorem infoNode : (Tryd.prog.info? 53).map (fun i => (i.zero.map Value.cells, i.size, i.bytes)) = some (some zn, 9, 56) := by kernel_rfl

theorem sizeNode : (Tryd.prog.info? 53).map (·.size) = some 9 := by kernel_rfl

theorem make_nodes (K : Nat) (hK : K ≤ 8388609) (w : World) :
    (Instr.makeSlice 55 (.int .i64 (K : Int)) (.int .i64 (K : Int))).run Tryd.prog w = .ok (.slice (some ⟨w.heap.size, 0, none⟩) K K) (w.alloc (.cells (flat (fun _ => nd0) K).toArray 53)) := by
  obtain ⟨i0, hi, e⟩ : ∃ i, Tryd.prog.info? 53 = some i ∧ (i.zero.map Value.cells, i.size, i.bytes) = (some zn, 9, 56) := by
    have := infoNode
    cases h : Tryd.prog.info? 53 with
    | none => rw [h] at this; cases this
    | some i => rw [h] at this; exact ⟨i, rfl, Option.some.inj this⟩
  have e1 : i0.zero.map Value.cells = some zn := congrArg Prod.fst e
  have e2 : i0.size = 9 := congrArg (fun p => p.2.1) e
  have e3 : i0.bytes = 56 := congrArg (fun p => p.2.2) e
  clear e
  cases hz : i0.zero with
  | none => rw [hz] at e1; cases e1
  | some z =>
    rw [hz] at e1
    have ez : z.cells = zn := Option.some.inj e1
    have h := run_make (P := Tryd.prog) w 55 53 i0 z Tryd.underlying55 hi hz .i64 .i64 K K (by omega) (Int.le_refl _) (by rw [e3]; omega) (by omega)
    rw [h]
    simp only [Int.toNat_natCast, e2, ez, made_flat]

theorem nc_one (n : Nd) : ∀ u ∈ nc n, u.oneCell' = true := by
  intro u hu
  simp only [nc, List.mem_cons, List.mem_nil_iff, or_false] at hu
  rcases hu with rfl | rfl | rfl | rfl | rfl | rfl | rfl | rfl | rfl <;> rfl

theorem flat_one (T : Tb) : ∀ N, ∀ u ∈ flat T N, u.oneCell' = true
  | 0, u, hu => by cases hu
  | N + 1, u, hu => by
    rcases List.mem_append.1 hu with h | h
    · exact flat_one T N u h
    · exact nc_one _ u h

/-- Nodes copied over the begin of new ones. -/
theorem copy_nodes {w : World} {g b N K : Nat} {T : Tb} (h1 : w.heap[g]? = some (.cells (flat (fun _ => nd0) K).toArray 53 (0, 0))) (h2 : w.heap[b]? = some (.cells (flat T N).toArray 53 (0, 0))) (hNK : N ≤ K) (hz : ∀ i, N ≤ i → T i = nd0) (ty : TypeId) :
    (Builtin.copy_ #[55, 55] ty #[.slice (some ⟨g, 0, none⟩) K K, .slice (some ⟨b, 0, none⟩) N N]).run Tryd.prog w = .ok (goInt N) (w.setRow g (flat T K).toArray) := by
  have hsrc : ∀ j u, (flat T N)[j]? = some u → w.cell? ((⟨b, 0, none⟩ : Addr).add j) = some u := by
    intro j u hu
    rw [show (⟨b, 0, none⟩ : Addr).add j = ⟨b, j, none⟩ from by unfold Addr.add; split <;> simp_all]
    unfold World.cell?
    rw [h2]
    simpa using hu
  have hl := run_loadCells_list (P := Tryd.prog) w ⟨b, 0, none⟩ (flat T N) hsrc
  have hst := run_storeCells_at Tryd.prog g 0 53 (flat T N) 0 _ w h1 (by simp [flat_length]; omega) (flat_one T N)
  have e : (flat T N ++ (flat (fun _ => nd0) K).drop (flat T N).length) = flat T K := flat_over hNK hz
  have hmin : Nat.min N K = N := Nat.min_eq_left hNK
  rw [flat_length] at hl e
  simp only [List.take_zero, List.nil_append, Nat.zero_add, flat_length] at hst
  rw [e] at hst
  have hi : ∃ i, Tryd.prog.info? 53 = some i ∧ i.size = 9 := by
    have := sizeNode
    cases h : Tryd.prog.info? 53 with
    | none => rw [h] at this; cases this
    | some i => rw [h] at this; exact ⟨i, rfl, Option.some.inj this⟩
  obtain ⟨i, hq, hi⟩ := hi
  simp [Builtin.copy_, run_underlying Tryd.underlying55, Builtin.lenOf, Builtin.firstCells, sizeOf, typeInfo, hq, hi, hmin, hl, hst]

/-- The Forest with its table grown. -/
theorem Fo.grow {w : World} {fb nb n N K : Nat} {T : Tb} (h : Fo w fb nb n N T) (hK : K ≤ 8388609) :
    Fo (((w.alloc (.cells (flat (fun _ => nd0) K).toArray 53)).setRow w.heap.size (flat T K).toArray).setCell ⟨fb, 1, none⟩ (.slice (some ⟨w.heap.size, 0, none⟩) K K)) fb w.heap.size n K T ∧
    Turned (fun k => k = fb) w (((w.alloc (.cells (flat (fun _ => nd0) K).toArray 53)).setRow w.heap.size (flat T K).toArray).setCell ⟨fb, 1, none⟩ (.slice (some ⟨w.heap.size, 0, none⟩) K K)) := by
  have hlt := h.lt
  have hn := heap_alloc_new w (.cells (flat (fun _ => nd0) K).toArray 53)
  have o1 : ∀ k, k < w.heap.size → ((w.alloc (.cells (flat (fun _ => nd0) K).toArray 53)).setRow w.heap.size (flat T K).toArray).heap[k]? = w.heap[k]? := fun k hk =>
    (setRow_other _ _ _ _ (by omega)).trans (Below.heap_alloc _ _ _ hk)
  have e1 := setRow_heap _ w.heap.size _ (flat T K).toArray _ _ hn
  refine ⟨⟨?_, ?_, hK⟩, ⟨rfl, rfl, rfl, by simp [World.setRow], fun k hk hne => (Below.heap_setCell _ _ _ _ hne).trans (o1 k hk)⟩⟩
  · unfold World.setCell
    rw [Array.getElem?_modify, if_pos rfl, o1 fb hlt.1, h.self]
    simp
  · rw [Below.heap_setCell _ _ _ _ (by simp; omega)]
    exact e1

set_option maxRecDepth 100000 in
set_option maxHeartbeats 1000000 in
theorem reach_ok (fb nb n N x : Nat) (T : Tb) (w : World) (h : Fo w fb nb n N T) (hz : ∀ i, N ≤ i → T i = nd0) (hN1 : 1 ≤ N) (hNn : N ≤ n + 1) (hn : n ≤ 8388608) (hx : x < n) :
    Calls Tryd.prog 40 #[.pointer (some ⟨fb, 0, none⟩), .int .i64 (x : Int)] w fun e w' => e = .returned (.tuple #[]) ∧ ∃ nb' N', Fo w' fb nb' n N' T ∧ N ≤ N' ∧ N' ≤ n + 1 ∧ x + 1 < N' ∧ (nb' = nb ∨ w.heap.size ≤ nb') ∧ Turned (fun k => k = fb) w w' := by
  have hbig := h.big
  have c0 := h.c0
  have c1 := h.c1
  have f1 := h.f1
  by_cases hle : x + 2 ≤ N
  · have t1 : decide ((x : Int) + 2 ≤ (N : Int)) = true := decide_eq_true (by omega)
    have hh := hid h
    clear h
    go_enter Tryd.func40, Tryd.ntmps40
    go_wp2_with fail
    first | go_end0 | refine bodyPost_ret (results_none rfl _ _ _) rfl ?_
    exact ⟨rfl, nb, N, hh.out, Nat.le_refl _, hNn, by omega, Or.inl rfl, Turned.refl _ _⟩
  · have t1 : decide ((x : Int) + 2 ≤ (N : Int)) = false := decide_eq_false (by omega)
    have gr := hid (fun K (hK : K ≤ 8388609) => h.grow hK)
    have hne := h.ne
    have hlt := h.lt
    have hnew := hid (fun K => heap_alloc_new w (.cells (flat (fun _ => nd0) K).toArray 53))
    have hcp : Hid (∀ K, N ≤ K → ∀ ty, (Builtin.copy_ #[55, 55] ty #[.slice (some ⟨w.heap.size, 0, none⟩) K K, .slice (some ⟨nb, 0, none⟩) N N]).run Tryd.prog (w.alloc (.cells (flat (fun _ => nd0) K).toArray 53)) = .ok (goInt N) ((w.alloc (.cells (flat (fun _ => nd0) K).toArray 53)).setRow w.heap.size (flat T K).toArray)) :=
      fun K hK ty => copy_nodes (heap_alloc_new w _) ((Below.heap_alloc _ _ _ hlt.2).trans h.nodes) hK hz ty
    have hca : Hid (∀ K, (w.alloc (.cells (flat (fun _ => nd0) K).toArray 53)).cell? ⟨fb, 1, none⟩ = some (.slice (some ⟨nb, 0, none⟩) N N)) := fun K => (World.cell?_of_block (Below.heap_alloc _ _ _ hlt.1)).trans h.c1
    have hcb : Hid (∀ K, ((w.alloc (.cells (flat (fun _ => nd0) K).toArray 53)).setRow w.heap.size (flat T K).toArray).cell? ⟨fb, 1, none⟩ = some (.slice (some ⟨nb, 0, none⟩) N N)) := fun K => (World.cell?_of_block (setRow_other _ _ _ _ (by simp; omega))).trans (hca.out K)
    have hfb : Hid (∀ K, ((w.alloc (.cells (flat (fun _ => nd0) K).toArray 53)).setRow w.heap.size (flat T K).toArray).frozen? ⟨fb, 1, none⟩ = false) := fun K => by
      unfold World.frozen?
      rw [setRow_other _ _ _ _ (by simp; omega), Below.heap_alloc _ _ _ hlt.1, h.self]
      simp
    clear h hne hlt hnew
    have hcase : ∃ K : Nat, N ≤ K ∧ K ≤ n + 1 ∧ x + 1 < K ∧ ((K = x + 2 ∧ 2 * N ≤ K) ∨ (K = 2 * N ∧ x + 2 < K) ∨ (K = n + 1 ∧ x + 2 < 2 * N ∧ K < 2 * N)) := by
      by_cases h1 : 2 * N ≤ x + 2
      · exact ⟨x + 2, by omega, by omega, by omega, by omega⟩
      · by_cases h2 : 2 * N ≤ n + 1
        · exact ⟨2 * N, by omega, by omega, by omega, by omega⟩
        · exact ⟨n + 1, by omega, by omega, by omega, by omega⟩
    obtain ⟨K, k1, k2, k3, hc⟩ := hcase
    have hmk := make_nodes K (by omega) w
    have hcp := hcp.out K k1
    have hca := hid (hca.out K)
    have hcb := hid (hcb.out K)
    have hfb := hid (hfb.out K)
    have gr := hid (gr.out K (by omega))
    rcases hc with ⟨e, d⟩ | ⟨e, d⟩ | ⟨e, d, d2⟩
    · have eK : (x : Int) + 2 = (K : Int) := by omega
      have d1 : ¬ ((K : Int) < 2 * (N : Int)) := by omega
      have d2 : ¬ ((n : Int) + 1 < (K : Int)) := by omega
      have t1 : decide ((K : Int) ≤ (N : Int)) = false := decide_eq_false (by omega)
      clear e d hle
      go_enter Tryd.func40, Tryd.ntmps40
      go_upto_region 3 with fail
      have hca := hca.out
      generalize w.alloc (.cells (flat (fun _ => nd0) K).toArray 53) = w1 at hcp hca hcb hfb gr ⊢
      clear hmk c0 c1 f1
      go_upto_region 4 with fail
      have hcb := hcb.out
      have hfb := hfb.out
      generalize w1.setRow w.heap.size (flat T K).toArray = w2 at hcb hfb gr ⊢
      clear hcp hca
      go_wp2_with fail
      go_end0
      exact ⟨rfl, w.heap.size, K, gr.out.1, k1, k2, k3, Or.inr (Nat.le_refl _), gr.out.2⟩
    · have eK : 2 * (N : Int) = (K : Int) := by omega
      have d1 : (x : Int) + 2 < (K : Int) := by omega
      have d2 : ¬ ((n : Int) + 1 < (K : Int)) := by omega
      clear e d hle
      go_enter Tryd.func40, Tryd.ntmps40
      go_upto_region 3 with fail
      have hca := hca.out
      generalize w.alloc (.cells (flat (fun _ => nd0) K).toArray 53) = w1 at hcp hca hcb hfb gr ⊢
      clear hmk c0 c1 f1
      go_upto_region 4 with fail
      have hcb := hcb.out
      have hfb := hfb.out
      generalize w1.setRow w.heap.size (flat T K).toArray = w2 at hcb hfb gr ⊢
      clear hcp hca
      go_wp2_with fail
      go_end0
      exact ⟨rfl, w.heap.size, K, gr.out.1, k1, k2, k3, Or.inr (Nat.le_refl _), gr.out.2⟩
    · have eK : (n : Int) + 1 = (K : Int) := by omega
      have d1 : (x : Int) + 2 < 2 * (N : Int) := by omega
      have d3 : (K : Int) < 2 * (N : Int) := by omega
      clear e d d2 hle
      go_enter Tryd.func40, Tryd.ntmps40
      go_upto_region 3 with fail
      have hca := hca.out
      generalize w.alloc (.cells (flat (fun _ => nd0) K).toArray 53) = w1 at hcp hca hcb hfb gr ⊢
      clear hmk c0 c1 f1
      go_upto_region 4 with fail
      have hcb := hcb.out
      have hfb := hfb.out
      generalize w1.setRow w.heap.size (flat T K).toArray = w2 at hcb hfb gr ⊢
      clear hcp hca
      go_wp2_with fail
      go_end0
      exact ⟨rfl, w.heap.size, K, gr.out.1, k1, k2, k3, Or.inr (Nat.le_refl _), gr.out.2⟩
end Go.Proofs.YtpelpcplagfdiaaDoor
