/- 'reach', walked: members up to one are kept. -/
import Derived.Test.YtnlbpjppkfenkaaTops7
import Derived.Deep.AppendLies
import Derived.Deep.RegionLaw
namespace Go.Proofs.Ytnlbpjppkfenkaa
open Go.RowKit
set_option linter.unusedVariables false

theorem info_parts {P : Program} {e : TypeId} {z : Value} {s b : Nat} (h : (P.info? e).map (fun i => (i.zero, i.size, i.bytes)) = some (some z, s, b)) : ∃ i, P.info? e = some i ∧ i.zero = some z ∧ i.size = s ∧ i.bytes = b := by
  cases hi : P.info? e with
  | none => rw [hi] at h; cases h
  | some i =>
    rw [hi] at h
    simp at h
    exact ⟨i, rfl, h.1, h.2.1, h.2.2⟩

theorem infoMember : (Try.prog.info? 68).map (fun i => (i.zero, i.size, i.bytes)) = some (some (.agg #[.int .i32 0, .int .i32 0, .int .i32 0]), 3, 12) := by kernel_rfl
theorem infoJoin : (Try.prog.info? 78).map (fun i => (i.zero, i.size, i.bytes)) = some (some (.agg #[.int .i32 0, .int .i32 0]), 2, 8) := by kernel_rfl

theorem grown_set (w : World) (p : Addr) (u : Value) : w.grownBy (w.setCell p u) (some p.block) := ⟨rfl, rfl, rfl, by simp [World.setCell], fun k hk hne => Below.heap_setCell _ _ _ _ (fun e => hne (by rw [e]))⟩

theorem put1 {w : World} {gb n K : Nat} {mv jv mv' : Value} {T : Tb} {js : List (Nat × Nat)} (hs : w.heap[gb]? = some (.cells #[.int .i64 (n : Int), mv, jv] 64 (0, 0))) (hm : w.ownsRow 0 68 3 mv' K (flat T K)) (hj : w.ownsRow 0 78 2 jv js.length (jcs js))
    (m1 : mv'.ownBlock ≠ some gb) (m2 : jv.ownBlock ≠ some gb) (hr : ∀ x, K ≤ x → T x = alone x) (hK : K ≤ n) (hl : js.length < n) (hn : n ≤ 4194304) : Gr (w.setCell ⟨gb, 1, none⟩ mv') gb mv' jv n K T js := by
  refine ⟨?_, hm.kept (grown_set w ⟨gb, 1, none⟩ mv') (Or.inr m1), hj.kept (grown_set w ⟨gb, 1, none⟩ mv') (Or.inr m2), hr, hK, hl, hn⟩
  unfold World.setCell
  rw [Array.getElem?_modify, if_pos rfl, hs]
  simp

theorem put2 {w : World} {gb n K : Nat} {mv jv jv' : Value} {T : Tb} {js : List (Nat × Nat)} (hs : w.heap[gb]? = some (.cells #[.int .i64 (n : Int), mv, jv] 64 (0, 0))) (hm : w.ownsRow 0 68 3 mv K (flat T K)) (hj : w.ownsRow 0 78 2 jv' js.length (jcs js))
    (m1 : mv.ownBlock ≠ some gb) (m2 : jv'.ownBlock ≠ some gb) (hr : ∀ x, K ≤ x → T x = alone x) (hK : K ≤ n) (hl : js.length < n) (hn : n ≤ 4194304) : Gr (w.setCell ⟨gb, 2, none⟩ jv') gb mv jv' n K T js := by
  refine ⟨?_, hm.kept (grown_set w ⟨gb, 2, none⟩ jv') (Or.inr m1), hj.kept (grown_set w ⟨gb, 2, none⟩ jv') (Or.inr m2), hr, hK, hl, hn⟩
  unfold World.setCell
  rw [Array.getElem?_modify, if_pos rfl, hs]
  simp

/-- How long the slice at a place is. -/
def lenAt (w : World) (a : Addr) : Nat := match w.cell? a with
  | some (.slice _ k _) => k
  | _ => 0

/-- A row is where it was, or new. -/
def Fresh (w : World) (v v' : Value) : Prop := ∀ k, v'.ownBlock = some k → v.ownBlock = some k ∨ w.heap.size ≤ k

theorem Fresh.refl (w : World) (v : Value) : Fresh w v v := fun k h => Or.inl h
theorem Fresh.trans {w w' : World} {u v x : Value} (h : Fresh w u v) (k : Fresh w' v x) (hs : w.heap.size ≤ w'.heap.size) : Fresh w u x := fun i hi => by
  rcases k i hi with e | e
  · exact h i e
  · exact Or.inr (by omega)

/-- One member more is kept. -/
theorem Gr.grow {w w2 w3 : World} {gb n K g cap : Nat} {mv jv : Value} {T : Tb} {js : List (Nat × Nat)} (h : Gr w gb mv jv n K T js) (hK : K < n) (hb : Below w.heap.size w w2) (hg : w2.grownBy w3 mv.ownBlock)
    (ho : w3.ownsRow 0 68 3 (.slice (some ⟨g, 0, none⟩) (K + 1) cap) (K + 1) (flat T K ++ nc (alone K))) (hat : mv.ownBlock = some g ∨ g = w2.heap.size) :
    Gr (w3.setCell ⟨gb, 1, none⟩ (.slice (some ⟨g, 0, none⟩) (K + 1) cap)) gb (.slice (some ⟨g, 0, none⟩) (K + 1) cap) jv n (K + 1) T js ∧ Turned (own gb mv jv) w (w3.setCell ⟨gb, 1, none⟩ (.slice (some ⟨g, 0, none⟩) (K + 1) cap)) ∧ Fresh w mv (.slice (some ⟨g, 0, none⟩) (K + 1) cap) := by
  have h2 := h.more hb
  have hne : mv.ownBlock ≠ some gb := fun e => (h2.mne e).1 rfl
  have hjn : jv.ownBlock ≠ some gb := fun e => (h2.jne e).1 rfl
  have hgn : g ≠ gb := by
    rcases hat with e | e
    · exact (h2.mne e).1
    · have := h2.lt; omega
  have hf : flat T K ++ nc (alone K) = flat T (K + 1) := by
    rw [← h.rest K (Nat.le_refl _)]; rfl
  rw [hf] at ho
  refine ⟨put1 ((hg.block gb h2.lt (fun e => hne e.symm)).trans h2.self) ho (h2.jo.kept hg ?_) (by simpa [Value.ownBlock] using hgn) hjn (fun x hx => h.rest x (by omega)) (by omega) h.hj h.hn, ?_, fun k hk => ?_⟩
  · cases hj : jv.ownBlock with
    | none => exact Or.inl rfl
    | some k => exact Or.inr (fun e => (h2.jne hj).2 e.symm)
  · exact ((Turned.ofBelow hb (own gb mv jv)).trans (Turned.ofGrown hg (fun k hk => Or.inr (Or.inl hk)))).setCell (p := ⟨gb, 1, none⟩) (Or.inl rfl) _
  · simp [Value.ownBlock] at hk
    subst hk
    rcases hat with e | e
    · exact Or.inl e
    · right; have := hb.size; omega

theorem s_grown {w w' : World} {gb o : Nat} {v : Value} {row : Option Nat} (k : w.cell? ⟨gb, o, none⟩ = some v ∧ w.frozen? ⟨gb, o, none⟩ = false) (hg : w.grownBy w' row) (hne : row ≠ some gb) : w'.cell? ⟨gb, o, none⟩ = some v ∧ w'.frozen? ⟨gb, o, none⟩ = false := by
  have hb := hg.block gb (World.block_lt_of_cell? w _ k.1) (fun e => hne e.symm)
  exact ⟨(World.cell?_of_block (a := ⟨gb, o, none⟩) hb).trans k.1, (World.frozen?_of_block (a := ⟨gb, o, none⟩) hb).trans k.2⟩

theorem nc_one (m : Mb) : ∀ u ∈ nc m, u.oneCell' = true := by
  intro u hu
  simp [nc] at hu
  rcases hu with rfl | rfl | rfl <;> rfl

theorem nc_new (w : World) (m : Mb) : ∀ j u, (nc m)[j]? = some u → (w.alloc (.cells #[.int .i32 (m.up : Int), .int .i32 (m.size : Int), .int .i32 (m.least : Int)] 68)).cell? ((⟨w.heap.size, 0, none⟩ : Addr).add j) = some u := by
  intro j u hu
  rw [show (⟨w.heap.size, 0, none⟩ : Addr).add j = ⟨w.heap.size, j, none⟩ from by unfold Addr.add; split <;> simp_all]
  have hn := heap_alloc_new w (.cells #[.int .i32 (m.up : Int), .int .i32 (m.size : Int), .int .i32 (m.least : Int)] 68)
  unfold World.cell?
  rw [hn]
  simpa [nc] using hu

set_option maxRecDepth 100000 in
set_option maxHeartbeats 2000000 in
theorem reach_ok (gb n K x : Nat) (mv jv : Value) (T : Tb) (js : List (Nat × Nat)) (w : World) (h : Gr w gb mv jv n K T js) (hx : x < n) :
    Calls Try.prog 39 #[.pointer (some ⟨gb, 0, none⟩), .int .i64 (x : Int)] w fun e w' => e = .returned (.tuple #[]) ∧ ∃ K' mv', Gr w' gb mv' jv n K' T js ∧ x < K' ∧ K ≤ K' ∧ Turned (own gb mv jv) w w' ∧ Fresh w mv mv' := by
  obtain ⟨i0, hif, hz0, hz1, hz2⟩ := info_parts infoMember
  have hn := h.hn
  have hlt := h.lt
  have hh := hid h
  clear h
  go_enter Try.func39, Try.ntmps39
  go_wp2_with fail
  go_loopw [8] (fun _ wr => ∃ K' : Nat, ∃ mv' : Value, Hid (Gr wr gb mv' jv n K' T js ∧ K ≤ K' ∧ Turned (own gb mv jv) w wr ∧ Fresh w mv mv')) (fun _ wr => x + 1 - lenAt wr ⟨gb, 1, none⟩)
  case atStart => exact ⟨K, mv, hh.out, Nat.le_refl _, Turned.refl _ _, Fresh.refl _ _⟩
  case round =>
    obtain ⟨K', mv', hst⟩ := hrel
    obtain ⟨ad, cap, rfl, hc1, hc2⟩ := own_any hst.out.1.mem
    have c1 := hst.out.1.c1
    have f1 := hst.out.1.f1
    have hK' := hst.out.1.hK
    have hgl := hst.out.1.lt
    by_cases hk : K' ≤ x
    · have t1 : decide ((K' : Int) ≤ (x : Int)) = true := decide_eq_true (by omega)
      have hbne : ∀ y : World, Below wr.heap.size wr y → y.cell? ⟨gb, 1, none⟩ = some (.slice ad K' cap) ∧ y.frozen? ⟨gb, 1, none⟩ = false := fun y hy => ⟨(hst.out.1.more hy).c1, (hst.out.1.more hy).f1⟩
      replace hbne := hid hbne
      have hK2 : K' ≤ 4194304 := by omega
      have hKn : K' < n := by omega
      have hcov : Hid (∀ i, i < w.heap.size → own gb (.slice ad K' cap) jv i → own gb mv jv i) := fun i hi ho => by
        rcases ho with e | e | e
        · exact Or.inl e
        · rcases hst.out.2.2.2 i e with k | k
          · exact Or.inr (Or.inl k)
          · omega
        · exact Or.inr (Or.inr e)
      have hmne : (Value.slice ad K' cap).ownBlock ≠ some gb := fun e => (hst.out.1.mne e).1 rfl
      go_wp2_with fail
      go_region_law (first
        | (go_simp; refine (alone_ok K' _ hK2).mono ?_; rintro e w1 ⟨rfl, b1⟩; have hb2 : Below wr.heap.size wr w1 := (Below.refl wr.heap.size wr).drew.trans b1; obtain ⟨k1, k1f⟩ := hbne.out w1 hb2; obtain ⟨k2, k2f⟩ := hbne.out _ (hb2.alloc hb2.size (.cells #[.int .i32 ((alone K').up : Int), .int .i32 ((alone K').size : Int), .int .i32 ((alone K').least : Int)] 68)); replace hb2 := hid hb2; dsimp only)
        | (refine step_append_lies _ (by rfl) (.tmp 15) (.tmp 22) 61 (by rfl) 0 68 i0 _ 3 12 Try.underlying61 hif hz0 hz1 hz2 rfl (by decide) (.slice ad K' cap) K' (flat T K') (by rfl) ((hst.out.1.more hb2.out).mem.alloc _) ⟨w1.heap.size, 0, none⟩ 1 1 (nc (alone K')) (by rfl) rfl (nc_new w1 (alone K')) (nc_one _) (by decide) (by unfold maxLen; omega) (by omega) (Nat.zero_le _) (w1.heap.size + 1) (by simp) ?_; intro g cap' w3 ho3 hg3 hat3 hlt3; obtain ⟨k3, k3f⟩ := s_grown ⟨k2, k2f⟩ hg3 hmne; have fin := hid (hst.out.1.grow hKn (hb2.out.alloc hb2.out.size _) hg3 ho3 (by simpa using hat3)); clear ho3 hg3 hat3 hlt3))
      all_goals
        go_wp2_with fail
        go_roundw
        case rel => exact ⟨K' + 1, _, fin.out.1, by have := hst.out.2.1; omega, hst.out.2.2.1.then fin.out.2.1 (fun i hi ho => hcov.out i hi ho), hst.out.2.2.2.trans fin.out.2.2 hst.out.2.2.1.size⟩
        case measure =>
          have e1 : lenAt wr ⟨gb, 1, none⟩ = K' := by unfold lenAt; rw [c1]
          unfold lenAt
          rw [fin.out.1.c1]
          simp only []
          unfold lenAt at e1
          omega
    · have t1 : decide ((K' : Int) ≤ (x : Int)) = false := decide_eq_false (by omega)
      go_wp2_with fail
      go_end0
      exact ⟨rfl, K', _, hst.out.1, by omega, hst.out.2⟩

end Go.Proofs.Ytnlbpjppkfenkaa
