/- 'give', 'marks', 'sure', walked. -/
import Derived.Test.YtnlbpjppkfenkaaTree9
namespace Go.Proofs.Ytnlbpjppkfenkaa
open Go.RowKit
set_option linter.unusedVariables false

theorem Re.nil (t : TypeId) (base : Nat) (w : World) : Re t base w (.slice none 0 0) [] := World.ownsRow_nil _ _ _ _

set_option maxRecDepth 100000 in
set_option maxHeartbeats 2000000 in
theorem give_ok (v : Value) (l : List Ed) (w : World) (hv : EV w v l) (hl : l.length ≤ 1000) :
    Calls Try.prog 8 #[v] w fun e w' => ∃ u, e = .returned u ∧ Re 45 w.heap.size w' u l ∧ Below w.heap.size w w' := by
  obtain ⟨i0, hif, hz0, hz1, hz2⟩ := info_parts infoEdge
  obtain ⟨ad, m, cap, rfl, he, _, _⟩ := hv
  have hm := he.len
  rw [hm] at hl
  replace hm := hid hm
  replace he := hid he
  go_enter Try.func8, Try.ntmps8
  go_wp2_with fail
  go_loopw [3, 4] (fun u k wr => ∃ j : Nat, j ≤ m ∧ k = .int .i64 (j : Int) ∧ Hid (Re 45 w.heap.size wr u (l.take j) ∧ Below w.heap.size w wr))
    (fun _ k _ => m - (intOf k).toNat)
  case atStart => exact ⟨0, by omega, by go_num, Re.nil _ _ _, Below.refl _ _⟩
  case round =>
    obtain ⟨j, hj, rfl, hs⟩ := hrel
    rcases Nat.lt_or_ge j m with hlt | hge
    · obtain ⟨q, hq⟩ : ∃ q, l[j]? = some q := ⟨_, List.getElem?_eq_getElem (by rw [hm.out]; exact hlt)⟩
      obtain ⟨g, o, rfl, c0, c1, c2⟩ := (he.out.below hs.out.2).cell j q hq
      have htk := hid (take_next hq)
      have hlen : (l.take j).length = j := by rw [List.length_take, hm.out]; omega
      have hown : wr.ownsRow w.heap.size 45 3 u3 j (ecs (l.take j)) := by
        have h2 : wr.ownsRow w.heap.size 45 3 u3 (l.take j).length (ecs (l.take j)) := hs.out.1
        rw [hlen] at h2
        exact h2
      have hbw := hs.out.2
      have hsz := hbw.size
      obtain ⟨x, y, z⟩ := q
      simp only [] at c0 c1 c2
      have i1 : (0 : Int) ≤ (j : Int) := by omega
      have i2 : (j : Int) < (m : Int) := by omega
      clear hs hq hlen
      go_wp2_with (at_builtin; refine wpList_append_own _ rfl (.tmp 11) (.tmp 16) 33 rfl w.heap.size 45 i0 _ 3 24 Try.underlying33 hif hz0 hz1 hz2 rfl (by decide) _ _ _ rfl (hown.alloc _) ⟨wr.heap.size, 0, none⟩ 1 1 (ecs [⟨x, y, z⟩]) rfl rfl (ed_new wr ⟨x, y, z⟩ 45) (ed_one ⟨x, y, z⟩) (by unfold maxLen; omega) (by omega) (by simp; omega) ?_; intro v' w' ho' hg' _)
      have hnew : Hid (Re 45 w.heap.size w' v' (l.take (j + 1)) ∧ Below w.heap.size w w') := by
        refine ⟨?_, below_row (hbw.alloc hsz _) (Nat.le_refl _) (hown.alloc _) (Nat.le_refl _) hg'⟩
        unfold Re
        rw [htk.out, ecs_append, List.length_append, List.length_take, hm.out, Nat.min_eq_left (by omega)]
        exact ho'
      clear ho' hg'
      go_wp2_with fail
      go_roundw
      case rel => exact ⟨j + 1, by omega, by go_num, hnew⟩
      case measure => simp [intOf]; omega
    · obtain rfl : j = m := by omega
      have hfin : Hid (Re 45 w.heap.size wr u3 l ∧ Below w.heap.size w wr) := by
        have := hs.out
        rw [List.take_of_length_le (by rw [hm.out]; exact Nat.le_refl _)] at this
        exact this
      clear hs
      go_wp2_with fail
      go_ret
      exact ⟨_, rfl, hfin.out⟩

/-- Are they the same marks? -/
def mEq (n m : Nat) (p q : Nat → Bool) : Bool := decide (n = m) && (List.range n).all (fun i => p i == q i)

theorem mEq_no {n m : Nat} {p q : Nat → Bool} (h : n ≠ m) : mEq n m p q = false := by simp [mEq, h]
theorem mEq_part {n : Nat} {p q : Nat → Bool} {j : Nat} (hj : j < n) (h : p j ≠ q j) : mEq n n p q = false := by
  unfold mEq
  rw [Bool.and_eq_false_iff]
  right
  rw [List.all_eq_false]
  exact ⟨j, List.mem_range.2 hj, by simpa using h⟩
theorem mEq_all {n : Nat} {p q : Nat → Bool} (h : ∀ i, i < n → p i = q i) : mEq n n p q = true := by
  unfold mEq
  simp
  exact h

set_option maxRecDepth 100000 in
set_option maxHeartbeats 2000000 in
theorem marks_ok (u v : Value) (n m : Nat) (p q : Nat → Bool) (w : World) (hu : BV w u n p) (hv : BV w v m q) :
    Calls Try.prog 15 #[u, v] w fun e w' => e = .returned (.bool (mEq n m p q)) ∧ ∃ k, w' = w.drewN k := by
  obtain ⟨ad, ca, rfl, _, hca, ha⟩ := hu
  obtain ⟨bd, cb, rfl, _, hcb, hb⟩ := hv
  replace ha := hid ha
  replace hb := hid hb
  have hbn : n ≤ maxLen := by omega
  unfold maxLen at hbn
  by_cases hnm : n = m
  · subst hnm
    go_enter Try.func15, Try.ntmps15
    go_wp2_with fail
    go_loopw [5] (fun k wr => ∃ j : Nat, j ≤ n ∧ k = .int .i64 (j : Int) ∧ Hid ((∀ i, i < j → p i = q i) ∧ ∃ k, wr = w.drewN k))
      (fun k _ => n - (intOf k).toNat)
    case atStart => exact ⟨0, by omega, by go_num, (fun i hi => by omega), 0, rfl⟩
    case round =>
      obtain ⟨j, hj, rfl, hs⟩ := hrel
      rcases Nat.lt_or_ge j n with hlt | hge
      · obtain ⟨g, o, rfl, c1⟩ := ha.out j hlt
        obtain ⟨g', o', rfl, c2⟩ := hb.out j hlt
        have c1' : wr.cell? ⟨g, o + j, none⟩ = some (.bool (p j)) := by
          obtain ⟨k, hk⟩ := hs.out.2
          rw [hk]; exact c1
        have c2' : wr.cell? ⟨g', o' + j, none⟩ = some (.bool (q j)) := by
          obtain ⟨k, hk⟩ := hs.out.2
          rw [hk]; exact c2
        have hw2 : Hid (∃ k, wr.drew = w.drewN k) := by
          obtain ⟨k, hk⟩ := hs.out.2
          exact ⟨k + 1, by rw [hk]; rfl⟩
        have hso := hid hs.out.1
        have i1 : (0 : Int) ≤ (j : Int) := by omega
        have i2 : (j : Int) < (n : Int) := by omega
        by_cases hpq : p j = q j
        · have hso2 : Hid (∀ i, i < j + 1 → p i = q i) := fun i hi => by
            by_cases e : i = j
            · subst e; exact hpq
            · exact hso.out i (by omega)
          rw [← hpq] at c2'
          generalize p j = x at c1' c2'
          clear c1 c2 hs hso hpq
          cases x with
          | false =>
            go_wp2_with fail
            go_region_held3 (fun y => y.cell? ⟨g, o + j, none⟩ = some (.bool false) ∧ y.cell? ⟨g', o' + j, none⟩ = some (.bool false)) (go_keep) (fail)
            go_wp2_with fail
            go_roundw
            case rel => exact ⟨j + 1, by omega, by go_num, hso2.out, hw2.out⟩
            case measure => simp [intOf]; omega
          | true =>
            go_wp2_with fail
            go_region_held3 (fun y => y.cell? ⟨g, o + j, none⟩ = some (.bool true) ∧ y.cell? ⟨g', o' + j, none⟩ = some (.bool true)) (go_keep) (fail)
            go_wp2_with fail
            go_roundw
            case rel => exact ⟨j + 1, by omega, by go_num, hso2.out, hw2.out⟩
            case measure => simp [intOf]; omega
        · have hno := hid (mEq_part (p := p) (q := q) hlt hpq)
          have hq : q j = !p j := by revert hpq; cases p j <;> cases q j <;> simp
          rw [hq] at c2'
          generalize p j = x at c1' c2'
          clear c1 c2 hs hso hpq hq
          cases x with
          | false =>
            simp at c2'
            go_wp2_with fail
            go_region_held3 (fun y => y.cell? ⟨g, o + j, none⟩ = some (.bool false) ∧ y.cell? ⟨g', o' + j, none⟩ = some (.bool true)) (go_keep) (fail)
            go_wp2_with fail
            go_ret
            exact ⟨by rw [hno.out]; rfl, hw2.out⟩
          | true =>
            simp at c2'
            go_wp2_with fail
            go_region_held3 (fun y => y.cell? ⟨g, o + j, none⟩ = some (.bool true) ∧ y.cell? ⟨g', o' + j, none⟩ = some (.bool false)) (go_keep) (fail)
            go_wp2_with fail
            go_ret
            exact ⟨by rw [hno.out]; rfl, hw2.out⟩
      · obtain rfl : j = n := by omega
        have hyes := hid (mEq_all hs.out.1)
        have hw2 := hid hs.out.2
        clear hs
        go_wp2_with fail
        go_ret
        exact ⟨by rw [hyes.out]; rfl, hw2.out⟩
  · have t1 : ((n : Int) != (m : Int)) = true := by simp; omega
    rw [mEq_no hnm]
    go_enter Try.func15, Try.ntmps15
    go_wp2_with fail
    go_ret
    exact ⟨rfl, 0, rfl⟩

/-- All ways to take them in order mark the same. -/
theorem So.two {A B : Nat → Nat} {W : Nat → Int} {m : Nat} {L : Nat → Nat → Prop} {so so' : List Nat} (l : Lin m L) (h : So m L so) (h' : So m L so') : (∀ i, i ∈ kr A B (fun x => x) so ↔ i ∈ kr A B (fun x => x) so') ∧ wsum W (kr A B (fun x => x) so) = wsum W (kr A B (fun x => x) so') :=
  ⟨fun i => by rw [h.kr_mem l, h'.kr_mem l], by rw [h.sum l, h'.sum l]⟩

/-- The triangle. -/
def tri : List Ed := [⟨0, 1, 1⟩, ⟨1, 2, 2⟩, ⟨2, 0, 3⟩]

theorem tri_so : So tri.length (Lw (eW tri)) [0, 1, 2] := by
  refine ⟨fun i => ?_, ?_⟩
  · show i ∈ [0, 1, 2] ↔ i < 3
    simp
    omega
  · simp only [List.pairwise_cons, List.mem_cons, List.not_mem_nil, or_false, forall_eq_or_imp, forall_eq]
    refine ⟨⟨Or.inl (by decide), Or.inl (by decide)⟩, Or.inl (by decide), ?_⟩
    simp

theorem tri_ev (w : World) : EV (w.alloc (.cells #[.int .i64 0, .int .i64 1, .int .i32 1, .int .i64 1, .int .i64 2, .int .i32 2, .int .i64 2, .int .i64 0, .int .i32 3] 45)) (.slice (some ⟨w.heap.size, 0, none⟩) 3 3) tri := by
  refine ⟨_, 3, 3, rfl, ⟨rfl, fun j q hq => ⟨w.heap.size, 0, rfl, ?_⟩⟩, Nat.le_refl _, by unfold maxLen; omega⟩
  have hn := heap_alloc_new w (.cells #[.int .i64 0, .int .i64 1, .int .i32 1, .int .i64 1, .int .i64 2, .int .i32 2, .int .i64 2, .int .i64 0, .int .i32 3] 45)
  unfold World.cell?
  simp only [hn]
  match j, hq with
  | 0, hq => cases hq; exact ⟨rfl, rfl, rfl⟩
  | 1, hq => cases hq; exact ⟨rfl, rfl, rfl⟩
  | 2, hq => cases hq; exact ⟨rfl, rfl, rfl⟩
  | j + 3, hq => simp [tri] at hq

set_option maxRecDepth 100000 in
set_option maxHeartbeats 2000000 in
theorem sure_ok (w : World) : Calls Try.prog 6 #[] w fun e w' => e = .returned (.bool true) ∧ Below w.heap.size w w' := by
  have htree := hid (tree_ok 3 _ tri _ (tri_ev w) (by decide) (by decide) (by
    intro q hq
    simp [tri] at hq
    rcases hq with rfl | rfl | rfl <;> (unfold Inr; decide)) (by
    intro q hq
    simp [tri] at hq
    rcases hq with rfl | rfl | rfl <;> decide))
  go_enter Try.func6, Try.ntmps6
  go_wp2_with fail
  refine htree.out.mono ?_
  rintro e w1 ⟨mv, so, rfl, h1, h2, b1⟩
  obtain ⟨t1, t2⟩ := So.two (A := eA tri) (B := eB tri) (W := eW tri) (Lw.lin _ _) h1 tri_so
  have hkr : kr (eA tri) (eB tri) (fun x => x) [0, 1, 2] = [0, 1] := by decide
  rw [hkr] at t1 t2
  rw [t2, show wsum (eW tri) [0, 1] = 3 from by decide]
  have b2 : Hid (Below w.heap.size w w1) := (balloc w _).trans (b1.mono (by simp))
  have hbv := hid h2.bv
  have hm : Hid (∀ y, Below w1.heap.size w1 y → BV y (.slice (some ⟨w1.heap.size, 0, none⟩) 3 3) 3 (fun i => decide (i = 0 ∨ i = 1)) → Calls Try.prog 15 #[mv, .slice (some ⟨w1.heap.size, 0, none⟩) 3 3] y fun e w' => e = .returned (.bool true) ∧ Below y.heap.size y w') := by
    intro y hy hb
    refine (marks_ok mv _ 3 3 _ _ y (hbv.out.below hy) hb).mono ?_
    rintro e w' ⟨rfl, k, rfl⟩
    refine ⟨?_, belowN (Below.refl _ _) k⟩
    rw [mEq_all]
    intro i hi
    have := t1 i
    simp only [List.mem_cons, List.not_mem_nil, or_false] at this
    rw [decide_eq_decide]
    exact this
  clear htree h1 h2 b1 t1 t2 hkr
  go_wp2_with fail
  refine (hm.out _ (balloc _ _) ?_).mono ?_
  · refine ⟨_, 3, rfl, Nat.le_refl _, by unfold maxLen; omega, fun j hj => ⟨w1.heap.size, 0, rfl, ?_⟩⟩
    have hn := heap_alloc_new w1 (.cells #[.bool true, .bool true, .bool false] 4)
    unfold World.cell?
    simp only [hn]
    match j, hj with
    | 0, _ => rfl
    | 1, _ => rfl
    | 2, _ => rfl
  · rintro e w2 ⟨rfl, b3⟩
    have b4 : Hid (Below w.heap.size w w2) := b2.out.trans (((balloc w1 _).trans (b3.mono (by simp))).mono b2.out.size)
    clear hm hbv b2 b3
    go_wp2_with fail
    go_ret
    exact ⟨rfl, b4.out⟩

end Go.Proofs.Ytnlbpjppkfenkaa
