/- 'Least', 'SpanLeasts', walked. -/
import Derived.Test.YtnlbpjppkfenkaaDoorTrees9
namespace Go.Proofs.YtnlbpjppkfenkaaDoor
open Go.RowKit
set_option linter.unusedVariables false

set_option maxRecDepth 100000 in
set_option maxHeartbeats 2000000 in
theorem equal_ok (u v : Value) (n : Nat) (p q : Nat → Bool) (w : World) (hu : BV w u n p) (hv : BV w v n q) :
    Calls Tryd.prog 21 #[u, v] w fun e w' => e = .returned (.bool (mEq n n p q)) ∧ ∃ k, w' = w.drewN k := by
  obtain ⟨ad, ca, rfl, _, hca, ha⟩ := hu
  obtain ⟨bd, cb, rfl, _, hcb, hb⟩ := hv
  replace ha := hid ha
  replace hb := hid hb
  have hbn : n ≤ maxLen := by omega
  unfold maxLen at hbn
  go_enter Tryd.func21, Tryd.ntmps21
  go_wp2_with fail
  go_loopw [5, 13] (fun _ k wr => ∃ j : Nat, j ≤ n ∧ k = .int .i64 (j : Int) ∧ Hid ((∀ i, i < j → p i = q i) ∧ ∃ k, wr = w.drewN k))
    (fun _ k _ => n - (intOf k).toNat)
  case atStart => exact ⟨0, by omega, by go_num, (fun i hi => by omega), 0, rfl⟩
  case round =>
    obtain ⟨j, hj, rfl, hs⟩ := hrel
    rcases Nat.lt_or_ge j n with hlt | hge
    · obtain ⟨g, o, rfl, c1⟩ := ha.out j hlt
      obtain ⟨g', o', rfl, c2⟩ := hb.out j hlt
      have c1' : wr.cell? ⟨g, o + j, none⟩ = some (.bool (p j)) := by
        obtain ⟨k, hk⟩ := hs.out.2
        rw [hk]; exact c1
      have c2' : wr.cell? ⟨g', o' + j, none⟩ = some (.bool (q j)) := by
        obtain ⟨k, hk⟩ := hs.out.2
        rw [hk]; exact c2
      have hw2 : Hid (∃ k, wr.drew = w.drewN k) := by
        obtain ⟨k, hk⟩ := hs.out.2
        exact ⟨k + 1, by rw [hk]; rfl⟩
      have hso := hid hs.out.1
      have i1 : (0 : Int) ≤ (j : Int) := by omega
      have i2 : (j : Int) < (n : Int) := by omega
      by_cases hpq : p j = q j
      · have hso2 : Hid (∀ i, i < j + 1 → p i = q i) := fun i hi => by
          by_cases e : i = j
          · subst e; exact hpq
          · exact hso.out i (by omega)
        rw [← hpq] at c2'
        generalize p j = x at c1' c2'
        clear c1 c2 hs hso hpq
        cases x with
        | false =>
          go_wp2_with fail
          go_region_held3 (fun y => y.cell? ⟨g, o + j, none⟩ = some (.bool false) ∧ y.cell? ⟨g', o' + j, none⟩ = some (.bool false)) (go_keep) (fail)
          go_wp2_with fail
          go_roundw
          case rel => exact ⟨j + 1, by omega, by go_num, hso2.out, hw2.out⟩
          case measure => simp [intOf]; omega
        | true =>
          go_wp2_with fail
          go_region_held3 (fun y => y.cell? ⟨g, o + j, none⟩ = some (.bool true) ∧ y.cell? ⟨g', o' + j, none⟩ = some (.bool true)) (go_keep) (fail)
          go_wp2_with fail
          go_roundw
          case rel => exact ⟨j + 1, by omega, by go_num, hso2.out, hw2.out⟩
          case measure => simp [intOf]; omega
      · have hno := hid (mEq_part (p := p) (q := q) hlt hpq)
        have hq : q j = !p j := by revert hpq; cases p j <;> cases q j <;> simp
        rw [hq] at c2'
        generalize p j = x at c1' c2'
        clear c1 c2 hs hso hpq hq
        cases x with
        | false =>
          simp at c2'
          go_wp2_with fail
          go_region_held3 (fun y => y.cell? ⟨g, o + j, none⟩ = some (.bool false) ∧ y.cell? ⟨g', o' + j, none⟩ = some (.bool true)) (go_keep) (fail)
          go_wp2_with fail
          go_ret
          exact ⟨by rw [hno.out]; rfl, hw2.out⟩
        | true =>
          simp at c2'
          go_wp2_with fail
          go_region_held3 (fun y => y.cell? ⟨g, o + j, none⟩ = some (.bool true) ∧ y.cell? ⟨g', o' + j, none⟩ = some (.bool false)) (go_keep) (fail)
          go_wp2_with fail
          go_ret
          exact ⟨by rw [hno.out]; rfl, hw2.out⟩
    · obtain rfl : j = n := by omega
      have hyes := hid (mEq_all hs.out.1)
      have hw2 := hid hs.out.2
      clear hs
      go_wp2_with fail
      go_ret
      exact ⟨by rw [hyes.out]; rfl, hw2.out⟩

set_option maxRecDepth 100000 in
set_option maxHeartbeats 1000000 in
theorem least_err (n c : Int) (u mv : Value) (w : World)
    (hT : Calls Tryd.prog 6 #[.int .i64 n, u] w fun e w' => e = .returned (.tuple #[.slice none 0 0, .int .i64 0, .iface 46 (.int .i64 c)]) ∧ Below w.heap.size w w') :
    Calls Tryd.prog 13 #[.int .i64 n, u, mv] w fun e w' => e = .returned (.tuple #[.bool false, .iface 46 (.int .i64 c)]) ∧ Below w.heap.size w w' := by
  replace hT := hid hT
  go_enter Tryd.func13, Tryd.ntmps13
  go_wp2_with fail
  refine hT.out.mono ?_
  rintro e w1 ⟨rfl, b1⟩
  replace b1 := hid b1
  go_wp2_with fail
  go_ret2
  exact ⟨rfl, b1.out⟩

set_option maxRecDepth 100000 in
set_option maxHeartbeats 1000000 in
theorem least_arg (n : Nat) (u mv : Value) (l : List Ed) (k : Nat) (q : Nat → Bool) (w : World) (hu : EV w u l) (hm : BV w mv k q) (hk : k ≠ l.length) (hn : n ≤ 60) (hl : l.length ≤ 60) (hok : Okr (n : Int) l) (hw : Wr l) :
    Calls Tryd.prog 13 #[.int .i64 (n : Int), u, mv] w fun e w' => e = .returned (.tuple #[.bool false, .iface 46 (.int .i64 1)]) ∧ Below w.heap.size w w' := by
  have hT := hid (tree_ok n u l w hu (by omega) (by omega) hok hw)
  obtain ⟨ad, m, cap, rfl, he, _, _⟩ := hu
  obtain ⟨bd, bc, rfl, _, _, _⟩ := hm
  have hml := he.len
  have t1 : ((k : Int) != (m : Int)) = true := by simp; omega
  clear he hml hk hok hw
  go_enter Tryd.func13, Tryd.ntmps13
  go_wp2_with fail
  refine hT.out.mono ?_
  rintro e w1 ⟨av, so, rfl, _, _, b1⟩
  replace b1 := hid b1
  generalize wsum (eW l) _ = s
  clear hT
  go_wp2_with fail
  go_ret2
  exact ⟨rfl, b1.out⟩

set_option maxRecDepth 100000 in
set_option maxHeartbeats 1000000 in
theorem least_ok (n : Nat) (u mv : Value) (l : List Ed) (q : Nat → Bool) (w : World) (hu : EV w u l) (hm : BV w mv l.length q) (hn : n ≤ 60) (hl : l.length ≤ 60) (hok : Okr (n : Int) l) (hw : Wr l) :
    Calls Tryd.prog 13 #[.int .i64 (n : Int), u, mv] w fun e w' => ∃ so, So l.length (Lw (eW l)) so ∧ e = .returned (.tuple #[.bool (mEq l.length l.length (fun i => decide (i ∈ kr (eA l) (eB l) (fun x => x) so)) q), .nilIface]) ∧ Below w.heap.size w w' := by
  have hT := hid (tree_ok n u l w hu (by omega) (by omega) hok hw)
  have hE : Hid (∀ p y av, Below w.heap.size w y → BV y av l.length p → Calls Tryd.prog 21 #[av, mv] y fun e w' => e = .returned (.bool (mEq l.length l.length p q)) ∧ ∃ k, w' = y.drewN k) := fun p y av hy hav => equal_ok av mv l.length p q y hav (hm.below hy)
  obtain ⟨ad, m, cap, rfl, he, _, _⟩ := hu
  have hml := he.len
  rw [hml] at hm
  obtain ⟨bd, bc, rfl, _, _, _⟩ := hm
  replace hml := hid hml
  clear he hok hw
  go_enter Tryd.func13, Tryd.ntmps13
  go_wp2_with fail
  refine hT.out.mono ?_
  rintro e w1 ⟨av, so, rfl, s1, m1, b1⟩
  replace b1 := hid b1
  replace s1 := hid s1
  have hq := hid (hE.out _ _ _ b1.out m1.bv)
  generalize wsum (eW l) _ = s
  clear hT hE m1
  go_wp2_with fail
  refine hq.out.mono ?_
  rintro e w2 ⟨rfl, k, rfl⟩
  clear hq
  go_wp2_with fail
  go_ret2
  exact ⟨so, s1.out, rfl, belowN b1.out k⟩

theorem mEq_comm (n : Nat) (p q : Nat → Bool) : mEq n n p q = mEq n n q p := by
  unfold mEq
  have : (fun i => p i == q i) = fun i => q i == p i := by funext i; cases p i <;> cases q i <;> rfl
  rw [this]
theorem mEq_congr {n : Nat} {p p' q : Nat → Bool} (h : ∀ i, i < n → p i = p' i) : mEq n n p q = mEq n n p' q := by
  unfold mEq
  congr 1
  rw [Bool.eq_iff_iff, List.all_eq_true, List.all_eq_true]
  constructor
  · intro k i hi; rw [← h i (List.mem_range.1 hi)]; exact k i hi
  · intro k i hi; rw [h i (List.mem_range.1 hi)]; exact k i hi

set_option maxRecDepth 100000 in
set_option maxHeartbeats 4000000 in
theorem leasts_err (n c : Int) (v mv : Value) (l : List Ed) (k : Nat) (q : Nat → Bool) (w : World) (hv : EV w v l) (hmv : BV w mv k q) (hc : c = 1 ∨ c = 12) (hg : Handle w) (hl : l.length ≤ 60) (hk : k ≤ 100) (hn : n ≤ 60 ∨ 1048576 < n)
    (hT : ∀ y u, EV y u l → Calls Tryd.prog 6 #[.int .i64 n, u] y fun e w' => e = .returned (.tuple #[.slice none 0 0, .int .i64 0, .iface 46 (.int .i64 c)]) ∧ Below y.heap.size y w')
    (hC : ∀ y, EV y v l → Calls Tryd.prog 9 #[.int .i64 n, v] y fun e w' => e = .returned (.int .i64 c) ∧ y = w') :
    Calls Tryd.prog 4 #[.int .i64 n, v, mv] w fun e w' => e = .returned (.bool true) ∧ Below w.heap.size w w' := by
  have hgive : Hid (∀ y, Below w.heap.size w y → Calls Tryd.prog 7 #[v] y fun e w' => ∃ u, e = .returned u ∧ Re 41 y.heap.size w' u l ∧ Below y.heap.size y w') := fun y hy => give_ok v l y (hv.below hy) (by omega)
  have hC' := hid (fun y (hy : Below w.heap.size w y) => hC y (hv.below hy))
  have hLs : Hid (∀ y u, EV y u l → Calls Tryd.prog 13 #[.int .i64 n, u, mv] y fun e w' => e = .returned (.tuple #[.bool false, .iface 46 (.int .i64 c)]) ∧ Below y.heap.size y w') := fun y u hu => least_err n c u mv y (hT y u hu)
  replace hg := hid hg
  have c0 : (c != 0) = true := by rcases hc with rfl | rfl <;> decide
  have c1 : (c == 0) = false := by rcases hc with rfl | rfl <;> decide
  have c2 : ¬ (c = 0) := by omega
  obtain ⟨ad, m, cap, rfl, he, _, _⟩ := hv
  obtain ⟨bd, bc, rfl, _, _, _⟩ := hmv
  have hm := he.len
  have d3 : decide (60 < (m : Int)) = false := decide_eq_false (by omega)
  have d4 : decide (100 < (k : Int)) = false := decide_eq_false (by omega)
  have hd : ∃ t : Bool, decide (60 < n) = t ∧ (t = true → decide (n ≤ 1048576) = false) := by
    rcases hn with h | h
    · exact ⟨false, decide_eq_false (by omega), fun h => by cases h⟩
    · exact ⟨true, decide_eq_true (by omega), fun _ => decide_eq_false (by omega)⟩
  clear he hm hC hc hn hT
  obtain ⟨t, d1, d2⟩ := hd
  cases t with
  | false =>
    clear d2
    go_enter Tryd.func4, Tryd.ntmps4
    go_wp2_with fail
    refine (hgive.out _ (Below.refl _ _)).mono ?_
    rintro e w1 ⟨u1, rfl, r1, b1⟩
    replace r1 := hid r1.ev
    replace b1 := hid b1
    go_wp2_with fail
    refine (hLs.out _ _ r1.out).mono ?_
    rintro e w2 ⟨rfl, b2⟩
    replace b2 := bstep b1 b2
    clear b1 r1
    go_wp2_with fail
    refine (hC'.out _ b2.out).mono ?_
    rintro e w2' ⟨rfl, rfl⟩
    go_wp2_with fail
    refine (num_err c _ (hg.out.below b2.out)).mono ?_
    rintro e w3 ⟨rfl, b3⟩
    replace b3 := bstep b2 b3
    go_wp2_with fail
    refine (sure_ok _).mono ?_
    rintro e w7 ⟨rfl, b7⟩
    replace b7 := bstep b3 b7
    go_wp2_with fail
    go_ret
    exact ⟨rfl, b7.out⟩
  | true =>
    replace d2 := d2 rfl
    go_enter Tryd.func4, Tryd.ntmps4
    go_wp2_with fail
    refine (hgive.out _ (Below.refl _ _)).mono ?_
    rintro e w1 ⟨u1, rfl, r1, b1⟩
    replace r1 := hid r1.ev
    replace b1 := hid b1
    go_wp2_with fail
    refine (hLs.out _ _ r1.out).mono ?_
    rintro e w2 ⟨rfl, b2⟩
    replace b2 := bstep b1 b2
    clear b1 r1
    go_wp2_with fail
    refine (hC'.out _ b2.out).mono ?_
    rintro e w2' ⟨rfl, rfl⟩
    go_wp2_with fail
    refine (num_err c _ (hg.out.below b2.out)).mono ?_
    rintro e w3 ⟨rfl, b3⟩
    replace b3 := bstep b2 b3
    go_wp2_with fail
    refine (sure_ok _).mono ?_
    rintro e w7 ⟨rfl, b7⟩
    replace b7 := bstep b3 b7
    go_wp2_with fail
    go_ret
    exact ⟨rfl, b7.out⟩

set_option maxRecDepth 100000 in
set_option maxHeartbeats 4000000 in
theorem leasts_law (n : Int) (v mv : Value) (l : List Ed) (k : Nat) (q : Nat → Bool) (w : World) (hv : EV w v l) (hw : Wr l) (hmv : BV w mv k q) (hg : Handle w) : Calls Tryd.prog 4 #[.int .i64 n, v, mv] w fun e w' => e = .returned (.bool true) ∧ Below w.heap.size w w' := by
  have hsure : Hid (∀ y, Calls Tryd.prog 5 #[] y fun e w' => e = .returned (.bool true) ∧ Below y.heap.size y w') := fun y => sure_ok y
  by_cases h1 : 60 < n ∧ n ≤ 1048576
  · obtain ⟨ad, m, cap, rfl, he, _, _⟩ := hv
    obtain ⟨bd, bc, rfl, _, _, _⟩ := hmv
    have d1 : decide (60 < n) = true := decide_eq_true h1.1
    have d2 : decide (n ≤ 1048576) = true := decide_eq_true h1.2
    clear h1 he hw hg
    go_enter Tryd.func4, Tryd.ntmps4
    go_wp2_with fail
    refine (hsure.out _).mono ?_
    rintro e w1 ⟨rfl, b1⟩
    replace b1 := hid b1
    go_wp2_with fail
    go_ret
    exact ⟨rfl, b1.out⟩
  have hd : ∃ t : Bool, decide (60 < n) = t ∧ (t = true → decide (n ≤ 1048576) = false) := by
    by_cases h : 60 < n
    · exact ⟨true, decide_eq_true h, fun _ => decide_eq_false (by omega)⟩
    · exact ⟨false, decide_eq_false h, fun h => by cases h⟩
  by_cases h3 : 60 < l.length
  · obtain ⟨ad, m, cap, rfl, he, _, _⟩ := hv
    obtain ⟨bd, bc, rfl, _, _, _⟩ := hmv
    have hm := he.len
    have d3 : decide (60 < (m : Int)) = true := decide_eq_true (by omega)
    clear h1 h3 he hw hm hg
    obtain ⟨t, d1, d2⟩ := hd
    cases t with
    | false =>
      clear d2
      go_enter Tryd.func4, Tryd.ntmps4
      go_wp2_with fail
      refine (hsure.out _).mono ?_
      rintro e w1 ⟨rfl, b1⟩
      replace b1 := hid b1
      go_wp2_with fail
      go_ret
      exact ⟨rfl, b1.out⟩
    | true =>
      replace d2 := d2 rfl
      go_enter Tryd.func4, Tryd.ntmps4
      go_wp2_with fail
      refine (hsure.out _).mono ?_
      rintro e w1 ⟨rfl, b1⟩
      replace b1 := hid b1
      go_wp2_with fail
      go_ret
      exact ⟨rfl, b1.out⟩
  by_cases h4 : 100 < k
  · obtain ⟨ad, m, cap, rfl, he, _, _⟩ := hv
    obtain ⟨bd, bc, rfl, _, _, _⟩ := hmv
    have hm := he.len
    have d3 : decide (60 < (m : Int)) = false := decide_eq_false (by omega)
    have d4 : decide (100 < (k : Int)) = true := decide_eq_true (by omega)
    clear h1 h3 h4 he hw hm hg
    obtain ⟨t, d1, d2⟩ := hd
    cases t with
    | false =>
      clear d2
      go_enter Tryd.func4, Tryd.ntmps4
      go_wp2_with fail
      refine (hsure.out _).mono ?_
      rintro e w1 ⟨rfl, b1⟩
      replace b1 := hid b1
      go_wp2_with fail
      go_ret
      exact ⟨rfl, b1.out⟩
    | true =>
      replace d2 := d2 rfl
      go_enter Tryd.func4, Tryd.ntmps4
      go_wp2_with fail
      refine (hsure.out _).mono ?_
      rintro e w1 ⟨rfl, b1⟩
      replace b1 := hid b1
      go_wp2_with fail
      go_ret
      exact ⟨rfl, b1.out⟩
  clear hd
  by_cases hneg : n < 0 ∨ 1048576 < n
  · exact leasts_err n 1 v mv l k q w hv hmv (.inl rfl) hg (by omega) (by omega) (by omega) (fun y u hu => tree_arg n u l y hu hneg) (fun y _ => rcheck_arg n v y hneg)
  by_cases hok : Okr n l
  rotate_left
  · exact leasts_err n 12 v mv l k q w hv hmv (.inr rfl) hg (by omega) (by omega) (by omega) (fun y u hu => tree_range n u l y hu (by omega) (by omega) (by omega) hok) (fun y hy => rcheck_range n v l y hy (by omega) (by omega) (by omega) hok)
  obtain ⟨N, rfl⟩ : ∃ N : Nat, n = (N : Int) := ⟨n.toNat, by omega⟩
  have hN2 : N ≤ 60 := by omega
  have hL : l.length ≤ 60 := by omega
  have hgive : Hid (∀ y, Below w.heap.size w y → Calls Tryd.prog 7 #[v] y fun e w' => ∃ u, e = .returned u ∧ Re 41 y.heap.size w' u l ∧ Below y.heap.size y w') := fun y hy => give_ok v l y (hv.below hy) (by omega)
  have hc := hid (fun y (hy : Below w.heap.size w y) => rcheck_ok (N : Int) v l y (hv.below hy) (by omega) (by omega) (by omega) hok)
  have hrt := hid (fun gr y (hy : Below w.heap.size w y) => rtree_any N v l gr y (hv.below hy) hN2 hL hok hw)
  have hlen := hv
  obtain ⟨ad, m, cap, rfl, he, _, _⟩ := hlen
  have hm := he.len
  have d1 : decide (60 < (N : Int)) = false := decide_eq_false (by omega)
  have d3 : decide (60 < (m : Int)) = false := decide_eq_false (by omega)
  have d4 : decide (100 < (k : Int)) = false := decide_eq_false (by omega)
  by_cases hkm : k = l.length
  · subst hkm
    have hls : Hid (∀ q y u mv, EV y u l → BV y mv l.length q → Calls Tryd.prog 13 #[.int .i64 (N : Int), u, mv] y fun e w' => ∃ so, So l.length (Lw (eW l)) so ∧ e = .returned (.tuple #[.bool (mEq l.length l.length (fun i => decide (i ∈ kr (eA l) (eB l) (fun x => x) so)) q), .nilIface]) ∧ Below y.heap.size y w') := fun q y u mv hu hm => least_ok N u mv l q y hu hm hN2 hL hok hw
    have hmk : Hid (∀ p y cv, Below w.heap.size w y → BV y cv l.length p → Calls Tryd.prog 12 #[mv, cv] y fun e w' => e = .returned (.bool (mEq l.length l.length q p)) ∧ ∃ k, w' = y.drewN k) := fun p y cv hy hcv => marks_ok mv cv _ _ q p y (hmv.below hy) hcv
    have hmb := hid (fun y (hy : Below w.heap.size w y) => hmv.below hy)
    rw [hm] at hmv
    obtain ⟨bd, bc, rfl, _, _, _⟩ := hmv
    rw [hm] at d4
    replace hm := hid hm
    clear h1 h3 h4 hneg hok hw hg he hv
    go_enter Tryd.func4, Tryd.ntmps4
    go_wp2_with fail
    refine (hgive.out _ (Below.refl _ _)).mono ?_
    rintro e w1 ⟨u1, rfl, r1, b1⟩
    replace r1 := hid r1.ev
    replace b1 := hid b1
    go_wp2_with fail
    refine (hls.out q _ _ _ r1.out (hmb.out _ b1.out)).mono ?_
    rintro e w2 ⟨so, s2, rfl, b2⟩
    replace b2 := bstep b1 b2
    replace s2 := hid s2
    obtain ⟨r, hr⟩ : ∃ r, mEq l.length l.length (fun i => decide (i ∈ kr (eA l) (eB l) (fun x => x) so)) q = r := ⟨_, rfl⟩
    rw [hr]
    replace hr := hid hr
    clear b1 r1
    go_wp2_with fail
    refine (hc.out _ b2.out).mono ?_
    rintro e w2' ⟨rfl, rfl⟩
    clear hc
    go_wp2_with fail
    refine (hrt.out false _ b2.out).mono ?_
    rintro e w3 ⟨cv, sq, rfl, s3, m3, b3⟩
    have bv3 := hid m3.bv
    replace b3 := bstep b2 b3
    replace s3 := hid s3
    generalize wsum (eW l) _ = s
    clear b2 m3 hrt
    go_wp2_with fail
    refine (hgive.out _ b3.out).mono ?_
    rintro e w4 ⟨u4, rfl, r4, b4⟩
    replace r4 := hid r4.ev
    have bv4 := hid (bv3.out.below b4)
    replace b4 := bstep b3 b4
    clear b3 bv3
    go_wp2_with fail
    refine (hls.out _ _ _ _ r4.out bv4.out).mono ?_
    rintro e w5 ⟨sr, s5, rfl, b5⟩
    have hown : mEq l.length l.length (fun i => decide (i ∈ kr (eA l) (eB l) (fun x => x) sr)) (fun i => decide (i ∈ kr (eA l) (eB l) (fun x => x) sq)) = true := mEq_all (fun i _ => by
      rw [decide_eq_decide]
      exact (So.two (A := eA l) (B := eB l) (W := eW l) (Lw.lin _ _) s5 s3.out).1 i)
    rw [hown]
    have bv5 := hid (bv4.out.below b5)
    replace b5 := bstep b4 b5
    have hmk5 := hmk.out _ _ _ b5.out bv5.out
    have hmr : mEq l.length l.length q (fun i => decide (i ∈ kr (eA l) (eB l) (fun x => x) sq)) = r := by
      rw [mEq_comm, ← hr.out]
      exact mEq_congr (fun i _ => by
        rw [decide_eq_decide]
        exact (So.two (A := eA l) (B := eB l) (W := eW l) (Lw.lin _ _) s3.out s2.out).1 i)
    rw [hmr] at hmk5
    replace hmk5 := hid hmk5
    clear hown hmr s5 s3 s2 hr b4 bv4 bv5 r4 hmk hls hgive hmb
    go_wp2_with fail
    refine hmk5.out.mono ?_
    rintro e w6 ⟨rfl, kk, rfl⟩
    have b6 := hid (belowN b5.out kk)
    generalize w5.drewN kk = wz at b6
    clear hmk5
    cases r with
    | false =>
      go_wp2_with fail
      refine (hsure.out _).mono ?_
      rintro e w7 ⟨rfl, b7⟩
      have b8 := bstep b6 b7
      go_wp2_with fail
      go_ret
      exact ⟨rfl, b8.out⟩
    | true =>
      go_wp2_with fail
      refine (hsure.out _).mono ?_
      rintro e w7 ⟨rfl, b7⟩
      have b8 := bstep b6 b7
      go_wp2_with fail
      go_ret
      exact ⟨rfl, b8.out⟩
  · have hls : Hid (∀ y u, Below w.heap.size w y → EV y u l → Calls Tryd.prog 13 #[.int .i64 (N : Int), u, mv] y fun e w' => e = .returned (.tuple #[.bool false, .iface 46 (.int .i64 1)]) ∧ Below y.heap.size y w') := fun y u hy hu => least_arg N u mv l k q y hu (hmv.below hy) hkm hN2 hL hok hw
    obtain ⟨bd, bc, rfl, _, _, _⟩ := hmv
    have t1 : ((k : Int) != (m : Int)) = true := by simp; omega
    replace hg := hid hg
    clear h1 h3 h4 hneg hok hw he hv hrt hm hkm
    go_enter Tryd.func4, Tryd.ntmps4
    go_wp2_with fail
    refine (hgive.out _ (Below.refl _ _)).mono ?_
    rintro e w1 ⟨u1, rfl, r1, b1⟩
    replace r1 := hid r1.ev
    replace b1 := hid b1
    go_wp2_with fail
    refine (hls.out _ _ b1.out r1.out).mono ?_
    rintro e w2 ⟨rfl, b2⟩
    replace b2 := bstep b1 b2
    clear b1 r1
    go_wp2_with fail
    refine (hc.out _ b2.out).mono ?_
    rintro e w2' ⟨rfl, rfl⟩
    clear hc
    go_wp2_with fail
    refine (num_err 1 _ (hg.out.below b2.out)).mono ?_
    rintro e w3 ⟨rfl, b3⟩
    replace b3 := bstep b2 b3
    go_wp2_with fail
    refine (hsure.out _).mono ?_
    rintro e w7 ⟨rfl, b7⟩
    have b8 := bstep b3 b7
    go_wp2_with fail
    go_ret
    exact ⟨rfl, b8.out⟩

end Go.Proofs.YtnlbpjppkfenkaaDoor
