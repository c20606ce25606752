/- 'SpanTrees', walked. -/
import Derived.Test.YtnlbpjppkfenkaaDoorRTreeW9
import Derived.Test.YtnlbpjppkfenkaaDoorErrAs
namespace Go.Proofs.YtnlbpjppkfenkaaDoor
open Go.RowKit
set_option linter.unusedVariables false

/-- What the document's Tree answers, of no vertices too. -/
def Rt (gr : Bool) (l : List Ed) (w : World) (e : Ending) (w' : World) : Prop := ∃ mv so, e = .returned (.tuple #[mv, .int .i64 (wsum (eW l) (kr (eA l) (eB l) (fun x => x) so))]) ∧ So l.length (Lg gr (eW l)) so ∧ Rm w.heap.size w' mv l.length (fun i => decide (i ∈ kr (eA l) (eB l) (fun x => x) so)) ∧ Below w.heap.size w w'

theorem rtree_any (n : Nat) (v : Value) (l : List Ed) (gr : Bool) (w : World) (hv : EV w v l) (hn : n ≤ 60) (hl : l.length ≤ 60) (hok : Okr (n : Int) l) (hw : Wr l) :
    Calls Tryd.prog 11 #[.int .i64 (n : Int), v, .bool gr] w fun e w' => Rt gr l w e w' := by
  by_cases h : 1 ≤ n
  · exact rtree_ok n v l gr w hv h hn hl hok hw
  · obtain rfl : n = 0 := by omega
    have hnil : l = [] := by
      cases l with
      | nil => rfl
      | cons q l => have := hok q List.mem_cons_self; unfold Inr at this; omega
    subst hnil
    refine (rtree_zero v gr w hv).mono ?_
    rintro e w' ⟨mv, rfl, h1, h2⟩
    refine ⟨mv, [], rfl, ⟨fun i => by simp, List.Pairwise.nil⟩, ?_, h2⟩
    have e : (fun i => decide (i ∈ kr (eA []) (eB []) (fun x => x) [])) = fun _ => false := by funext i; simp [kr]
    rw [e]
    exact h1

set_option maxRecDepth 100000 in
set_option maxHeartbeats 4000000 in
theorem trees_err (n c : Int) (v : Value) (l : List Ed) (w : World) (hv : EV w v l) (hc : c = 1 ∨ c = 12) (hg : Handle w) (hl : l.length ≤ 60) (hn : n ≤ 60 ∨ 1048576 < n)
    (hT : ∀ y u, EV y u l → Calls Tryd.prog 6 #[.int .i64 n, u] y fun e w' => e = .returned (.tuple #[.slice none 0 0, .int .i64 0, .iface 46 (.int .i64 c)]) ∧ Below y.heap.size y w')
    (hM : ∀ y u, EV y u l → Calls Tryd.prog 8 #[.int .i64 n, u] y fun e w' => e = .returned (.tuple #[.slice none 0 0, .int .i64 0, .iface 46 (.int .i64 c)]) ∧ Below y.heap.size y w')
    (hC : ∀ y, EV y v l → Calls Tryd.prog 9 #[.int .i64 n, v] y fun e w' => e = .returned (.int .i64 c) ∧ y = w') :
    Calls Tryd.prog 3 #[.int .i64 n, v] w fun e w' => e = .returned (.bool true) ∧ Below w.heap.size w w' := by
  have hgive : Hid (∀ y, Below w.heap.size w y → Calls Tryd.prog 7 #[v] y fun e w' => ∃ u, e = .returned u ∧ Re 41 y.heap.size w' u l ∧ Below y.heap.size y w') := fun y hy => give_ok v l y (hv.below hy) (by omega)
  have hC' := hid (fun y (hy : Below w.heap.size w y) => hC y (hv.below hy))
  replace hT := hid hT
  replace hM := hid hM
  replace hg := hid hg
  have c0 : (c != 0) = true := by rcases hc with rfl | rfl <;> decide
  obtain ⟨ad, m, cap, rfl, he, _, _⟩ := hv
  have hm := he.len
  have d3 : decide (60 < (m : Int)) = false := decide_eq_false (by omega)
  have hd : ∃ t : Bool, decide (60 < n) = t ∧ (t = true → decide (n ≤ 1048576) = false) := by
    rcases hn with h | h
    · exact ⟨false, decide_eq_false (by omega), fun h => by cases h⟩
    · exact ⟨true, decide_eq_true (by omega), fun _ => decide_eq_false (by omega)⟩
  clear he hm hC hc hn
  obtain ⟨t, d1, d2⟩ := hd
  cases t with
  | false =>
    clear d2
    go_enter Tryd.func3, Tryd.ntmps3
    go_wp2_with fail
    refine (hgive.out _ (Below.refl _ _)).mono ?_
    rintro e w1 ⟨u1, rfl, r1, b1⟩
    replace r1 := hid r1.ev
    replace b1 := hid b1
    go_wp2_with fail
    refine (hT.out _ _ r1.out).mono ?_
    rintro e w2 ⟨rfl, b2⟩
    replace b2 := bstep b1 b2
    clear b1 r1
    go_wp2_with fail
    refine (hgive.out _ b2.out).mono ?_
    rintro e w3 ⟨u3, rfl, r3, b3⟩
    replace r3 := hid r3.ev
    replace b3 := bstep b2 b3
    clear b2
    go_wp2_with fail
    refine (hM.out _ _ r3.out).mono ?_
    rintro e w4 ⟨rfl, b4⟩
    replace b4 := bstep b3 b4
    clear b3 r3
    go_wp2_with fail
    refine (hC'.out _ b4.out).mono ?_
    rintro e w4' ⟨rfl, rfl⟩
    go_wp2_with fail
    refine (num_err c _ (hg.out.below b4.out)).mono ?_
    rintro e w5 ⟨rfl, b5⟩
    replace b5 := bstep b4 b5
    clear b4
    go_wp2_with fail
    refine (num_err c _ (hg.out.below b5.out)).mono ?_
    rintro e w6 ⟨rfl, b6⟩
    replace b6 := bstep b5 b6
    clear b5
    go_wp2_with fail
    refine (sure_ok _).mono ?_
    rintro e w7 ⟨rfl, b7⟩
    replace b7 := bstep b6 b7
    go_wp2_with fail
    go_ret
    exact ⟨rfl, b7.out⟩
  | true =>
    replace d2 := d2 rfl
    go_enter Tryd.func3, Tryd.ntmps3
    go_wp2_with fail
    refine (hgive.out _ (Below.refl _ _)).mono ?_
    rintro e w1 ⟨u1, rfl, r1, b1⟩
    replace r1 := hid r1.ev
    replace b1 := hid b1
    go_wp2_with fail
    refine (hT.out _ _ r1.out).mono ?_
    rintro e w2 ⟨rfl, b2⟩
    replace b2 := bstep b1 b2
    clear b1 r1
    go_wp2_with fail
    refine (hgive.out _ b2.out).mono ?_
    rintro e w3 ⟨u3, rfl, r3, b3⟩
    replace r3 := hid r3.ev
    replace b3 := bstep b2 b3
    clear b2
    go_wp2_with fail
    refine (hM.out _ _ r3.out).mono ?_
    rintro e w4 ⟨rfl, b4⟩
    replace b4 := bstep b3 b4
    clear b3 r3
    go_wp2_with fail
    refine (hC'.out _ b4.out).mono ?_
    rintro e w4' ⟨rfl, rfl⟩
    go_wp2_with fail
    refine (num_err c _ (hg.out.below b4.out)).mono ?_
    rintro e w5 ⟨rfl, b5⟩
    replace b5 := bstep b4 b5
    clear b4
    go_wp2_with fail
    refine (num_err c _ (hg.out.below b5.out)).mono ?_
    rintro e w6 ⟨rfl, b6⟩
    replace b6 := bstep b5 b6
    clear b5
    go_wp2_with fail
    refine (sure_ok _).mono ?_
    rintro e w7 ⟨rfl, b7⟩
    replace b7 := bstep b6 b7
    go_wp2_with fail
    go_ret
    exact ⟨rfl, b7.out⟩

set_option maxRecDepth 100000 in
set_option maxHeartbeats 4000000 in
theorem trees_law (n : Int) (v : Value) (l : List Ed) (w : World) (hv : EV w v l) (hw : Wr l) (hg : Handle w) : Calls Tryd.prog 3 #[.int .i64 n, v] w fun e w' => e = .returned (.bool true) ∧ Below w.heap.size w w' := by
  have hsure : Hid (∀ y, Calls Tryd.prog 5 #[] y fun e w' => e = .returned (.bool true) ∧ Below y.heap.size y w') := fun y => sure_ok y
  by_cases h1 : 60 < n ∧ n ≤ 1048576
  · obtain ⟨ad, m, cap, rfl, he, _, _⟩ := hv
    have d1 : decide (60 < n) = true := decide_eq_true h1.1
    have d2 : decide (n ≤ 1048576) = true := decide_eq_true h1.2
    clear h1 he hw hg
    go_enter Tryd.func3, Tryd.ntmps3
    go_wp2_with fail
    refine (hsure.out _).mono ?_
    rintro e w1 ⟨rfl, b1⟩
    replace b1 := hid b1
    go_wp2_with fail
    go_ret
    exact ⟨rfl, b1.out⟩
  by_cases h3 : 60 < l.length
  · obtain ⟨ad, m, cap, rfl, he, _, _⟩ := hv
    have hm := he.len
    have d3 : decide (60 < (m : Int)) = true := decide_eq_true (by omega)
    have hd : ∃ t : Bool, decide (60 < n) = t ∧ (t = true → decide (n ≤ 1048576) = false) := by
      by_cases h : 60 < n
      · exact ⟨true, decide_eq_true h, fun _ => decide_eq_false (by omega)⟩
      · exact ⟨false, decide_eq_false h, fun h => by cases h⟩
    clear h1 h3 he hw hm hg
    obtain ⟨t, d1, d2⟩ := hd
    cases t with
    | false =>
      clear d2
      go_enter Tryd.func3, Tryd.ntmps3
      go_wp2_with fail
      refine (hsure.out _).mono ?_
      rintro e w1 ⟨rfl, b1⟩
      replace b1 := hid b1
      go_wp2_with fail
      go_ret
      exact ⟨rfl, b1.out⟩
    | true =>
      replace d2 := d2 rfl
      go_enter Tryd.func3, Tryd.ntmps3
      go_wp2_with fail
      refine (hsure.out _).mono ?_
      rintro e w1 ⟨rfl, b1⟩
      replace b1 := hid b1
      go_wp2_with fail
      go_ret
      exact ⟨rfl, b1.out⟩
  by_cases hneg : n < 0 ∨ 1048576 < n
  · exact trees_err n 1 v l w hv (.inl rfl) hg (by omega) (by omega) (fun y u hu => tree_arg n u l y hu hneg) (fun y u hu => most_arg n u l y hu hneg) (fun y _ => rcheck_arg n v y hneg)
  by_cases hok : Okr n l
  rotate_left
  · exact trees_err n 12 v l w hv (.inr rfl) hg (by omega) (by omega) (fun y u hu => tree_range n u l y hu (by omega) (by omega) (by omega) hok) (fun y u hu => most_range n u l y hu (by omega) (by omega) (by omega) hok) (fun y hy => rcheck_range n v l y hy (by omega) (by omega) (by omega) hok)
  obtain ⟨N, rfl⟩ : ∃ N : Nat, n = (N : Int) := ⟨n.toNat, by omega⟩
  have hN2 : N ≤ 60 := by omega
  have hL : l.length ≤ 60 := by omega
  have hgive : Hid (∀ y, Below w.heap.size w y → Calls Tryd.prog 7 #[v] y fun e w' => ∃ u, e = .returned u ∧ Re 41 y.heap.size w' u l ∧ Below y.heap.size y w') := fun y hy => give_ok v l y (hv.below hy) (by omega)
  have htree : Hid (∀ y u, EV y u l → Calls Tryd.prog 6 #[.int .i64 (N : Int), u] y fun e w' => Tr (Lw (eW l)) l y e w') := fun y u hu => tree_ok N u l y hu (by omega) (by omega) hok hw
  have hmost : Hid (∀ y u, EV y u l → Calls Tryd.prog 8 #[.int .i64 (N : Int), u] y fun e w' => Tr (Gt (eW l)) l y e w') := fun y u hu => most_ok N u l y hu (by omega) (by omega) hok hw
  have hc := hid (fun y (hy : Below w.heap.size w y) => rcheck_ok (N : Int) v l y (hv.below hy) (by omega) (by omega) (by omega) hok)
  have hrt := hid (fun gr y (hy : Below w.heap.size w y) => rtree_any N v l gr y (hv.below hy) hN2 hL hok hw)
  obtain ⟨ad, m, cap, rfl, he, _, _⟩ := hv
  have hm := he.len
  have d1 : decide (60 < (N : Int)) = false := decide_eq_false (by omega)
  have d3 : decide (60 < (m : Int)) = false := decide_eq_false (by omega)
  replace hm := hid hm
  clear h1 h3 hneg hok hw hg he
  go_enter Tryd.func3, Tryd.ntmps3
  go_wp2_with fail
  refine (hgive.out _ (Below.refl _ _)).mono ?_
  rintro e w1 ⟨u1, rfl, r1, b1⟩
  replace r1 := hid r1.ev
  replace b1 := hid b1
  go_wp2_with fail
  refine (htree.out _ _ r1.out).mono ?_
  rintro e w2 ⟨av, so, rfl, so1, m2, b2⟩
  have bv2 := hid m2.bv
  replace b2 := bstep b1 b2
  replace so1 := hid so1
  obtain ⟨s, hs⟩ : ∃ s, wsum (eW l) (kr (eA l) (eB l) (fun x => x) so) = s := ⟨_, rfl⟩
  rw [hs]
  replace hs := hid hs
  clear b1 r1 htree m2
  go_wp2_with fail
  refine (hgive.out _ b2.out).mono ?_
  rintro e w3 ⟨u3, rfl, r3, b3⟩
  replace r3 := hid r3.ev
  have bv3 := hid (bv2.out.below b3)
  replace b3 := bstep b2 b3
  clear b2 bv2 hgive
  go_wp2_with fail
  refine (hmost.out _ _ r3.out).mono ?_
  rintro e w4 ⟨bv, sp, rfl, so2, m4, b4⟩
  have bv4 := hid (bv3.out.below b4)
  have cv4 := hid m4.bv
  replace b4 := bstep b3 b4
  replace so2 := hid so2
  obtain ⟨t, ht⟩ : ∃ t, wsum (eW l) (kr (eA l) (eB l) (fun x => x) sp) = t := ⟨_, rfl⟩
  rw [ht]
  replace ht := hid ht
  clear b3 r3 hmost bv3 m4
  go_wp2_with fail
  refine (hc.out _ b4.out).mono ?_
  rintro e w4' ⟨rfl, rfl⟩
  clear hc
  go_wp2_with fail
  refine (num_nil _).mono ?_
  rintro e w5 ⟨rfl, b5⟩
  have bv5 := hid (bv4.out.below b5)
  have cv5 := hid (cv4.out.below b5)
  replace b5 := bstep b4 b5
  clear bv4 cv4 b4
  go_wp2_with fail
  refine (num_nil _).mono ?_
  rintro e w6 ⟨rfl, b6⟩
  have bv6 := hid (bv5.out.below b6)
  have cv6 := hid (cv5.out.below b6)
  replace b6 := bstep b5 b6
  clear bv5 cv5 b5
  go_wp2_with fail
  refine (hrt.out false _ b6.out).mono ?_
  rintro e w7 ⟨cv, sq, rfl, so3, m7, b7⟩
  obtain ⟨q1, q2⟩ := So.two (A := eA l) (B := eB l) (W := eW l) (Lw.lin _ _) so3 so1.out
  rw [q2, hs.out]
  have bv7 := hid (bv6.out.below b7)
  have cv7 := hid (cv6.out.below b7)
  have dv7 := hid m7.bv
  replace b7 := bstep b6 b7
  replace q1 := hid q1
  clear bv6 cv6 b6 so3 so1 q2 m7 hs
  go_wp2_with fail
  refine (hrt.out true _ b7.out).mono ?_
  rintro e w8 ⟨dv, sr, rfl, so4, m8, b8⟩
  obtain ⟨p1, p2⟩ := So.two (A := eA l) (B := eB l) (W := eW l) (Gt.lin _ _) so4 so2.out
  rw [p2, ht.out]
  have bv8 := hid (bv7.out.below b8)
  have cv8 := hid (cv7.out.below b8)
  have dv8 := hid (dv7.out.below b8)
  have ev8 := hid m8.bv
  replace b8 := bstep b7 b8
  replace p1 := hid p1
  have mk1 := hid (marks_ok av cv _ _ _ _ w8 bv8.out dv8.out)
  have e1 : Hid (mEq l.length l.length (fun i => decide (i ∈ kr (eA l) (eB l) (fun x => x) so)) (fun i => decide (i ∈ kr (eA l) (eB l) (fun x => x) sq)) = true) := hid (mEq_all (fun i _ => by rw [decide_eq_decide]; exact (q1.out i).symm))
  have mk2 : Hid (∀ k, Calls Tryd.prog 12 #[bv, dv] (w8.drewN k) fun e w' => e = .returned (.bool true) ∧ ∃ k', w' = (w8.drewN k).drewN k') := fun k => by
    have h := marks_ok bv dv _ _ _ _ (w8.drewN k) (cv8.out.below (belowN (Below.refl _ _) k)) (ev8.out.below (belowN (Below.refl _ _) k))
    rw [mEq_all (fun i _ => by rw [decide_eq_decide]; exact (p1.out i).symm)] at h
    exact h
  rw [e1.out] at mk1
  clear bv7 cv7 dv7 b7 so4 so2 p2 m8 ht p1 q1 e1 bv8 cv8 dv8 ev8 hrt
  go_wp2_with fail
  refine mk1.out.mono ?_
  rintro e w9 ⟨rfl, k9, rfl⟩
  clear mk1
  go_wp2_with fail
  refine (mk2.out k9).mono ?_
  rintro e w10 ⟨rfl, k10, rfl⟩
  clear mk2
  have b10 := hid (belowN (belowN b8.out k9) k10)
  generalize (w8.drewN k9).drewN k10 = wz at b10
  go_wp2_with fail
  refine (hsure.out _).mono ?_
  rintro e w11 ⟨rfl, b11⟩
  have b12 := bstep b10 b11
  go_wp2_with fail
  go_ret
  exact ⟨rfl, b12.out⟩

end Go.Proofs.YtnlbpjppkfenkaaDoor
