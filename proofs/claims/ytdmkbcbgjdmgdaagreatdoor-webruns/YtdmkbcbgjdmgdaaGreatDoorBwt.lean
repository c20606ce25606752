/- 'Same', 'Walk', 'Len', 'Weakest', 'Tied' of a Web, walked. 'Split', 'Apart', 'Merge' of a Web, walked. 'Merge' of a Web, walked. -/
import Derived.Test.YtdmkbcbgjdmgdaaGreatDoorBpure
import Derived.Test.YtdmkbcbgjdmgdaaGreatDoorBringb
import Derived.Test.YtdmkbcbgjdmgdaaGreatDoorBws
namespace Go.Proofs.YtdmkbcbgjdmgdaaGreatDoor
open Go.RowKit
set_option linter.unusedVariables false

/-- Two ends held against one another. -/
theorem ends_eq (a b c d : Int) (w : World) : (Op.equalIn 10000 84 (.agg #[.int .i64 a, .int .i64 b]) (.agg #[.int .i64 c, .int .i64 d])).run Tryz.prog w = .ok (a == c && b == d) w := by
  obtain ⟨i0, hif, hz0, hz1, hz2⟩ := info_parts infoInt
  have u3 := Tryz.underlying3
  rw [show (10000 : Nat) = 9999 + 1 from rfl, Op.equalIn]
  simp only [Sem.run_bind, run_underlying Tryz.underlying84, Result.andThen_ok]
  simp only [Std.Legacy.Range.forIn_eq_forIn_range', Std.Legacy.Range.size, Nat.sub_zero, Nat.add_sub_cancel, Nat.div_one, List.range'_succ, List.range'_zero, List.forIn_cons, List.forIn_nil]
  by_cases h1 : a = c <;> by_cases h2 : b = d <;> simp [h1, h2, part, Go.sizeOf, typeInfo, hif, hz1, isAgg, run_underlying Tryz.underlying3, go_sem, u3]

section
variable {lo wb n m rb fb cb N : Nat} {w w0 w' : World} {vz vz' v v' : Nat → Int} {seq seq' : Nat → List Nat} {adj adj' : Nat → Nat → Prop} {tt tt' : Nat → Option (Nat × Nat)} {ky : Nat → Int}

set_option maxRecDepth 100000 in
set_option maxHeartbeats 4000000 in
theorem WX.same (h : WX lo w wb n m rb fb cb N vz v seq adj tt w0) (a b : Nat) (ha : a < n) (hb : b < n) (B : Bool) (hB : decide (seq (a + 1) = seq (b + 1)) = B) :
    Calls Tryz.prog 15 #[.pointer (some ⟨wb, 0, none⟩), .int .i64 (a : Int), .int .i64 (b : Int)] w0 fun e w' => e = .returned (.tuple #[.bool B, .nilIface]) ∧ WX lo w wb n m rb fb cb N vz v seq adj tt w' ∧ KeepW w0 w' := by
  have hl := hid (h.wm.look2 a b ha hb)
  have h1 := (h.alloc (.cells #[.int .i64 (a : Int), .int .i64 (b : Int)] 3))
  have k1 := hid (((KeepW.refl w0).alloc (.cells #[.int .i64 (a : Int), .int .i64 (b : Int)] 3)))
  have hB := hid hB
  clear h
  go_enter Tryz.func15, Tryz.ntmps15
  go_wp2_with fail
  refine hl.out.mono ?_
  rintro e w1 ⟨rfl, hw1⟩
  clear hl
  generalize w0.alloc (.cells #[.int .i64 (a : Int), .int .i64 (b : Int)] 3) = wa at *
  subst hw1
  have hs := hid (h1.rg.same a b ha hb B hB.out)
  obtain ⟨c0, c1, c2, c3⟩ := h1.wm.cells
  have h1 := hid h1
  go_wp2_with fail
  refine hs.out.mono ?_
  rintro e w2 ⟨rfl, g2, k2⟩
  have fin := hid (And.intro (h1.out.ring g2 k2) (k1.out.trans (KeepW.ofKeep k2)))
  clear hs g2 k2
  go_wp2_with fail
  go_ret2
  exact ⟨rfl, fin.out⟩

set_option maxRecDepth 100000 in
set_option maxHeartbeats 4000000 in
theorem WX.len (h : WX lo w wb n m rb fb cb N vz v seq adj tt w0) (a : Nat) (ha : a < n) :
    Calls Tryz.prog 38 #[.pointer (some ⟨wb, 0, none⟩), .int .i64 (a : Int)] w0 fun e w' => e = .returned (.tuple #[.int .i64 ((seq (a + 1)).length : Int), .nilIface]) ∧ WX lo w wb n m rb fb cb N vz v seq adj tt w' ∧ KeepW w0 w' := by
  have hl := hid (h.wm.look1 a ha)
  have h1 := (h.alloc (.cells #[.int .i64 (a : Int)] 3))
  have k1 := hid (((KeepW.refl w0).alloc (.cells #[.int .i64 (a : Int)] 3)))
  clear h
  go_enter Tryz.func38, Tryz.ntmps38
  go_wp2_with fail
  refine hl.out.mono ?_
  rintro e w1 ⟨rfl, hw1⟩
  clear hl
  generalize w0.alloc (.cells #[.int .i64 (a : Int)] 3) = wa at *
  subst hw1
  have hs := hid (h1.rg.len a ha)
  obtain ⟨c0, c1, c2, c3⟩ := h1.wm.cells
  have h1 := hid h1
  go_wp2_with fail
  refine hs.out.mono ?_
  rintro e w2 ⟨rfl, g2, k2⟩
  have fin := hid (And.intro (h1.out.ring g2 k2) (k1.out.trans (KeepW.ofKeep k2)))
  clear hs g2 k2
  go_wp2_with fail
  go_ret2
  exact ⟨rfl, fin.out⟩

set_option maxRecDepth 100000 in
set_option maxHeartbeats 4000000 in
theorem WX.walk (h : WX lo w wb n m rb fb cb N vz v seq adj tt w0) (a : Nat) (ha : a < n) :
    Calls Tryz.prog 18 #[.pointer (some ⟨wb, 0, none⟩), .int .i64 (a : Int)] w0 fun e w' => ∃ u, e = .returned (.tuple #[u, .nilIface]) ∧ Rw w' u (rot (seq (a + 1)) (a + 1)) ∧ WX lo w wb n m rb fb cb N vz v seq adj tt w' ∧ KeepW w0 w' := by
  have hl := hid (h.wm.look1 a ha)
  have h1 := (h.alloc (.cells #[.int .i64 (a : Int)] 3))
  have k1 := hid (((KeepW.refl w0).alloc (.cells #[.int .i64 (a : Int)] 3)))
  clear h
  go_enter Tryz.func18, Tryz.ntmps18
  go_wp2_with fail
  refine hl.out.mono ?_
  rintro e w1 ⟨rfl, hw1⟩
  clear hl
  generalize w0.alloc (.cells #[.int .i64 (a : Int)] 3) = wa at *
  subst hw1
  have hs := hid (h1.rg.walk a ha)
  obtain ⟨c0, c1, c2, c3⟩ := h1.wm.cells
  have h1 := hid h1
  go_wp2_with fail
  refine hs.out.mono ?_
  rintro e w2 ⟨u, rfl, hu, g2, k2⟩
  have fin := hid (And.intro hu (And.intro (h1.out.ring g2 k2) (k1.out.trans (KeepW.ofKeep k2))))
  clear hs g2 k2 hu
  go_wp2_with fail
  go_ret2
  exact ⟨u, rfl, fin.out⟩

set_option maxRecDepth 100000 in
set_option maxHeartbeats 4000000 in
theorem WX.walk_bad (h : WX lo w wb n m rb fb cb N vz v seq adj tt w0) (a : Int) (hx : ¬ (0 ≤ a ∧ a < (n : Int))) :
    Calls Tryz.prog 18 #[.pointer (some ⟨wb, 0, none⟩), .int .i64 a] w0 fun e w' => e = .returned (.tuple #[.slice none 0 0, .iface 63 (.int .i64 12)]) ∧ WX lo w wb n m rb fb cb N vz v seq adj tt w' ∧ KeepW w0 w' := by
  have hl := hid (h.wm.bad1 a hx)
  have fin := hid (And.intro (h.alloc (.cells #[.int .i64 a] 3)) ((KeepW.refl w0).alloc (.cells #[.int .i64 a] 3)))
  clear h hx
  go_enter Tryz.func18, Tryz.ntmps18
  go_wp2_with fail
  refine hl.out.mono ?_
  rintro e w1 ⟨rfl, hw1⟩
  clear hl
  generalize w0.alloc (.cells #[.int .i64 a] 3) = wa at *
  subst hw1
  go_wp2_with fail
  go_ret2
  exact ⟨rfl, fin.out⟩

set_option maxRecDepth 100000 in
set_option maxHeartbeats 4000000 in
theorem WX.weak_bad (h : WX lo w wb n m rb fb cb N vz v seq adj tt w0) (a b : Int) (hx : ¬ ((0 ≤ a ∧ a < (n : Int)) ∧ (0 ≤ b ∧ b < (n : Int)))) :
    Calls Tryz.prog 17 #[.pointer (some ⟨wb, 0, none⟩), .int .i64 a, .int .i64 b] w0 fun e w' => e = .returned (.tuple #[.int .i64 0, .iface 63 (.int .i64 12)]) ∧ WX lo w wb n m rb fb cb N vz v seq adj tt w' ∧ KeepW w0 w' := by
  have hl := hid (h.wm.bad2 a b hx)
  have fin := hid (And.intro (h.alloc (.cells #[.int .i64 a, .int .i64 b] 3)) ((KeepW.refl w0).alloc (.cells #[.int .i64 a, .int .i64 b] 3)))
  clear h hx
  go_enter Tryz.func17, Tryz.ntmps17
  go_wp2_with fail
  refine hl.out.mono ?_
  rintro e w1 ⟨rfl, hw1⟩
  clear hl
  generalize w0.alloc (.cells #[.int .i64 a, .int .i64 b] 3) = wa at *
  subst hw1
  go_wp2_with fail
  go_ret2
  exact ⟨rfl, fin.out⟩

set_option maxRecDepth 100000 in
set_option maxHeartbeats 4000000 in
theorem WX.weakN (h : WX lo w wb n m rb fb cb N vz v seq adj tt w0) (hn : n ≤ 4194304) (hN : ∀ x, x < n → iN x < N) (a b : Nat) (ha : a < n) (hb : b < n) (hno : ¬ Cn adj (iN a + 1) (iN b + 1)) :
    Calls Tryz.prog 17 #[.pointer (some ⟨wb, 0, none⟩), .int .i64 (a : Int), .int .i64 (b : Int)] w0 fun e w' => e = .returned (.tuple #[.int .i64 0, .iface 63 (.int .i64 21)]) ∧ WX lo w wb n m rb fb cb N vz v seq adj tt w' ∧ KeepW w0 w' := by
  have hl := hid (h.wm.look2 a b ha hb)
  have h1 := (h.alloc (.cells #[.int .i64 (a : Int), .int .i64 (b : Int)] 3))
  have k1 := hid (((KeepW.refl w0).alloc (.cells #[.int .i64 (a : Int), .int .i64 (b : Int)] 3)))
  have hs := hid (h1.drew.ct.leastN _ _ (hN a ha) (hN b hb) (Cn.no hno))
  clear h hno hN
  go_enter Tryz.func17, Tryz.ntmps17
  go_wp2_with fail
  refine hl.out.mono ?_
  rintro e w1 ⟨rfl, hw1⟩
  clear hl
  generalize w0.alloc (.cells #[.int .i64 (a : Int), .int .i64 (b : Int)] 3) = wa at *
  subst hw1
  obtain ⟨c0, c1, c2, c3⟩ := h1.wm.cells
  have h1 := hid h1
  go_wp2_with fail
  go_region_held3 (fun w' => w'.cell? ⟨wb, 3, none⟩ = some (.pointer (some ⟨cb, 0, none⟩))) (first | assumption | exact c3 | go_keep) (first
    | (go_at_call 29; refine (inode_ok _ (by omega) _).mono ?_; rintro e w3 ⟨rfl, rfl⟩)
    | (go_at_call 46; refine hs.out.mono ?_; rintro e w4 ⟨rfl, h4, k4⟩; have fin := hid (And.intro (h1.out.drew.trees h4 k4) (k1.out.drew.trans (.ofCt k4))); have c3' := fin.out.1.wm.cells.2.2.2; clear h4 k4))
  all_goals
    go_wp2_with fail
    go_ret2
    exact ⟨rfl, fin.out⟩

set_option maxRecDepth 100000 in
set_option maxHeartbeats 4000000 in
theorem WX.weakY (h : WX lo w wb n m rb fb cb N vz v seq adj tt w0) (hn : n ≤ 4194304) (hN : ∀ x, x < n → iN x < N) (hN8 : N ≤ 8388608) (a b : Nat) (ha : a < n) (hb : b < n) (l : List Nat) (hr : Rd adj (iN a + 1) (iN b + 1) l) (hv : Ct.In64 v l) (hlN : ∀ z, z ∈ l → z ≤ N) :
    Calls Tryz.prog 17 #[.pointer (some ⟨wb, 0, none⟩), .int .i64 (a : Int), .int .i64 (b : Int)] w0 fun e w' => ∃ d : Nat, (∃ A B, l = A ++ (d + 1) :: B ∧ v (d + 1) = Ct.lowV v l ∧ ∀ z, z ∈ A → v z ≠ Ct.lowV v l) ∧ e = .returned (.tuple #[.int .i64 (tOf d), .nilIface]) ∧ WX lo w wb n m rb fb cb N vz v seq adj tt w' ∧ KeepW w0 w' := by
  have hl := hid (h.wm.look2 a b ha hb)
  have h1 := (h.alloc (.cells #[.int .i64 (a : Int), .int .i64 (b : Int)] 3))
  have k1 := hid (((KeepW.refl w0).alloc (.cells #[.int .i64 (a : Int), .int .i64 (b : Int)] 3)))
  have hs := hid (h1.drew.ct.leastY _ _ (hN a ha) (hN b hb) l hr hv)
  have hlN := hid hlN
  clear h hN hr hv
  go_enter Tryz.func17, Tryz.ntmps17
  go_wp2_with fail
  refine hl.out.mono ?_
  rintro e w1 ⟨rfl, hw1⟩
  clear hl
  generalize w0.alloc (.cells #[.int .i64 (a : Int), .int .i64 (b : Int)] 3) = wa at *
  subst hw1
  obtain ⟨c0, c1, c2, c3⟩ := h1.wm.cells
  have h1 := hid h1
  go_wp2_with fail
  go_region_held3 (fun w' => w'.cell? ⟨wb, 3, none⟩ = some (.pointer (some ⟨cb, 0, none⟩))) (first | assumption | exact c3 | go_keep) (first
    | (go_at_call 29; refine (inode_ok _ (by omega) _).mono ?_; rintro e w3 ⟨rfl, rfl⟩)
    | (go_at_call 46; refine hs.out.mono ?_; rintro e w4 ⟨d, hd, rfl, h4, k4⟩; have fin := hid (And.intro (h1.out.drew.trees h4 k4) (k1.out.drew.trans (.ofCt k4))); have c3' := fin.out.1.wm.cells.2.2.2; have hd := hid hd; clear h4 k4))
  all_goals
    have hdN : d ≤ 8388608 := by
      obtain ⟨A, B, e1, _⟩ := hd.out
      have := hlN.out (d + 1) (by rw [e1]; simp)
      omega
    clear hs h1 c0 c1 c2 c3 c3' hlN
    go_wp2_with fail
    refine (tieof_ok d hdN _).mono ?_
    rintro e w5 ⟨rfl, rfl⟩
    go_wp2_with fail
    go_ret2
    exact ⟨d, hd.out, rfl, fin.out⟩

set_option maxRecDepth 100000 in
set_option maxHeartbeats 4000000 in
theorem WX.tied_bad (h : WX lo w wb n m rb fb cb N vz v seq adj tt w0) (e : Int) (hx : ¬ (0 ≤ e ∧ e < (m : Int))) :
    Calls Tryz.prog 12 #[.pointer (some ⟨wb, 0, none⟩), .int .i64 e] w0 fun x w' => x = .returned (.bool false) ∧ Below w0.heap.size w0 w' := by
  have hl := hid (h.wm.between_bad e hx)
  clear h hx
  go_enter Tryz.func12, Tryz.ntmps12
  go_wp2_with fail
  refine hl.out.mono ?_
  rintro x w1 ⟨rfl, b1⟩
  have b1 := hid b1
  clear hl
  go_wp2_with fail
  go_region
  all_goals
    go_wp2_with fail
    go_ret
    exact ⟨rfl, (b1.out.alloc b1.out.size _).drew⟩

set_option maxRecDepth 100000 in
set_option maxHeartbeats 4000000 in
theorem WX.tied (h : WX lo w wb n m rb fb cb N vz v seq adj tt w0) (hm : m ≤ 1048576) (e : Nat) (he : e < m) (hends : ∀ a b, tt e = some (a, b) → a ≠ b) :
    Calls Tryz.prog 12 #[.pointer (some ⟨wb, 0, none⟩), .int .i64 (e : Int)] w0 fun x w' => x = .returned (.bool (tt e).isSome) ∧ Below w0.heap.size w0 w' := by
  have hl := hid (h.wm.between hm e he)
  have hends := hid hends
  obtain ⟨t, ht⟩ : ∃ t, (tt e).isSome = t := ⟨_, rfl⟩
  rw [ht]
  have ht := hid ht
  clear h
  go_enter Tryz.func12, Tryz.ntmps12
  go_wp2_with fail
  refine hl.out.mono ?_
  rintro x w1 ⟨a, b, rfl, hab, b1⟩
  obtain ⟨w2, hw2⟩ : ∃ w2, w1.alloc (.cells #[.int .i64 a, .int .i64 b] 84) = w2 := ⟨_, rfl⟩
  have k2 : w2.heap[w1.heap.size]? = some (.cells #[.int .i64 a, .int .i64 b] 84 (0, 0)) := by rw [← hw2]; exact heap_alloc_new w1 _
  have b2 : Hid (Below w0.heap.size w0 w2) := by rw [← hw2]; exact hid (b1.alloc b1.size _)
  obtain ⟨⟨f1, f2⟩, _⟩ := blk2 k2
  have k2 := hid k2
  have hloose : Hid (∀ y, Below w2.heap.size w2 y → Calls Tryz.prog 42 #[] y fun e w' => e = .returned (.agg #[.int .i64 0, .int .i64 0]) ∧ (w'.cell? ⟨w1.heap.size, 0, none⟩ = some (.int .i64 a) ∧ w'.cell? ⟨w1.heap.size, 1, none⟩ = some (.int .i64 b)) ∧ Below w2.heap.size w2 w') := hid (fun y hy => by
    refine (loose_ok y).mono ?_
    rintro e w' ⟨rfl, hb⟩
    have hb2 := hy.trans (hb.mono hy.size)
    exact ⟨rfl, (blk2 ((hb2.block _ (Array.getElem?_eq_some_iff.1 k2.out).1).trans k2.out)).1, hb2⟩)
  have hw2 := hid hw2
  have h22 : Hid (Below w2.heap.size w2 w2.drew) := hid (Below.refl _ _).drew
  have key : ∀ t : Bool, (tt e).isSome = t → (((a == 0) = true ∧ (b == 0) = true ∧ t = false) ∨ ((a == 0) = false ∧ t = true) ∨ ((a == 0) = true ∧ (b == 0) = false ∧ t = true)) := fun t ht => by
    cases hc : tt e with
    | none =>
      rw [hc] at hab ht
      have : [Value.int .i64 0, Value.int .i64 0] = [.int .i64 a, .int .i64 b] := hab
      injection this with e1 e2
      injection e2 with e2 _
      injection e1 with _ e1
      injection e2 with _ e2
      subst e1 e2
      exact .inl ⟨rfl, rfl, by rw [← ht]; rfl⟩
    | some q =>
      obtain ⟨x, y⟩ := q
      rw [hc] at hab ht
      have hxy := hends.out x y hc
      have : [Value.int .i64 (x : Int), Value.int .i64 (y : Int)] = [.int .i64 a, .int .i64 b] := hab
      injection this with e1 e2
      injection e2 with e2 _
      injection e1 with _ e1
      injection e2 with _ e2
      subst e1 e2
      have ht : t = true := by rw [← ht]; rfl
      by_cases q : x = 0
      · exact .inr (.inr ⟨by rw [beq_iff_eq]; omega, by rw [beq_eq_false_iff_ne]; omega, ht⟩)
      · exact .inr (.inl ⟨by rw [beq_eq_false_iff_ne]; omega, ht⟩)
  have key := key t ht.out
  clear hl hab hends b1 ht
  go_upto_region 2 with fail
  try rw [hw2.out]
  have heq : Hid (∀ y, (Op.equalIn 10000 84 (.agg #[.int .i64 a, .int .i64 b]) (.agg #[.int .i64 0, .int .i64 0])).run Tryz.prog y = .ok (!t) y) := hid (fun y => by
    rw [ends_eq]
    rcases key with ⟨t1, t2, rfl⟩ | ⟨t1, rfl⟩ | ⟨t1, t2, rfl⟩
    · rw [t1, t2]; rfl
    · rw [t1]; rfl
    · rw [t1, t2]; rfl)
  have heq := heq.out
  clear key
  cases t
  all_goals
    go_region_held3 (fun w' => w'.cell? ⟨w1.heap.size, 0, none⟩ = some (.int .i64 a) ∧ w'.cell? ⟨w1.heap.size, 1, none⟩ = some (.int .i64 b)) (first | assumption | exact ⟨f1, f2⟩ | go_keep) (
      (go_at_call 42; refine (hloose.out _ h22.out).mono ?_; rintro e w4 ⟨rfl, f4, b4⟩; have b4 := hid b4))
    all_goals
      go_wp2_with fail
      go_ret
      exact ⟨rfl, b2.out.trans (b4.out.mono b2.out.size)⟩
end
end Go.Proofs.YtdmkbcbgjdmgdaaGreatDoor

namespace Go.Proofs.YtdmkbcbgjdmgdaaGreatDoor
open Go.RowKit
set_option linter.unusedVariables false

section
variable {lo wb n m rb fb cb N : Nat} {w w0 w' : World} {vz vz' v v' : Nat → Int} {seq seq' : Nat → List Nat} {adj adj' : Nat → Nat → Prop} {tt tt' : Nat → Option (Nat × Nat)} {ky : Nat → Int}

set_option maxRecDepth 100000 in
set_option maxHeartbeats 4000000 in
theorem WX.split (h : WX lo w wb n m rb fb cb N vz v seq (Ad n seq tt) tt w0) (hn : n ≤ 4194304) (hN : ∀ x, x < n → iN x < N) (a b : Nat) (ha : a < n) (hb : b < n) (hne : a ≠ b) (hin : b + 1 ∈ seq (a + 1)) :
    Calls Tryz.prog 20 #[.pointer (some ⟨wb, 0, none⟩), .int .i64 (a : Int), .int .i64 (b : Int)] w0 fun e w' => e = .returned .nilIface ∧ WX lo w wb n m rb fb cb N vz v (splS seq (a + 1) (b + 1)) (Ad n (splS seq (a + 1) (b + 1)) tt) tt w' ∧ KeepW w0 w' ∧ ¬ Cn (Ad n (splS seq (a + 1) (b + 1)) tt) (iN a + 1) (iN b + 1) := by
  have p := h.part
  have hX : a + 1 ≠ 0 := by omega
  have hXY : a + 1 ≠ b + 1 := by omega
  obtain ⟨P, Q, e, hP⟩ := rot_parts p hX hXY hin
  have e1 : turnS seq (a + 1) (a + 1) = (a + 1) :: P ++ (b + 1) :: Q := by rw [turnS_self p hX, e]
  have e2 : splS seq (a + 1) (b + 1) = cutS (turnS seq (a + 1)) ((a + 1) :: P) (b + 1) Q := by rw [split_is p hX e]
  have e3 := split_turn p hX hXY hin
  have hin1 : b + 1 ∈ turnS seq (a + 1) (a + 1) := (turn_mem p hX hX).2 hin
  have hl := hid (h.wm.look2 a b ha hb)
  have ht := hid ((h.alloc (.cells #[.int .i64 (a : Int), .int .i64 (b : Int)] 3)).turn hn hN a ha)
  have k1 := hid (((KeepW.refl w0).alloc (.cells #[.int .i64 (a : Int), .int .i64 (b : Int)] 3)))
  have e1 := hid e1
  have e2 := hid e2
  have e3 := hid e3
  have hin1 := hid hin1
  have hN := hid hN
  have hne := hid hne
  clear h p hin e hP
  go_enter Tryz.func20, Tryz.ntmps20
  go_wp2_with fail
  refine hl.out.mono ?_
  rintro e w1 ⟨rfl, hw1⟩
  clear hl
  generalize w0.alloc (.cells #[.int .i64 (a : Int), .int .i64 (b : Int)] 3) = wa at *
  subst hw1
  go_wp2_with fail
  refine ht.out.mono ?_
  rintro e w2 ⟨rfl, h2, K2⟩
  have hp := hid (h2.rg.prev b hb)
  obtain ⟨c0, c1, c2, c3⟩ := h2.wm.cells
  have h2 := hid h2
  have K2 := hid (k1.out.trans K2)
  clear ht k1
  go_wp2_with fail
  refine hp.out.mono ?_
  rintro e w3 ⟨l, hll, rfl, g3, k3⟩
  have h3 := h2.out.ring g3 k3
  have K3 := hid (K2.out.trans (KeepW.ofKeep k3))
  obtain ⟨b1, l1, l2, l3⟩ := split_links (tt := tt) h3.part ha e1.out hll
  have l3 := l3 h3.ct.wood
  rw [← e2.out] at l2 l3
  have hs := hid (h3.rg.split a b ha hb hne.out hin1.out)
  clear c0 c1 c2 c3
  obtain ⟨c0, c1, c2, c3⟩ := h3.wm.cells
  have h3 := hid h3
  have l1 := hid l1
  have l2 := hid l2
  have l3 := hid l3
  clear hp g3 k3 h2 K2 hll
  go_wp2_with fail
  refine hs.out.mono ?_
  rintro e w4 ⟨rfl, g4, k4⟩
  rw [e3.out] at g4
  have h4 := h3.out.ring g4 k4
  have K4 := hid (K3.out.trans (KeepW.ofKeep k4))
  have hcut := hid (h4.drew.ct.cut _ _ (hN.out l b1) (hN.out b hb) l1.out)
  clear c0 c1 c2 c3
  obtain ⟨c0, c1, c2, c3⟩ := h4.wm.cells
  have h4 := hid h4
  clear hs g4 k4 h3 K3
  go_wp2_with fail
  go_region_held3 (fun w' => w'.cell? ⟨wb, 3, none⟩ = some (.pointer (some ⟨cb, 0, none⟩))) (first | assumption | exact c3 | go_keep) (first
    | (go_at_call 29; refine (inode_ok _ (by omega) _).mono ?_; rintro e w5 ⟨rfl, rfl⟩)
    | (go_at_call 53; refine hcut.out.mono ?_; rintro e w5 ⟨rfl, g5, k5⟩; rw [l2.out] at g5; have h5 := hid (h4.out.drew.trees g5 k5); have K5 := hid (K4.out.drew.trans (.ofCt k5)); have c3' := h5.out.wm.cells.2.2.2; clear g5 k5))
  all_goals
    go_wp2_with fail
    go_ret
    exact ⟨rfl, h5.out, K5.out, l3.out⟩

set_option maxRecDepth 100000 in
set_option maxHeartbeats 4000000 in
/-- Not split: the one error, or the other. -/
theorem WX.splitN (h : WX lo w wb n m rb fb cb N vz v seq (Ad n seq tt) tt w0) (hn : n ≤ 4194304) (hN : ∀ x, x < n → iN x < N) (a b : Nat) (ha : a < n) (hb : b < n) (E : Int) (hE : (a = b ∧ E = 20) ∨ (b + 1 ∉ seq (a + 1) ∧ E = 21)) :
    Calls Tryz.prog 20 #[.pointer (some ⟨wb, 0, none⟩), .int .i64 (a : Int), .int .i64 (b : Int)] w0 fun e w' => e = .returned (.iface 63 (.int .i64 E)) ∧ WX lo w wb n m rb fb cb N vz v (turnS seq (a + 1)) (Ad n (turnS seq (a + 1)) tt) tt w' ∧ KeepW w0 w' := by
  have p := h.part
  have hX : a + 1 ≠ 0 := by omega
  have hl := hid (h.wm.look2 a b ha hb)
  have ht := hid ((h.alloc (.cells #[.int .i64 (a : Int), .int .i64 (b : Int)] 3)).turn hn hN a ha)
  have k1 := hid (((KeepW.refl w0).alloc (.cells #[.int .i64 (a : Int), .int .i64 (b : Int)] 3)))
  have hE : Hid ((a = b ∧ E = 20) ∨ (b + 1 ∉ turnS seq (a + 1) (a + 1) ∧ E = 21)) := hid (by
    rcases hE with q | ⟨q1, q2⟩
    · exact .inl q
    · exact .inr ⟨fun k => q1 ((turn_mem p hX hX).1 k), q2⟩)
  clear h p
  go_enter Tryz.func20, Tryz.ntmps20
  go_wp2_with fail
  refine hl.out.mono ?_
  rintro e w1 ⟨rfl, hw1⟩
  clear hl
  generalize w0.alloc (.cells #[.int .i64 (a : Int), .int .i64 (b : Int)] 3) = wa at *
  subst hw1
  go_wp2_with fail
  refine ht.out.mono ?_
  rintro e w2 ⟨rfl, h2, K2⟩
  have hp := hid (h2.rg.prev b hb)
  obtain ⟨c0, c1, c2, c3⟩ := h2.wm.cells
  have h2 := hid h2
  have K2 := hid (k1.out.trans K2)
  clear ht k1
  go_wp2_with fail
  refine hp.out.mono ?_
  rintro e w3 ⟨l, hll, rfl, g3, k3⟩
  have h3 := h2.out.ring g3 k3
  have K3 := hid (K2.out.trans (KeepW.ofKeep k3))
  have hs : Hid (Calls Tryz.prog 52 #[.pointer (some ⟨rb, 0, none⟩), .int .i64 (a : Int), .int .i64 (b : Int)] w3 fun e w' => e = .returned (.iface 63 (.int .i64 E)) ∧ RG lo w rb fb n vz (turnS seq (a + 1)) w' ∧ Keep w3 w') := hid (by
    rcases hE.out with ⟨q1, q2⟩ | ⟨q1, q2⟩
    · subst q1 q2; exact h3.rg.split_self a ha
    · subst q2; exact h3.rg.split_apart a b ha hb q1)
  clear c0 c1 c2 c3
  obtain ⟨c0, c1, c2, c3⟩ := h3.wm.cells
  have h3 := hid h3
  clear hp g3 k3 h2 K2 hll hE
  go_wp2_with fail
  refine hs.out.mono ?_
  rintro e w4 ⟨rfl, g4, k4⟩
  have fin := hid (And.intro (h3.out.ring g4 k4) (K3.out.trans (KeepW.ofKeep k4)))
  clear hs g4 k4 h3 K3
  go_wp2_with fail
  go_ret
  exact ⟨rfl, fin.out⟩

set_option maxRecDepth 100000 in
set_option maxHeartbeats 4000000 in
theorem WX.split_bad (h : WX lo w wb n m rb fb cb N vz v seq adj tt w0) (a b : Int) (hx : ¬ ((0 ≤ a ∧ a < (n : Int)) ∧ (0 ≤ b ∧ b < (n : Int)))) :
    Calls Tryz.prog 20 #[.pointer (some ⟨wb, 0, none⟩), .int .i64 a, .int .i64 b] w0 fun e w' => e = .returned (.iface 63 (.int .i64 12)) ∧ WX lo w wb n m rb fb cb N vz v seq adj tt w' ∧ KeepW w0 w' := by
  have hl := hid (h.wm.bad2 a b hx)
  have fin := hid (And.intro (h.alloc (.cells #[.int .i64 a, .int .i64 b] 3)) ((KeepW.refl w0).alloc (.cells #[.int .i64 a, .int .i64 b] 3)))
  clear h hx
  go_enter Tryz.func20, Tryz.ntmps20
  go_wp2_with fail
  refine hl.out.mono ?_
  rintro e w1 ⟨rfl, hw1⟩
  clear hl
  generalize w0.alloc (.cells #[.int .i64 a, .int .i64 b] 3) = wa at *
  subst hw1
  go_wp2_with fail
  go_ret
  exact ⟨rfl, fin.out⟩

set_option maxRecDepth 100000 in
set_option maxHeartbeats 4000000 in
theorem WX.apart_bad (h : WX lo w wb n m rb fb cb N vz v seq adj tt w0) (a : Int) (hx : ¬ (0 ≤ a ∧ a < (n : Int))) :
    Calls Tryz.prog 22 #[.pointer (some ⟨wb, 0, none⟩), .int .i64 a] w0 fun e w' => e = .returned (.iface 63 (.int .i64 12)) ∧ WX lo w wb n m rb fb cb N vz v seq adj tt w' ∧ KeepW w0 w' := by
  have hl := hid (h.wm.bad1 a hx)
  have fin := hid (And.intro (h.alloc (.cells #[.int .i64 a] 3)) ((KeepW.refl w0).alloc (.cells #[.int .i64 a] 3)))
  clear h hx
  go_enter Tryz.func22, Tryz.ntmps22
  go_wp2_with fail
  refine hl.out.mono ?_
  rintro e w1 ⟨rfl, hw1⟩
  clear hl
  generalize w0.alloc (.cells #[.int .i64 a] 3) = wa at *
  subst hw1
  go_wp2_with fail
  go_ret
  exact ⟨rfl, fin.out⟩

set_option maxRecDepth 100000 in
set_option maxHeartbeats 4000000 in
theorem WX.apart (h : WX lo w wb n m rb fb cb N vz v seq (Ad n seq tt) tt w0) (hn : n ≤ 4194304) (hN : ∀ x, x < n → iN x < N) (a : Nat) (ha : a < n) (h2l : 2 ≤ (seq (a + 1)).length) :
    Calls Tryz.prog 22 #[.pointer (some ⟨wb, 0, none⟩), .int .i64 (a : Int)] w0 fun e w' => ∃ d : Nat, (rot (seq (a + 1)) (a + 1))[1]? = some (d + 1) ∧ d < n ∧ a ≠ d ∧ d + 1 ∈ seq (a + 1) ∧ e = .returned .nilIface ∧ WX lo w wb n m rb fb cb N vz v (splS seq (a + 1) (d + 1)) (Ad n (splS seq (a + 1) (d + 1)) tt) tt w' ∧ KeepW w0 w' := by
  have p := h.part
  have hX : a + 1 ≠ 0 := by omega
  have hl := hid (h.wm.look1 a ha)
  have h1 := (h.alloc (.cells #[.int .i64 (a : Int)] 3))
  have k1 := hid (((KeepW.refl w0).alloc (.cells #[.int .i64 (a : Int)] 3)))
  have hN := hid hN
  have p := hid p
  have h2l := hid h2l
  clear h
  go_enter Tryz.func22, Tryz.ntmps22
  go_wp2_with fail
  refine hl.out.mono ?_
  rintro e w1 ⟨rfl, hw1⟩
  clear hl
  generalize w0.alloc (.cells #[.int .i64 (a : Int)] 3) = wa at *
  subst hw1
  have hnx := hid (h1.rg.next a ha)
  obtain ⟨c0, c1, c2, c3⟩ := h1.wm.cells
  have h1 := hid h1
  go_wp2_with fail
  refine hnx.out.mono ?_
  rintro e w2 ⟨d, hd, rfl, g2, k2⟩
  have h2 := h1.out.ring g2 k2
  have K2 := hid (k1.out.trans (KeepW.ofKeep k2))
  rw [Nat.mod_eq_of_lt (show 1 < (seq (a + 1)).length by have := h2l.out; omega)] at hd
  have hdin : d + 1 ∈ seq (a + 1) := rot_mem.1 (List.mem_of_getElem? hd)
  have hdn : d < n := by have := p.out.le _ _ hX (by omega) hdin; omega
  have had : a ≠ d := fun q => by
    subst q
    obtain ⟨T, hT⟩ := rot_head (p.out.self (a + 1) hX)
    have h0 : (rot (seq (a + 1)) (a + 1))[0]? = some (a + 1) := by rw [hT]; rfl
    have := nb_at (rot_nd (p.out.nd _ hX)) h0 hd
    omega
  have hs := hid (h2.split hn hN.out a d ha hdn had hdin)
  have hfact := hid (And.intro hd (And.intro hdn (And.intro had hdin)))
  clear hnx g2 k2 h1 k1 hd hdin had c0 c1 c2 c3 p h2l hN h2
  go_wp2_with fail
  refine hs.out.mono ?_
  rintro e w3 ⟨rfl, h3, K3, _⟩
  have fin := hid (And.intro h3 (K2.out.trans K3))
  clear hs h3 K3
  go_wp2_with fail
  go_ret
  exact ⟨d, hfact.out.1, hfact.out.2.1, hfact.out.2.2.1, hfact.out.2.2.2, rfl, fin.out⟩

set_option maxRecDepth 100000 in
set_option maxHeartbeats 4000000 in
theorem WX.apart_alone (h : WX lo w wb n m rb fb cb N vz v seq (Ad n seq tt) tt w0) (hn : n ≤ 4194304) (hN : ∀ x, x < n → iN x < N) (a : Nat) (ha : a < n) (h1l : (seq (a + 1)).length = 1) :
    Calls Tryz.prog 22 #[.pointer (some ⟨wb, 0, none⟩), .int .i64 (a : Int)] w0 fun e w' => e = .returned (.iface 63 (.int .i64 20)) ∧ WX lo w wb n m rb fb cb N vz v (turnS seq (a + 1)) (Ad n (turnS seq (a + 1)) tt) tt w' ∧ KeepW w0 w' := by
  have p := h.part
  have hX : a + 1 ≠ 0 := by omega
  have hl := hid (h.wm.look1 a ha)
  have h1 := (h.alloc (.cells #[.int .i64 (a : Int)] 3))
  have k1 := hid (((KeepW.refl w0).alloc (.cells #[.int .i64 (a : Int)] 3)))
  have hN := hid hN
  have p := hid p
  have h1l := hid h1l
  clear h
  go_enter Tryz.func22, Tryz.ntmps22
  go_wp2_with fail
  refine hl.out.mono ?_
  rintro e w1 ⟨rfl, hw1⟩
  clear hl
  generalize w0.alloc (.cells #[.int .i64 (a : Int)] 3) = wa at *
  subst hw1
  have hnx := hid (h1.rg.next a ha)
  obtain ⟨c0, c1, c2, c3⟩ := h1.wm.cells
  have h1 := hid h1
  go_wp2_with fail
  refine hnx.out.mono ?_
  rintro e w2 ⟨d, hd, rfl, g2, k2⟩
  have h2 := h1.out.ring g2 k2
  have K2 := hid (k1.out.trans (KeepW.ofKeep k2))
  rw [h1l.out] at hd
  have had : a = d := by
    obtain ⟨T, hT⟩ := rot_head (p.out.self (a + 1) hX)
    rw [hT] at hd
    simp at hd
    omega
  have hs := hid (h2.splitN hn hN.out a d ha (by omega) 20 (.inl ⟨had, rfl⟩))
  clear hnx g2 k2 h1 k1 hd had c0 c1 c2 c3 p h1l hN h2
  go_wp2_with fail
  refine hs.out.mono ?_
  rintro e w3 ⟨rfl, h3, K3⟩
  have fin := hid (And.intro h3 (K2.out.trans K3))
  clear hs h3 K3
  go_wp2_with fail
  go_ret
  exact ⟨rfl, fin.out⟩

set_option maxRecDepth 100000 in
set_option maxHeartbeats 4000000 in
theorem WX.merge_same (h : WX lo w wb n m rb fb cb N vz v seq adj tt w0) (hn : n ≤ 4194304) (hN : ∀ x, x < n → iN x < N) (a b : Nat) (ha : a < n) (hb : b < n) (hc : Cn adj (iN a + 1) (iN b + 1)) :
    Calls Tryz.prog 21 #[.pointer (some ⟨wb, 0, none⟩), .int .i64 (a : Int), .int .i64 (b : Int)] w0 fun e w' => e = .returned (.iface 63 (.int .i64 20)) ∧ WX lo w wb n m rb fb cb N vz v seq adj tt w' ∧ KeepW w0 w' := by
  have hl := hid (h.ready_same hn hN a b ha hb hc)
  clear h hc hN
  go_enter Tryz.func21, Tryz.ntmps21
  go_wp2_with fail
  refine hl.out.mono ?_
  rintro e w1 ⟨rfl, h1, K1⟩
  have st1 := hid (And.intro h1 K1)
  clear hl h1 K1
  go_wp2_with fail
  go_ret
  exact ⟨rfl, st1.out⟩

set_option maxRecDepth 100000 in
set_option maxHeartbeats 4000000 in
theorem WX.merge_bad (h : WX lo w wb n m rb fb cb N vz v seq adj tt w0) (a b : Int) (hx : ¬ ((0 ≤ a ∧ a < (n : Int)) ∧ (0 ≤ b ∧ b < (n : Int)))) :
    Calls Tryz.prog 21 #[.pointer (some ⟨wb, 0, none⟩), .int .i64 a, .int .i64 b] w0 fun e w' => e = .returned (.iface 63 (.int .i64 12)) ∧ WX lo w wb n m rb fb cb N vz v seq adj tt w' ∧ KeepW w0 w' := by
  have hl := hid (h.ready_bad a b hx)
  clear h hx
  go_enter Tryz.func21, Tryz.ntmps21
  go_wp2_with fail
  refine hl.out.mono ?_
  rintro e w1 ⟨rfl, h1, K1⟩
  have st1 := hid (And.intro h1 K1)
  clear hl h1 K1
  go_wp2_with fail
  go_ret
  exact ⟨rfl, st1.out⟩
end
end Go.Proofs.YtdmkbcbgjdmgdaaGreatDoor

namespace Go.Proofs.YtdmkbcbgjdmgdaaGreatDoor
open Go.RowKit
set_option linter.unusedVariables false

section
variable {lo wb n m rb fb cb N : Nat} {w w0 w' : World} {vz vz' v v' : Nat → Int} {seq seq' : Nat → List Nat} {adj adj' : Nat → Nat → Prop} {tt tt' : Nat → Option (Nat × Nat)} {ky : Nat → Int}

/-- So many of both turned. -/
def turnsS (k : Nat) (seq : Nat → List Nat) (x y : Nat) : Nat → List Nat := if k = 0 then seq else if k = 1 then turnS seq x else turnS (turnS seq x) y

set_option maxRecDepth 100000 in
set_option maxHeartbeats 4000000 in
theorem WX.merge (h : WX lo w wb n m rb fb cb N vz v seq (Ad n seq tt) tt w0) (hn : n ≤ 4194304) (hN : ∀ x, x < n → iN x < N) (a b : Nat) (ha : a < n) (hb : b < n) (hno : ¬ Cn (Ad n seq tt) (iN a + 1) (iN b + 1)) :
    Calls Tryz.prog 21 #[.pointer (some ⟨wb, 0, none⟩), .int .i64 (a : Int), .int .i64 (b : Int)] w0 fun e w' => e = .returned .nilIface ∧ WX lo w wb n m rb fb cb N vz (max2 v a b) (mrgS seq (a + 1) (b + 1)) (Ad n (mrgS seq (a + 1) (b + 1)) tt) tt w' ∧ KeepW w0 w' := by
  have p := h.part
  have hX : a + 1 ≠ 0 := by omega
  have hY : b + 1 ≠ 0 := by omega
  have hout : b + 1 ∉ seq (a + 1) := fun q => hno (face_cn p ha q)
  have e3 := merge_turn p hX hY
  have p1 := part_turn p hX
  have p2 := part_turn p1 hY
  have q1 := rq_turn p hX
  have q2 := (rq_turn p1 hY).trans q1
  have hno2 : ¬ Cn (Ad n (turnS (turnS seq (a + 1)) (b + 1)) tt) (iN a + 1) (iN b + 1) := fun q => hno ((turn_cn p hX).1 ((turn_cn p1 hY).1 q))
  have hout2 : b + 1 ∉ turnS (turnS seq (a + 1)) (b + 1) (a + 1) := fun q => hout ((q2.mem hX).1 q)
  have ea : ∃ P, turnS (turnS seq (a + 1)) (b + 1) (a + 1) = (a + 1) :: P := by
    have : a + 1 ∉ turnS seq (a + 1) (b + 1) := fun q => hout (by
      have := (q1.mem hY).1 q
      rw [(p.mem _ _ hY this).1]; exact p.self _ hY)
    rw [turnS_out this, turnS_self p hX]
    obtain ⟨T, hT⟩ := rot_head (p.self (a + 1) hX)
    exact ⟨T, hT⟩
  have eb : ∃ Q, turnS (turnS seq (a + 1)) (b + 1) (b + 1) = (b + 1) :: Q := by
    rw [turnS_self p1 hY]
    obtain ⟨T, hT⟩ := rot_head (p1.self (b + 1) hY)
    exact ⟨T, hT⟩
  have hr := hid (h.ready hn hN a b ha hb hno)
  have e3 := hid e3
  have hno2 := hid hno2
  have hout2 := hid hout2
  have ea := hid ea
  have eb := hid eb
  have p2 := hid p2
  have hN := hid hN
  clear h p hout p1 q1 q2 hno
  go_enter Tryz.func21, Tryz.ntmps21
  go_wp2_with fail
  refine hr.out.mono ?_
  rintro e w1 ⟨rfl, h1, K1⟩
  have st1 : Hid (WX lo w wb n m rb fb cb N vz (max2 v a b) seq (Ad n seq tt) tt w1 ∧ KeepW w0 w1) := hid ⟨h1, K1⟩
  clear hr h1 K1
  go_wp2_with fail
  go_loopw [9, 10, 24] (fun _ _ u wr => ∃ k : Nat, k ≤ 2 ∧ u = .int .i64 (k : Int) ∧ Hid ((k = 0 → WX lo w wb n m rb fb cb N vz (max2 v a b) seq (Ad n seq tt) tt wr) ∧ (k = 1 → WX lo w wb n m rb fb cb N vz (max2 v a b) (turnS seq (a + 1)) (Ad n (turnS seq (a + 1)) tt) tt wr) ∧ (k = 2 → WX lo w wb n m rb fb cb N vz (max2 v a b) (turnS (turnS seq (a + 1)) (b + 1)) (Ad n (turnS (turnS seq (a + 1)) (b + 1)) tt) tt wr) ∧ KeepW w0 wr)) (fun _ _ u _ => 2 - (intOf u).toNat)
  case atStart => exact ⟨0, by omega, by go_num, hid ⟨fun _ => st1.out.1, fun q => by omega, fun q => by omega, st1.out.2⟩⟩
  case round =>
    clear st1
    obtain ⟨k, hk, rfl, hst⟩ := hrel
    have hkc : k = 0 ∨ k = 1 ∨ k = 2 := by omega
    rcases hkc with rfl | rfl | rfl
    · have hi0 := (pair_at (a : Int) (b : Int) wr).1
      have ht := hid ((hst.out.1 rfl).turn hn hN.out a ha)
      have K3 := hid hst.out.2.2.2
      clear hst e3 hno2 hout2 ea eb p2
      go_wp2_with fail
      refine ht.out.mono ?_
      rintro e w4 ⟨rfl, h4, k4⟩
      have h4 := hid (And.intro h4 (K3.out.trans k4))
      clear ht k4 K3
      go_wp2_with fail
      go_roundw
      case rel => exact ⟨1, by omega, by go_num, hid ⟨fun q => by omega, fun _ => h4.out.1, fun q => by omega, h4.out.2⟩⟩
      case measure => simp [intOf]
    · have hi0 := (pair_at (a : Int) (b : Int) wr).2
      have ht := hid ((hst.out.2.1 rfl).turn hn hN.out b hb)
      have K3 := hid hst.out.2.2.2
      clear hst e3 hno2 hout2 ea eb p2
      go_wp2_with fail
      refine ht.out.mono ?_
      rintro e w4 ⟨rfl, h4, k4⟩
      have h4 := hid (And.intro h4 (K3.out.trans k4))
      clear ht k4 K3
      go_wp2_with fail
      go_roundw
      case rel => exact ⟨2, by omega, by go_num, hid ⟨fun q => by omega, fun q => by omega, fun _ => h4.out.1, h4.out.2⟩⟩
      case measure => simp [intOf]
    · have h3 := hst.out.2.2.1 rfl
      have K3 := hid hst.out.2.2.2
      have hp := hid (h3.rg.prev a ha)
      obtain ⟨c0, c1, c2, c3⟩ := h3.wm.cells
      have h3 := hid h3
      clear hst
      go_wp2_with fail
      refine hp.out.mono ?_
      rintro e w4 ⟨l, hll, rfl, g4, k4⟩
      have h4 := h3.out.ring g4 k4
      have K4 := hid (K3.out.trans (KeepW.ofKeep k4))
      obtain ⟨P, ea⟩ := ea.out
      obtain ⟨Q, eb⟩ := eb.out
      obtain ⟨b1, l2, l3⟩ := merge_links (tt := tt) p2.out ha hb ea eb hll hno2.out
      rw [e3.out] at l2
      have hm := hid (h4.rg.merge a b ha hb hout2.out)
      clear c0 c1 c2 c3
      obtain ⟨c0, c1, c2, c3⟩ := h4.wm.cells
      have h4 := hid h4
      have l2 := hid l2
      have l3 := hid l3
      clear hp g4 k4 h3 K3 hll ea eb p2 hno2 hout2
      go_wp2_with fail
      refine hm.out.mono ?_
      rintro e w5 ⟨rfl, g5, k5⟩
      rw [e3.out] at g5
      have h5 := h4.out.ring g5 k5
      have K5 := hid (K4.out.trans (KeepW.ofKeep k5))
      have hlink := hid (h5.drew.ct.link _ _ (hN.out l b1) (hN.out b hb) (Cn.no l3.out))
      clear c0 c1 c2 c3
      obtain ⟨c0, c1, c2, c3⟩ := h5.wm.cells
      have h5 := hid h5
      clear hm g5 k5 h4 K4 e3
      go_wp2_with fail
      go_region_held3 (fun w' => w'.cell? ⟨wb, 3, none⟩ = some (.pointer (some ⟨cb, 0, none⟩))) (first | assumption | exact c3 | go_keep) (first
        | (go_at_call 29; refine (inode_ok _ (by omega) _).mono ?_; rintro e w6 ⟨rfl, rfl⟩)
        | (go_at_call 56; refine hlink.out.mono ?_; rintro e w6 ⟨rfl, g6, k6⟩; rw [l2.out] at g6; have h6 := hid (h5.out.drew.trees g6 k6); have K6 := hid (K5.out.drew.trans (.ofCt k6)); have c3' := h6.out.wm.cells.2.2.2; clear g6 k6))
      all_goals
        go_wp2_with fail
        go_ret
        exact ⟨rfl, h6.out, K6.out⟩
end
end Go.Proofs.YtdmkbcbgjdmgdaaGreatDoor
