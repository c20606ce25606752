/- 'Tie', 'Untie' of a Web, walked. 'New' of a Web, walked; calls of a nil Web. The road of ties between two faces, and the least one on it: plain facts, of no program. What a Web's numbers are like behind each act: plain facts, of no program. A Web as the laws see it: its cycles, its ties. -/
import Derived.Test.YtdmkbcbgjdmgdaaGreatDoorBpure
import Derived.Test.YtdmkbcbgjdmgdaaGreatDoorBctc
import Derived.Test.YtdmkbcbgjdmgdaaGreatDoorBwt
namespace Go.Proofs.YtdmkbcbgjdmgdaaGreatDoor
open Go.RowKit
set_option linter.unusedVariables false

theorem iso_cn {adj : Nat → Nat → Prop} {t a : Nat} (ht : ∀ q, ¬ adj t q) (hta : t ≠ a) : ¬ Cn adj t a := fun ⟨l, h⟩ => by
  cases h with
  | one _ _ => exact hta rfl
  | step _ c _ m _ e _ => exact ht c e

section
variable {lo wb n m rb fb cb N : Nat} {w w0 w' : World} {vz vz' v v' : Nat → Int} {seq seq' : Nat → List Nat} {adj adj' : Nat → Nat → Prop} {tt tt' : Nat → Option (Nat × Nat)} {ky : Nat → Int}

set_option maxRecDepth 100000 in
set_option maxHeartbeats 4000000 in
theorem WX.tie_bad1 (h : WX lo w wb n m rb fb cb N vz v seq adj tt w0) (e a b key : Int) (hx : ¬ (0 ≤ e ∧ e < (m : Int))) :
    Calls Tryz.prog 23 #[.pointer (some ⟨wb, 0, none⟩), .int .i64 e, .int .i64 a, .int .i64 b, .int .i64 key] w0 fun x w' => x = .returned (.iface 63 (.int .i64 12)) ∧ WX lo w wb n m rb fb cb N vz v seq adj tt w' ∧ KeepW w0 w' := by
  have hl := hid (h.wm.between_bad e hx)
  have h := hid h
  clear hx
  go_enter Tryz.func23, Tryz.ntmps23
  go_wp2_with fail
  refine hl.out.mono ?_
  rintro x w1 ⟨rfl, b1⟩
  have b1 := hid b1
  clear hl
  go_wp2_with fail
  go_ret
  have b2 := b1.out.alloc b1.out.size (.cells #[.int .i64 0, .int .i64 0] 84)
  exact ⟨rfl, h.out.more b2, KeepW.ofBelow b2⟩

/-- What is there behind 'between', and the variable for it. -/
theorem var2 {w0 w1 : World} {a b : Value} (b1 : Below w0.heap.size w0 w1) : (w1.alloc (.cells #[a, b] 84)).heap[w1.heap.size]? = some (.cells #[a, b] 84 (0, 0)) ∧ Below w0.heap.size w0 (w1.alloc (.cells #[a, b] 84)) ∧ w0.heap.size ≤ w1.heap.size :=
  ⟨heap_alloc_new w1 _, b1.alloc b1.size _, b1.size⟩

set_option maxRecDepth 100000 in
set_option maxHeartbeats 4000000 in
theorem WX.tie_bad2 (h : WX lo w wb n m rb fb cb N vz v seq adj tt w0) (hm : m ≤ 1048576) (e : Nat) (he : e < m) (a b key : Int) (hx : ¬ ((0 ≤ a ∧ a < (n : Int)) ∧ (0 ≤ b ∧ b < (n : Int)))) :
    Calls Tryz.prog 23 #[.pointer (some ⟨wb, 0, none⟩), .int .i64 (e : Int), .int .i64 a, .int .i64 b, .int .i64 key] w0 fun x w' => x = .returned (.iface 63 (.int .i64 12)) ∧ WX lo w wb n m rb fb cb N vz v seq adj tt w' ∧ KeepW w0 w' := by
  have hl := hid (h.wm.between hm e he)
  have h := hid h
  have hx := hid hx
  go_enter Tryz.func23, Tryz.ntmps23
  go_wp2_with fail
  refine hl.out.mono ?_
  rintro x w1 ⟨p, q, rfl, hpq, b1⟩
  obtain ⟨k2, b2, _⟩ := var2 (a := .int .i64 p) (b := .int .i64 q) b1
  obtain ⟨w2, hw2⟩ : ∃ w2, w1.alloc (.cells #[.int .i64 p, .int .i64 q] 84) = w2 := ⟨_, rfl⟩
  rw [hw2] at k2 b2
  replace hw2 := hid hw2
  have h2 := h.out.more b2
  have K2 := hid (KeepW.ofBelow b2)
  have hlk := hid (h2.wm.bad2 a b hx.out)
  have fin := hid (And.intro (h2.alloc (.cells #[.int .i64 a, .int .i64 b] 3)) (K2.out.alloc (.cells #[.int .i64 a, .int .i64 b] 3)))
  clear hl hpq b1 k2 b2 h h2 hx
  go_upto_region 2 with fail
  rw [hw2.out]
  clear hw2
  go_wp2_with fail
  refine hlk.out.mono ?_
  rintro x w3 ⟨rfl, hw3⟩
  clear hlk
  generalize w2.alloc (.cells #[.int .i64 a, .int .i64 b] 3) = wa at *
  subst hw3
  go_wp2_with fail
  go_ret
  exact ⟨rfl, fin.out⟩

set_option maxRecDepth 100000 in
set_option maxHeartbeats 4000000 in
theorem WX.tie_key (h : WX lo w wb n m rb fb cb N vz v seq adj tt w0) (hm : m ≤ 1048576) (e : Nat) (he : e < m) (a b : Nat) (ha : a < n) (hb : b < n) :
    Calls Tryz.prog 23 #[.pointer (some ⟨wb, 0, none⟩), .int .i64 (e : Int), .int .i64 (a : Int), .int .i64 (b : Int), .int .i64 9223372036854775807] w0 fun x w' => x = .returned (.iface 63 (.int .i64 1)) ∧ WX lo w wb n m rb fb cb N vz v seq adj tt w' ∧ KeepW w0 w' := by
  have hl := hid (h.wm.between hm e he)
  have h := hid h
  go_enter Tryz.func23, Tryz.ntmps23
  go_wp2_with fail
  refine hl.out.mono ?_
  rintro x w1 ⟨p, q, rfl, hpq, b1⟩
  obtain ⟨k2, b2, _⟩ := var2 (a := .int .i64 p) (b := .int .i64 q) b1
  obtain ⟨w2, hw2⟩ : ∃ w2, w1.alloc (.cells #[.int .i64 p, .int .i64 q] 84) = w2 := ⟨_, rfl⟩
  rw [hw2] at k2 b2
  replace hw2 := hid hw2
  have h2 := h.out.more b2
  have K2 := hid (KeepW.ofBelow b2)
  have hlk := hid (h2.wm.look2 a b ha hb)
  have fin := hid (And.intro (h2.alloc (.cells #[.int .i64 (a : Int), .int .i64 (b : Int)] 3)) (K2.out.alloc (.cells #[.int .i64 (a : Int), .int .i64 (b : Int)] 3)))
  clear hl hpq b1 k2 b2 h h2
  go_upto_region 2 with fail
  rw [hw2.out]
  clear hw2
  go_wp2_with fail
  refine hlk.out.mono ?_
  rintro x w3 ⟨rfl, hw3⟩
  clear hlk
  generalize w2.alloc (.cells #[.int .i64 (a : Int), .int .i64 (b : Int)] 3) = wa at *
  subst hw3
  go_wp2_with fail
  go_ret
  exact ⟨rfl, fin.out⟩

/-- What 'was == loose()' asks, over worlds that hold the variable. -/
theorem was_loose {w2 : World} {B : Nat} {p q : Int} (k2 : w2.heap[B]? = some (.cells #[.int .i64 p, .int .i64 q] 84 (0, 0))) : ∀ y, Below w2.heap.size w2 y → Calls Tryz.prog 42 #[] y fun e w' => e = .returned (.agg #[.int .i64 0, .int .i64 0]) ∧ (w'.cell? ⟨B, 0, none⟩ = some (.int .i64 p) ∧ w'.cell? ⟨B, 1, none⟩ = some (.int .i64 q)) ∧ Below w2.heap.size w2 w' := fun y hy => by
  refine (loose_ok y).mono ?_
  rintro e w' ⟨rfl, hb⟩
  have hb2 := hy.trans (hb.mono hy.size)
  exact ⟨rfl, (blk2 ((hb2.block _ (Array.getElem?_eq_some_iff.1 k2).1).trans k2)).1, hb2⟩

theorem ec_some {tt : Nat → Option (Nat × Nat)} {e x y : Nat} {p q : Int} (hc : tt e = some (x, y)) (hpq : ec (tt e) = [.int .i64 p, .int .i64 q]) : p = (x : Int) ∧ q = (y : Int) := by
  rw [hc] at hpq
  have : [Value.int .i64 (x : Int), Value.int .i64 (y : Int)] = [.int .i64 p, .int .i64 q] := hpq
  injection this with e1 e2
  injection e2 with e2 _
  injection e1 with _ e1
  injection e2 with _ e2
  exact ⟨e1.symm, e2.symm⟩

theorem ec_none {tt : Nat → Option (Nat × Nat)} {e : Nat} {p q : Int} (hc : tt e = none) (hpq : ec (tt e) = [.int .i64 p, .int .i64 q]) : p = 0 ∧ q = 0 := by
  rw [hc] at hpq
  have : [Value.int .i64 0, Value.int .i64 0] = [.int .i64 p, .int .i64 q] := hpq
  injection this with e1 e2
  injection e2 with e2 _
  injection e1 with _ e1
  injection e2 with _ e2
  exact ⟨e1.symm, e2.symm⟩

theorem ends_loose {x y : Nat} (h : x ≠ y) (w : World) : (Op.equalIn 10000 84 (.agg #[.int .i64 (x : Int), .int .i64 (y : Int)]) (.agg #[.int .i64 0, .int .i64 0])).run Tryz.prog w = .ok false w := by
  rw [ends_eq]
  have : ((x : Int) == 0 && (y : Int) == 0) = false := by
    rw [Bool.and_eq_false_iff, beq_eq_false_iff_ne, beq_eq_false_iff_ne]
    omega
  rw [this]

set_option maxRecDepth 100000 in
set_option maxHeartbeats 4000000 in
theorem WX.tie_tied (h : WX lo w wb n m rb fb cb N vz v seq adj tt w0) (hm : m ≤ 1048576) (e : Nat) (he : e < m) (a b : Nat) (ha : a < n) (hb : b < n) (key : Int) (hkey : key ≠ 9223372036854775807) (x y : Nat) (hc : tt e = some (x, y)) (hxy : x ≠ y) :
    Calls Tryz.prog 23 #[.pointer (some ⟨wb, 0, none⟩), .int .i64 (e : Int), .int .i64 (a : Int), .int .i64 (b : Int), .int .i64 key] w0 fun x w' => x = .returned (.iface 63 (.int .i64 20)) ∧ WX lo w wb n m rb fb cb N vz v seq adj tt w' ∧ KeepW w0 w' := by
  have hl := hid (h.wm.between hm e he)
  have h := hid h
  have hc := hid hc
  have t1 : (key == 9223372036854775807) = false := by rw [beq_eq_false_iff_ne]; exact hkey
  clear hkey
  go_enter Tryz.func23, Tryz.ntmps23
  go_wp2_with fail
  refine hl.out.mono ?_
  rintro x w1 ⟨p, q, rfl, hpq, b1⟩
  obtain ⟨rfl, rfl⟩ := ec_some hc.out hpq
  obtain ⟨k2, b2, s1⟩ := var2 (a := .int .i64 (x : Int)) (b := .int .i64 (y : Int)) b1
  obtain ⟨w2, hw2⟩ : ∃ w2, w1.alloc (.cells #[.int .i64 (x : Int), .int .i64 (y : Int)] 84) = w2 := ⟨_, rfl⟩
  rw [hw2] at k2 b2
  replace hw2 := hid hw2
  have h2 := h.out.more b2
  have K2 := hid (KeepW.ofBelow b2)
  have hlk := hid (h2.wm.look2 a b ha hb)
  have h3 := h2.alloc (.cells #[.int .i64 (a : Int), .int .i64 (b : Int)] 3)
  have b3 := (Below.refl w2.heap.size w2).alloc (Nat.le_refl _) (.cells #[.int .i64 (a : Int), .int .i64 (b : Int)] 3)
  have k3 := (b3.block _ (Array.getElem?_eq_some_iff.1 k2).1).trans k2
  have K3 := hid (K2.out.alloc (.cells #[.int .i64 (a : Int), .int .i64 (b : Int)] 3))
  obtain ⟨B, hB⟩ : ∃ B, w1.heap.size = B := ⟨_, rfl⟩
  rw [hB] at k3
  replace k3 := hid k3
  replace h3 := hid h3
  replace hB := hid hB
  clear hl hpq b1 k2 b2 h h2 b3 hc
  go_upto_region 2 with fail
  rw [hw2.out, hB.out]
  clear hw2
  go_wp2_with fail
  refine hlk.out.mono ?_
  rintro x w3 ⟨rfl, hw3⟩
  clear hlk
  generalize w2.alloc (.cells #[.int .i64 (a : Int), .int .i64 (b : Int)] 3) = wa at *
  subst hw3
  have heq := fun w => ends_loose hxy w
  have hloose := hid (was_loose k3.out)
  obtain ⟨⟨f1, f2⟩, _⟩ := blk2 k3.out
  have hd : Hid (Below wa.heap.size wa wa.drew) := hid (Below.refl _ _).drew
  go_wp2_with fail
  go_region_held3 (fun w' => w'.cell? ⟨B, 0, none⟩ = some (.int .i64 (x : Int)) ∧ w'.cell? ⟨B, 1, none⟩ = some (.int .i64 (y : Int))) (first | assumption | exact ⟨f1, f2⟩ | go_keep) (
    (go_at_call 42; refine (hloose.out _ hd.out).mono ?_; rintro e w4 ⟨rfl, f4, b4⟩; have b4 := hid b4))
  all_goals
    go_wp2_with fail
    go_ret
    exact ⟨rfl, h3.out.more b4.out, K3.out.trans (KeepW.ofBelow b4.out)⟩
set_option maxRecDepth 100000 in
set_option maxHeartbeats 4000000 in
theorem WX.tie_same (h : WX lo w wb n m rb fb cb N vz v seq adj tt w0) (hn : n ≤ 4194304) (hN : ∀ x, x < n → iN x < N) (hm : m ≤ 1048576) (e : Nat) (he : e < m) (a b : Nat) (ha : a < n) (hb : b < n) (key : Int) (hkey : key ≠ 9223372036854775807) (hc : tt e = none) (hl1 : Cn adj (iN a + 1) (iN b + 1)) :
    Calls Tryz.prog 23 #[.pointer (some ⟨wb, 0, none⟩), .int .i64 (e : Int), .int .i64 (a : Int), .int .i64 (b : Int), .int .i64 key] w0 fun x w' => x = .returned (.iface 63 (.int .i64 20)) ∧ WX lo w wb n m rb fb cb N vz v seq adj tt w' ∧ KeepW w0 w' := by
  have hN := hid hN
  have hl1 := hid hl1
  have hl := hid (h.wm.between hm e he)
  have h := hid h
  have hc := hid hc
  have t1 : (key == 9223372036854775807) = false := by rw [beq_eq_false_iff_ne]; exact hkey
  clear hkey
  go_enter Tryz.func23, Tryz.ntmps23
  go_wp2_with fail
  refine hl.out.mono ?_
  rintro x w1 ⟨p, q, rfl, hpq, b1⟩
  obtain ⟨rfl, rfl⟩ := ec_none hc.out hpq
  obtain ⟨k2, b2, s1⟩ := var2 (a := .int .i64 0) (b := .int .i64 0) b1
  obtain ⟨w2, hw2⟩ : ∃ w2, w1.alloc (.cells #[.int .i64 0, .int .i64 0] 84) = w2 := ⟨_, rfl⟩
  rw [hw2] at k2 b2
  replace hw2 := hid hw2
  have h2 := h.out.more b2
  have K2 := hid (KeepW.ofBelow b2)
  have hlk := hid (h2.wm.look2 a b ha hb)
  have h3 := h2.alloc (.cells #[.int .i64 (a : Int), .int .i64 (b : Int)] 3)
  have b3 := (Below.refl w2.heap.size w2).alloc (Nat.le_refl _) (.cells #[.int .i64 (a : Int), .int .i64 (b : Int)] 3)
  have k3 := (b3.block _ (Array.getElem?_eq_some_iff.1 k2).1).trans k2
  have K3 := hid (K2.out.alloc (.cells #[.int .i64 (a : Int), .int .i64 (b : Int)] 3))
  obtain ⟨B, hB⟩ : ∃ B, w1.heap.size = B := ⟨_, rfl⟩
  rw [hB] at k3
  replace k3 := hid k3
  replace h3 := hid h3
  replace hB := hid hB
  clear hl hpq b1 k2 b2 h h2 b3
  go_upto_region 2 with fail
  rw [hw2.out, hB.out]
  clear hw2
  go_wp2_with fail
  refine hlk.out.mono ?_
  rintro x w3 ⟨rfl, hw3⟩
  clear hlk
  generalize w2.alloc (.cells #[.int .i64 (a : Int), .int .i64 (b : Int)] 3) = wa at *
  subst hw3
  have heq : ∀ y, (Op.equalIn 10000 84 (.agg #[.int .i64 0, .int .i64 0]) (.agg #[.int .i64 0, .int .i64 0])).run Tryz.prog y = .ok true y := fun y => ends_eq 0 0 0 0 y
  have hloose := hid (was_loose k3.out)
  obtain ⟨⟨f1, f2⟩, _⟩ := blk2 k3.out
  have hd : Hid (Below wa.heap.size wa wa.drew) := hid (Below.refl _ _).drew
  go_wp2_with fail
  go_region_held3 (fun w' => w'.cell? ⟨B, 0, none⟩ = some (.int .i64 0) ∧ w'.cell? ⟨B, 1, none⟩ = some (.int .i64 0)) (first | assumption | exact ⟨f1, f2⟩ | go_keep) (
    (go_at_call 42; refine (hloose.out _ hd.out).mono ?_; rintro e w4 ⟨rfl, f4, b4⟩; have h4 := h3.out.more b4; have K4 := hid (K3.out.trans (KeepW.ofBelow b4)); clear b4))
  all_goals
    have hr := hid (h4.ready_same hn hN.out a b ha hb hl1.out)
    clear h4 h3 f1 f2 f4 hloose k3 hd heq
    go_wp2_with fail
    refine hr.out.mono ?_
    rintro x w5 ⟨rfl, h5, K5⟩
    have fin := hid (And.intro h5 (K4.out.trans K5))
    clear hr h5 K5
    go_wp2_with fail
    go_ret
    exact ⟨rfl, fin.out⟩

/-- The values behind a tie. -/
def tieV (v : Nat → Int) (e a b : Nat) (key : Int) : Nat → Int := Ct.setV (max2 v a b) (tN e + 1) key

set_option maxRecDepth 100000 in
set_option maxHeartbeats 4000000 in
theorem WX.tie (h : WX lo w wb n m rb fb cb N vz v seq (Ad n seq tt) tt w0) (hn : n ≤ 4194304) (hN : ∀ x, x < n → iN x < N) (hT : ∀ e, e < m → tN e < N) (hm : m ≤ 1048576) (e : Nat) (he : e < m) (a b : Nat) (ha : a < n) (hb : b < n) (key : Int) (hkey : key ≠ 9223372036854775807) (hc : tt e = none) (hl1 : ¬ Cn (Ad n seq tt) (iN a + 1) (iN b + 1)) :
    Calls Tryz.prog 23 #[.pointer (some ⟨wb, 0, none⟩), .int .i64 (e : Int), .int .i64 (a : Int), .int .i64 (b : Int), .int .i64 key] w0 fun x w' => x = .returned .nilIface ∧ WX lo w wb n m rb fb cb N vz (tieV v e a b key) seq (Ad n seq (updT tt e (some (a, b)))) (updT tt e (some (a, b))) w' ∧ KeepW w0 w' := by
  have hiso : Hid (∀ q, ¬ Ad n seq tt (tN e + 1) q) := hid (fun q hq => by
    obtain ⟨x, y, h1, _⟩ := adL_tie hq
    rw [hc] at h1
    cases h1)
  have hta : Hid (tN e + 1 ≠ iN a + 1 ∧ tN e + 1 ≠ iN b + 1) := hid ⟨fun q => iN_tN a e (Nat.succ.inj q).symm, fun q => iN_tN b e (Nat.succ.inj q).symm⟩
  have hN := hid hN
  have hT := hid hT
  have hl1 := hid hl1
  have hl := hid (h.wm.between hm e he)
  have h := hid h
  have hc := hid hc
  have t1 : (key == 9223372036854775807) = false := by rw [beq_eq_false_iff_ne]; exact hkey
  clear hkey
  go_enter Tryz.func23, Tryz.ntmps23
  go_wp2_with fail
  refine hl.out.mono ?_
  rintro x w1 ⟨p, q, rfl, hpq, b1⟩
  obtain ⟨rfl, rfl⟩ := ec_none hc.out hpq
  obtain ⟨k2, b2, s1⟩ := var2 (a := .int .i64 0) (b := .int .i64 0) b1
  obtain ⟨w2, hw2⟩ : ∃ w2, w1.alloc (.cells #[.int .i64 0, .int .i64 0] 84) = w2 := ⟨_, rfl⟩
  rw [hw2] at k2 b2
  replace hw2 := hid hw2
  have h2 := h.out.more b2
  have K2 := hid (KeepW.ofBelow b2)
  have hlk := hid (h2.wm.look2 a b ha hb)
  have h3 := h2.alloc (.cells #[.int .i64 (a : Int), .int .i64 (b : Int)] 3)
  have b3 := (Below.refl w2.heap.size w2).alloc (Nat.le_refl _) (.cells #[.int .i64 (a : Int), .int .i64 (b : Int)] 3)
  have k3 := (b3.block _ (Array.getElem?_eq_some_iff.1 k2).1).trans k2
  have K3 := hid (K2.out.alloc (.cells #[.int .i64 (a : Int), .int .i64 (b : Int)] 3))
  obtain ⟨B, hB⟩ : ∃ B, w1.heap.size = B := ⟨_, rfl⟩
  rw [hB] at k3
  replace k3 := hid k3
  replace h3 := hid h3
  replace hB := hid hB
  clear hl hpq b1 k2 b2 h h2 b3
  go_upto_region 2 with fail
  rw [hw2.out, hB.out]
  clear hw2
  go_wp2_with fail
  refine hlk.out.mono ?_
  rintro x w3 ⟨rfl, hw3⟩
  clear hlk
  generalize w2.alloc (.cells #[.int .i64 (a : Int), .int .i64 (b : Int)] 3) = wa at *
  subst hw3
  have heq : ∀ y, (Op.equalIn 10000 84 (.agg #[.int .i64 0, .int .i64 0]) (.agg #[.int .i64 0, .int .i64 0])).run Tryz.prog y = .ok true y := fun y => ends_eq 0 0 0 0 y
  have hloose := hid (was_loose k3.out)
  obtain ⟨⟨f1, f2⟩, _⟩ := blk2 k3.out
  have hd : Hid (Below wa.heap.size wa wa.drew) := hid (Below.refl _ _).drew
  go_wp2_with fail
  go_region_held3 (fun w' => w'.cell? ⟨B, 0, none⟩ = some (.int .i64 0) ∧ w'.cell? ⟨B, 1, none⟩ = some (.int .i64 0)) (first | assumption | exact ⟨f1, f2⟩ | go_keep) (
    (go_at_call 42; refine (hloose.out _ hd.out).mono ?_; rintro e w4 ⟨rfl, f4, b4⟩; have h4 := h3.out.more b4; have K4 := hid (K3.out.trans (KeepW.ofBelow b4)); clear b4))
  all_goals
    have hr := hid (h4.ready hn hN.out a b ha hb hl1.out)
    clear h4 h3 f1 f2 f4 hloose k3 hd heq
    go_wp2_with fail
    refine hr.out.mono ?_
    rintro x w5 ⟨rfl, h5, K5⟩
    have hset := hid (h5.drew.ct.set _ (hT.out e he) key)
    obtain ⟨c0, c1, c2, c3⟩ := h5.wm.cells
    replace h5 := hid h5
    replace K5 := hid (K4.out.trans K5)
    clear hr K4
    go_wp2_with fail
    go_region_held3 (fun w' => w'.cell? ⟨wb, 3, none⟩ = some (.pointer (some ⟨cb, 0, none⟩))) (first | assumption | exact c3 | go_keep) (first
      | (go_at_call 30; refine (tnode_ok _ (by omega) _).mono ?_; rintro x w6 ⟨rfl, rfl⟩)
      | (go_at_call 58; refine hset.out.mono ?_; rintro x w6 ⟨rfl, g6, k6⟩; have h6 := hid (h5.out.drew.trees g6 k6); have K6 := hid (K5.out.drew.trans (.ofCt k6)); have c3' := h6.out.wm.cells.2.2.2; clear g6 k6))
    all_goals
      clear hset h5 K5 c0 c1 c2 c3 c3'
      have hk := hid (h6.out.wm.keep_ok (Below.refl _ _) h6.out.los hm e he (some (a, b)) (a : Int) (b : Int) rfl)
      go_wp2_with fail
      refine hk.out.mono ?_
      rintro x w7 ⟨rfl, g7, k7, b7, _⟩
      have h7 := h6.out.own g7 k7 b7
      have K7 := hid (K6.out.trans (KeepW.ofO k7))
      have e1 := hid (ad_tie (L := Nx n seq) (a := a) (b := b) hc.out)
      have hea := hid (each_link (ad0 := Ad n seq tt) wb e a b h7.ct (by omega) (by omega) (by omega)
        (fun y hy => hy.link _ _ (hT.out e he) (hN.out a ha) (Cn.no (iso_cn hiso.out hta.out.1)))
        (fun y hy => hy.link _ _ (hT.out e he) (hN.out b hb) (Cn.no (add_apart (fun u v h => h.symm) hiso.out hta.out.1 hta.out.2 hl1.out))))
      obtain ⟨c0, c1, c2, c3⟩ := h7.wm.cells
      replace h7 := hid h7
      clear hk h6 K6 g7 k7 b7 hiso hta hl1
      go_wp2_with fail
      refine hea.out.mono ?_
      rintro x w8 ⟨rfl, g8, k8⟩
      have e2 : addE (addE (Ad n seq tt) (tN e + 1) (iN a + 1)) (tN e + 1) (iN b + 1) = Ad n seq (updT tt e (some (a, b))) := e1.out
      rw [e2] at g8
      have fin := hid (And.intro (h7.out.trees g8 k8) (K7.out.trans (KeepW.ofCt k8)))
      clear hea g8 k8 h7 K7 e2
      go_wp2_with fail
      go_ret
      exact ⟨rfl, fin.out⟩

set_option maxRecDepth 100000 in
set_option maxHeartbeats 4000000 in
theorem WX.untie_bad (h : WX lo w wb n m rb fb cb N vz v seq adj tt w0) (e : Int) (hx : ¬ (0 ≤ e ∧ e < (m : Int))) :
    Calls Tryz.prog 24 #[.pointer (some ⟨wb, 0, none⟩), .int .i64 e] w0 fun x w' => x = .returned (.iface 63 (.int .i64 12)) ∧ WX lo w wb n m rb fb cb N vz v seq adj tt w' ∧ KeepW w0 w' := by
  have hl := hid (h.wm.between_bad e hx)
  have h := hid h
  clear hx
  go_enter Tryz.func24, Tryz.ntmps24
  go_wp2_with fail
  refine hl.out.mono ?_
  rintro x w1 ⟨rfl, b1⟩
  have b1 := hid b1
  clear hl
  go_wp2_with fail
  go_ret
  have b2 := b1.out.alloc b1.out.size (.cells #[.int .i64 0, .int .i64 0] 84)
  exact ⟨rfl, h.out.more b2, KeepW.ofBelow b2⟩

set_option maxRecDepth 100000 in
set_option maxHeartbeats 4000000 in
theorem WX.untieN (h : WX lo w wb n m rb fb cb N vz v seq adj tt w0) (hm : m ≤ 1048576) (e : Nat) (he : e < m) (hc : tt e = none) :
    Calls Tryz.prog 24 #[.pointer (some ⟨wb, 0, none⟩), .int .i64 (e : Int)] w0 fun x w' => x = .returned (.iface 63 (.int .i64 21)) ∧ WX lo w wb n m rb fb cb N vz v seq adj tt w' ∧ KeepW w0 w' := by
  have hl := hid (h.wm.between hm e he)
  have h := hid h
  have hc := hid hc
  go_enter Tryz.func24, Tryz.ntmps24
  go_wp2_with fail
  refine hl.out.mono ?_
  rintro x w1 ⟨p, q, rfl, hpq, b1⟩
  obtain ⟨rfl, rfl⟩ := ec_none hc.out hpq
  obtain ⟨k2, b2, s1⟩ := var2 (a := .int .i64 0) (b := .int .i64 0) b1
  obtain ⟨wa, hw2⟩ : ∃ w2, w1.alloc (.cells #[.int .i64 0, .int .i64 0] 84) = w2 := ⟨_, rfl⟩
  rw [hw2] at k2 b2
  replace hw2 := hid hw2
  have h3 := hid (h.out.more b2)
  have K3 := hid (KeepW.ofBelow b2)
  obtain ⟨B, hB⟩ : ∃ B, w1.heap.size = B := ⟨_, rfl⟩
  rw [hB] at k2
  have k3 := hid k2
  replace hB := hid hB
  clear hl hpq b1 k2 b2 h
  go_upto_region 2 with fail
  rw [hw2.out, hB.out]
  clear hw2
  have heq : ∀ y, (Op.equalIn 10000 84 (.agg #[.int .i64 0, .int .i64 0]) (.agg #[.int .i64 0, .int .i64 0])).run Tryz.prog y = .ok true y := fun y => ends_eq 0 0 0 0 y
  have hloose := hid (was_loose k3.out)
  obtain ⟨⟨f1, f2⟩, _⟩ := blk2 k3.out
  have hd : Hid (Below wa.heap.size wa wa.drew) := hid (Below.refl _ _).drew
  go_wp2_with fail
  go_region_held3 (fun w' => w'.cell? ⟨B, 0, none⟩ = some (.int .i64 0) ∧ w'.cell? ⟨B, 1, none⟩ = some (.int .i64 0)) (first | assumption | exact ⟨f1, f2⟩ | go_keep) (
    (go_at_call 42; refine (hloose.out _ hd.out).mono ?_; rintro e w4 ⟨rfl, f4, b4⟩; have fin := hid (And.intro (h3.out.more b4) (K3.out.trans (KeepW.ofBelow b4))); clear b4))
  all_goals
    go_wp2_with fail
    go_ret
    exact ⟨rfl, fin.out⟩

set_option maxRecDepth 100000 in
set_option maxHeartbeats 4000000 in
theorem WX.untie (h : WX lo w wb n m rb fb cb N vz v seq (Ad n seq tt) tt w0) (hn : n ≤ 4194304) (hN : ∀ x, x < n → iN x < N) (hT : ∀ e, e < m → tN e < N) (hm : m ≤ 1048576) (e : Nat) (he : e < m) (a b : Nat) (ha : a < n) (hb : b < n) (hab : a ≠ b) (hc : tt e = some (a, b)) :
    Calls Tryz.prog 24 #[.pointer (some ⟨wb, 0, none⟩), .int .i64 (e : Int)] w0 fun x w' => x = .returned .nilIface ∧ WX lo w wb n m rb fb cb N vz v seq (Ad n seq (updT tt e none)) (updT tt e none) w' ∧ KeepW w0 w' := by
  have hl := hid (h.wm.between hm e he)
  have h := hid h
  have hc := hid hc
  have hN := hid hN
  have hT := hid hT
  go_enter Tryz.func24, Tryz.ntmps24
  go_wp2_with fail
  refine hl.out.mono ?_
  rintro x w1 ⟨p, q, rfl, hpq, b1⟩
  obtain ⟨rfl, rfl⟩ := ec_some hc.out hpq
  obtain ⟨k2, b2, s1⟩ := var2 (a := .int .i64 (a : Int)) (b := .int .i64 (b : Int)) b1
  obtain ⟨wa, hw2⟩ : ∃ w2, w1.alloc (.cells #[.int .i64 (a : Int), .int .i64 (b : Int)] 84) = w2 := ⟨_, rfl⟩
  rw [hw2] at k2 b2
  replace hw2 := hid hw2
  obtain ⟨B, hB⟩ : ∃ B, w1.heap.size = B := ⟨_, rfl⟩
  rw [hB] at k2 s1
  have k3 := hid k2
  replace b2 := hid b2
  replace hB := hid hB
  clear hl hpq b1 k2
  go_upto_region 2 with fail
  rw [hw2.out, hB.out]
  clear hw2 hB
  have heq := fun w => ends_loose hab w
  have hloose := hid (was_loose k3.out)
  obtain ⟨⟨f1, f2⟩, _⟩ := blk2 k3.out
  have hd : Hid (Below wa.heap.size wa wa.drew) := hid (Below.refl _ _).drew
  go_wp2_with fail
  go_region_held3 (fun w' => w'.cell? ⟨B, 0, none⟩ = some (.int .i64 (a : Int)) ∧ w'.cell? ⟨B, 1, none⟩ = some (.int .i64 (b : Int))) (first | assumption | exact ⟨f1, f2⟩ | go_keep) (
    (go_at_call 42; refine (hloose.out _ hd.out).mono ?_; rintro e w4 ⟨rfl, f4, b4⟩; have b4 := hid b4))
  all_goals
    clear hloose hd heq f1 f2 f4
    go_wp2_with fail
    refine (loose_ok _).mono ?_
    rintro x w5 ⟨rfl, b5⟩
    have b45 := b4.out.trans (b5.mono b4.out.size)
    have b05 := b2.out.trans (b45.mono b2.out.size)
    have k5 := (b45.block B (Array.getElem?_eq_some_iff.1 k3.out).1).trans k3.out
    have hk := hid (h.out.wm.keep_ok b05 h.out.los hm e he none 0 0 rfl)
    replace k5 := hid k5
    replace b05 := hid b05
    clear b4 b5 b45 b2 k3
    go_wp2_with fail
    refine hk.out.mono ?_
    rintro x w7 ⟨rfl, g7, k7, b7, o7⟩
    have k7b := hid ((o7 B s1 (Array.getElem?_eq_some_iff.1 k5.out).1).trans k5.out)
    have h7 := h.out.own g7 k7 b7
    have K7 := hid (KeepW.ofO k7)
    have e1 := hid (ad_untie (L := Nx n seq) hc.out)
    have hea : Hid (∀ y, Below w7.heap.size w7 y → Calls Tryz.prog 60 #[.pointer (some ⟨wb, 0, none⟩), .int .i64 (e : Int), .agg #[.int .i64 (a : Int), .int .i64 (b : Int)], .func (.func 53) #[.pointer (some ⟨cb, 0, none⟩)] #[]] y fun e' w' => e' = .returned .nilIface ∧ Ct.FS lo w cb N v (delE (delE (Ad n seq tt) (tN e + 1) (iN a + 1)) (tN e + 1) (iN b + 1)) w' ∧ Ct.Keep y w') := hid (fun y hy => by
      refine each_cut (ad0 := Ad n seq tt) (ad1 := delE (Ad n seq tt) (tN e + 1) (iN a + 1)) wb e a b (h7.ct.more hy) (by omega) (by omega) (by omega) (fun y hy => hy.cut _ _ (hT.out e he) (hN.out a ha) (adL_a hc.out)) (fun y hy => hy.cut _ _ (hT.out e he) (hN.out b hb) ?_)
      refine ⟨adL_b hc.out, fun ⟨_, q⟩ => hab (iN_inj (Nat.succ.inj q)).symm, fun ⟨q, _⟩ => iN_tN a e (Nat.succ.inj q).symm⟩)
    obtain ⟨c0, c1, c2, c3⟩ := h7.wm.cells
    obtain ⟨⟨f1, f2⟩, _⟩ := blk2 k7b.out
    have hd : Hid (Below w7.heap.size w7 w7.drew) := hid (Below.refl _ _).drew
    replace h7 := hid h7
    clear hk g7 k7 b7 o7 k5 b05 h
    go_wp2_with fail
    go_region_held3 (fun w' => w'.cell? ⟨wb, 3, none⟩ = some (.pointer (some ⟨cb, 0, none⟩)) ∧ w'.cell? ⟨B, 0, none⟩ = some (.int .i64 (a : Int)) ∧ w'.cell? ⟨B, 1, none⟩ = some (.int .i64 (b : Int))) (first | assumption | exact ⟨c3, f1, f2⟩ | go_keep) (
      (go_at_call 60; refine (hea.out _ hd.out).mono ?_; rintro e' w8 ⟨rfl, g8, k8⟩; have e2 : delE (delE (Ad n seq tt) (tN e + 1) (iN a + 1)) (tN e + 1) (iN b + 1) = Ad n seq (updT tt e none) := e1.out; rw [e2] at g8; have fin := hid (And.intro (h7.out.drew.trees g8 k8) (K7.out.drew.trans (KeepW.ofCt k8))); have c8 := fin.out.1.wm.cells.2.2.2; have f8 := (blk2 (k8 _ _ _ _ k7b.out (by decide) (by decide))).1; have S8 := And.intro c8 f8; clear g8 k8 e2))
    all_goals
      go_wp2_with fail
      go_ret
      exact ⟨rfl, fin.out⟩
end
end Go.Proofs.YtdmkbcbgjdmgdaaGreatDoor

namespace Go.Proofs.YtdmkbcbgjdmgdaaGreatDoor
open Go.RowKit
set_option linter.unusedVariables false

theorem ct_low {lo lo' cb N : Nat} {w w1 wr : World} {v : Nat → Int} {adj : Nat → Nat → Prop} (h : Ct.FS lo' w1 cb N v adj wr) (hlo : lo ≤ lo') (hb : Below lo w w1) (hw : lo ≤ w.heap.size) : Ct.FS lo w cb N v adj wr := by
  obtain ⟨nb, M, T, sub, seq, pp, par, f1, f2, f3, f4, f5⟩ := h.st
  exact ⟨⟨nb, M, T, sub, seq, pp, par, f1, f2, f3, f4, by omega⟩, Nat.le_trans hlo h.flo, hb.trans (h.below.mono hlo), h.n1, h.n2, hw⟩

theorem ad_new (n : Nat) : Ad n one (fun _ => none) = Ct.noE := by
  funext p q
  apply propext
  refine ⟨fun h => ?_, fun h => False.elim h⟩
  have no : ∀ u v, ¬ It (Nx n one) u v := fun u v ⟨x, y, ⟨z, _, _, i, h1, h2⟩, _, _⟩ => by
    have q1 := (List.getElem?_eq_some_iff.1 h2).1
    simp [one] at q1
  rcases h with (h | h) | (⟨_, _, _, h, _⟩ | ⟨_, _, _, h, _⟩)
  · exact no _ _ h
  · exact no _ _ h
  · cases h
  · cases h

theorem iN_le {x y : Nat} (h : x ≤ y) : iN x ≤ iN y := by unfold iN; omega
theorem tN_le {x y : Nat} (h : x ≤ y) : tN x ≤ tN y := by unfold tN; omega

/-- How many nodes there are. -/
def nodesN (n m : Nat) : Nat := 1 + max (iN (n - 1)) (tN (m - 1))

theorem nodes_item {n m x : Nat} (hx : x < n) : iN x < nodesN n m := by
  have := iN_le (show x ≤ n - 1 by omega)
  unfold nodesN
  omega
theorem nodes_tie {n m e : Nat} (he : e < m) : tN e < nodesN n m := by
  have := tN_le (show e ≤ m - 1 by omega)
  unfold nodesN
  omega
theorem nodes_few {n m : Nat} (hn : n ≤ 4194304) (hm : m ≤ 1048576) : 1 ≤ nodesN n m ∧ nodesN n m ≤ 8388608 := by
  have h1 := iN_le (show n - 1 ≤ 4194303 by omega)
  have h2 := tN_le (show m - 1 ≤ 1048575 by omega)
  have h3 : iN 4194303 = 5242878 := by decide
  have h4 : tN 1048575 = 5242879 := by decide
  unfold nodesN
  omega

theorem wi_new {n m : Nat} (hn1 : 1 ≤ n) (hn : n ≤ 4194304) (hm1 : 1 ≤ m) (hm : m ≤ 1048576) (ky : Nat → Int) : WI n m (nodesN n m) one (fun _ => none) ky Ct.zero :=
  ⟨hn1, hn, hm1, hm, fun x hx => nodes_item hx, fun e he => nodes_tie he, fun e a b h => (by cases h), fun e a b h => (by cases h), fun x hx => .inr ⟨rfl, rfl, fun e a b h => (by cases h)⟩⟩

set_option maxRecDepth 100000 in
set_option maxHeartbeats 4000000 in
theorem wnew_ok (n m : Nat) (w : World) (hn1 : 1 ≤ n) (hn : n ≤ 4194304) (hm1 : 1 ≤ m) (hm : m ≤ 1048576) (ky : Nat → Int) :
    Calls Tryz.prog 8 #[.int .i64 (n : Int), .int .i64 (m : Int)] w fun e w' => ∃ wb, e = .returned (.tuple #[.pointer (some ⟨wb, 0, none⟩), .nilIface]) ∧ WS w.heap.size w wb n m one (fun _ => none) ky w' := by
  have t1 : decide ((n : Int) < 1) = false := decide_eq_false (by omega)
  have t2 : decide (4194304 < (n : Int)) = false := decide_eq_false (by omega)
  have t3 : decide ((m : Int) < 1) = false := decide_eq_false (by omega)
  have t4 : decide (1048576 < (m : Int)) = false := decide_eq_false (by omega)
  have hr := hid (gnew_ok n w hn1 (by omega))
  obtain ⟨f1, f2⟩ := nodes_few hn hm
  obtain ⟨I, hI⟩ : ∃ I, iN (n - 1) = I := ⟨_, rfl⟩
  obtain ⟨T, hT⟩ : ∃ T, tN (m - 1) = T := ⟨_, rfl⟩
  have hN : nodesN n m = 1 + max I T := by unfold nodesN; rw [hI, hT]
  have hi : Hid (∀ y, Calls Tryz.prog 29 #[.int .i64 ((n : Int) - 1)] y fun e w' => e = .returned (.int .i64 (I : Int)) ∧ y = w') := hid (fun y => by
    have := inode_ok (n - 1) (by omega) y
    rw [hI, show ((n - 1 : Nat) : Int) = (n : Int) - 1 by omega] at this
    exact this)
  have ht : Hid (∀ y, Calls Tryz.prog 30 #[.int .i64 ((m : Int) - 1)] y fun e w' => e = .returned (.int .i64 (T : Int)) ∧ y = w') := hid (fun y => by
    have := tnode_ok (m - 1) (by omega) y
    rw [hT, show ((m - 1 : Nat) : Int) = (m : Int) - 1 by omega] at this
    exact this)
  have bI : I ≤ 8388608 := by omega
  have bT : T ≤ 8388608 := by omega
  have hwi := hid (wi_new hn1 hn hm1 hm ky)
  have hnew : Hid (∀ y, Calls Tryz.prog 28 #[.int .i64 ((nodesN n m : Nat) : Int)] y fun e w' => ∃ fb, e = .returned (.tuple #[.pointer (some ⟨fb, 0, none⟩), .nilIface]) ∧ Ct.FS y.heap.size y fb (nodesN n m) Ct.zero Ct.noE w') := hid (fun y => Ct.new_ok (nodesN n m) y f1 f2)
  replace hI := hid hI
  replace hT := hid hT
  by_cases hle : I < T
  · have hN2 : ((nodesN n m : Nat) : Int) = 1 + (T : Int) := by rw [hN]; omega
    rw [hN2] at hnew
    have hmax : max (I : Int) (T : Int) = (T : Int) := by omega
    replace hN := hid hN
    replace hN2 := hid hN2
    clear f1 f2
    go_enter Tryz.func8, Tryz.ntmps8
    go_wp2_with fail
    refine hr.out.mono ?_
    rintro e w1 ⟨rb, fb, rfl, g1⟩
    replace g1 := hid g1
    clear hr
    go_wp2_with fail
    refine (hi.out _).mono ?_
    rintro e w2 ⟨rfl, rfl⟩
    go_wp2_with fail
    refine (ht.out _).mono ?_
    rintro e w2 ⟨rfl, rfl⟩
    go_wp2_with fail
    refine (hnew.out _).mono ?_
    rintro e w2 ⟨cb, rfl, g2⟩
    have b1 := g1.out.fs.below
    have g2' := ct_low g2 b1.size b1 (Nat.le_refl _)
    have k2 : Ct.Keep w1 w2 := Ct.Keep.ofBelow g2.below
    have g12 := rg_of g1.out k2 g2'.below
    have hlo : w.heap.size ≤ w2.heap.size := Nat.le_trans b1.size g2.below.size
    have fin : Hid (WS w.heap.size w w2.heap.size n m one (fun _ => none) ky (w2.alloc (.cells #[.int .i64 (n : Int), .int .i64 (m : Int), .pointer (some ⟨rb, 0, none⟩), .pointer (some ⟨cb, 0, none⟩), .slice none 0 0] 73))) := hid ⟨rb, fb, cb, nodesN n m, zero, Ct.zero, ⟨⟨hlo, _, 0, heap_alloc_new w2 _, World.ownsRow_nil _ _ _ _, by omega, fun _ _ => rfl⟩, g12.alloc _, by rw [ad_new]; exact g2'.alloc _⟩, hwi.out⟩
    clear g1 g2 g2' g12 k2 b1 hnew hi ht
    go_wp2_with fail
    go_ret2
    exact ⟨_, rfl, fin.out⟩
  · have hN2 : ((nodesN n m : Nat) : Int) = 1 + (I : Int) := by rw [hN]; omega
    rw [hN2] at hnew
    have hmax : max (I : Int) (T : Int) = (I : Int) := by omega
    replace hN := hid hN
    replace hN2 := hid hN2
    clear f1 f2
    go_enter Tryz.func8, Tryz.ntmps8
    go_wp2_with fail
    refine hr.out.mono ?_
    rintro e w1 ⟨rb, fb, rfl, g1⟩
    replace g1 := hid g1
    clear hr
    go_wp2_with fail
    refine (hi.out _).mono ?_
    rintro e w2 ⟨rfl, rfl⟩
    go_wp2_with fail
    refine (ht.out _).mono ?_
    rintro e w2 ⟨rfl, rfl⟩
    go_wp2_with fail
    refine (hnew.out _).mono ?_
    rintro e w2 ⟨cb, rfl, g2⟩
    have b1 := g1.out.fs.below
    have g2' := ct_low g2 b1.size b1 (Nat.le_refl _)
    have k2 : Ct.Keep w1 w2 := Ct.Keep.ofBelow g2.below
    have g12 := rg_of g1.out k2 g2'.below
    have hlo : w.heap.size ≤ w2.heap.size := Nat.le_trans b1.size g2.below.size
    have fin : Hid (WS w.heap.size w w2.heap.size n m one (fun _ => none) ky (w2.alloc (.cells #[.int .i64 (n : Int), .int .i64 (m : Int), .pointer (some ⟨rb, 0, none⟩), .pointer (some ⟨cb, 0, none⟩), .slice none 0 0] 73))) := hid ⟨rb, fb, cb, nodesN n m, zero, Ct.zero, ⟨⟨hlo, _, 0, heap_alloc_new w2 _, World.ownsRow_nil _ _ _ _, by omega, fun _ _ => rfl⟩, g12.alloc _, by rw [ad_new]; exact g2'.alloc _⟩, hwi.out⟩
    clear g1 g2 g2' g12 k2 b1 hnew hi ht
    go_wp2_with fail
    go_ret2
    exact ⟨_, rfl, fin.out⟩
end Go.Proofs.YtdmkbcbgjdmgdaaGreatDoor

namespace Go.Proofs.YtdmkbcbgjdmgdaaGreatDoor
set_option linter.unusedVariables false

/-- A tie's ends, whether it is tied. -/
def eA (tt : Nat → Option (Nat × Nat)) (e : Nat) : Nat := match tt e with | some (a, _) => a | none => 0
def eB (tt : Nat → Option (Nat × Nat)) (e : Nat) : Nat := match tt e with | some (_, b) => b | none => 0
def Td (tt : Nat → Option (Nat × Nat)) (e : Nat) : Prop := ∃ a b, tt e = some (a, b)

theorem eA_of {tt : Nat → Option (Nat × Nat)} {e a b : Nat} (h : tt e = some (a, b)) : eA tt e = a ∧ eB tt e = b := by
  unfold eA eB
  rw [h]
  exact ⟨rfl, rfl⟩

/-- Ties and faces named otherwise. -/
theorem FR.conv {fc fc' A B A' B' : Nat → Nat} {T T' : Nat → Prop} (nm : Nat → Nat) (hT : ∀ t, T t → T' (nm t)) (hA : ∀ t, T t → fc' (A' (nm t)) = fc (A t)) (hB : ∀ t, T t → fc' (B' (nm t)) = fc (B t)) {f g : Nat} {r ls : List Nat} (k : FR fc A B T f g r ls) : FR fc' A' B' T' f g (r.map nm) ls := by
  induction k with
  | nil f => exact .nil f
  | cons ht he _ ih =>
    refine .cons (hT _ ht) ?_ ih
    rw [hA _ ht, hB _ ht]
    exact he

/-- Labels of the faces. -/
def Lb (n : Nat) (s : Nat → List Nat) (fi : Nat → Nat) : Prop := ∀ x y, x < n → y < n → (fi x = fi y ↔ y + 1 ∈ s (x + 1))

/-- A node is an item's; a tie's. -/
def nI (n : Nat) (p : Nat) : Prop := ∃ x, x < n ∧ p = iN x + 1
def nT (tt : Nat → Option (Nat × Nat)) (p : Nat) : Prop := ∃ e, Td tt e ∧ p = tN e + 1

theorem tnum (e : Nat) : (tN e + 1) / 5 - 1 = e := by unfold tN; omega

section
variable {n : Nat} {s s' : Nat → List Nat} {tt : Nat → Option (Nat × Nat)} {fi : Nat → Nat}

theorem Lb.rq (h : Lb n s fi) (hr : Rq s' s) : Lb n s' fi := fun x y hx hy => (h x y hx hy).trans (hr.mem (by omega)).symm

theorem web_wb (p : Part n s) (hw : Wood (Ad n s tt)) (he : ∀ e a b, tt e = some (a, b) → a < n ∧ b < n) (hl : Lb n s fi) :
    Wb (Ad n s tt) (nI n) (fun p => fi (iv p)) (fun p => iN (eA tt (p / 5 - 1)) + 1) (fun p => iN (eB tt (p / 5 - 1)) + 1) (nT tt) := by
  have hIT : ∀ e, ¬ nI n (tN e + 1) := fun e ⟨x, _, h⟩ => iN_tN x e (Nat.succ.inj h).symm
  refine ⟨hw, fun x ⟨e, _, h⟩ => by rw [h]; exact hIT e, fun x y ⟨a, ha, ea⟩ ⟨b, hb, eb⟩ h => ?_, fun x y ⟨a, ha, ea⟩ hy h => ?_, fun x y hx hy h => ?_, fun t ⟨e, ⟨a, b, h⟩, et⟩ => ?_, fun x y ⟨a, ha, ea⟩ ⟨b, hb, eb⟩ h => ?_⟩
  · subst ea eb
    show fi (iv (iN a + 1)) = fi (iv (iN b + 1))
    rw [iv_iN, iv_iN]
    rcases adL_it h with ⟨y, e1, h1⟩ | ⟨e, c, d, _, e1, _⟩
    · obtain rfl := iN_inj (Nat.succ.inj e1)
      rcases h1 with h1 | h1
      · exact (hl a b ha hb).2 (h1.in_ p).2.2.2.2.1
      · exact ((hl b a hb ha).2 (h1.in_ p).2.2.2.2.1).symm
    · exact absurd (Nat.succ.inj e1) (iN_tN _ _)
  · subst ea
    rcases adL_it h with ⟨y', e1, h1⟩ | ⟨e, c, d, h1, e1, h2⟩
    · exfalso
      refine hy ⟨y', ?_, e1⟩
      rcases h1 with h1 | h1
      · have := (h1.in_ p).2.2.2.1; omega
      · have := (h1.in_ p).2.2.1; omega
    · refine ⟨⟨e, ⟨c, d, h1⟩, e1⟩, ?_⟩
      subst e1
      rw [tnum, (eA_of h1).1, (eA_of h1).2]
      rcases h2 with rfl | rfl
      · exact .inl rfl
      · exact .inr rfl
  · rcases h with (⟨u, v, h, e1, e2⟩ | ⟨u, v, h, e1, e2⟩) | (⟨e, c, d, h1, e1, e2⟩ | ⟨e, c, d, h1, e1, e2⟩)
    · exact hx ⟨u, by have := (h.in_ p).2.2.1; omega, e1⟩
    · exact hy ⟨u, by have := (h.in_ p).2.2.1; omega, e1⟩
    · obtain ⟨q1, q2⟩ := he e c d h1
      rcases e2 with e2 | e2
      · exact hy ⟨c, q1, e2⟩
      · exact hy ⟨d, q2, e2⟩
    · obtain ⟨q1, q2⟩ := he e c d h1
      rcases e2 with e2 | e2
      · exact hx ⟨c, q1, e2⟩
      · exact hx ⟨d, q2, e2⟩
  · subst et
    show (nI n (iN (eA tt ((tN e + 1) / 5 - 1)) + 1) ∧ Ad n s tt (tN e + 1) (iN (eA tt ((tN e + 1) / 5 - 1)) + 1)) ∧ (nI n (iN (eB tt ((tN e + 1) / 5 - 1)) + 1) ∧ Ad n s tt (tN e + 1) (iN (eB tt ((tN e + 1) / 5 - 1)) + 1))
    rw [tnum, (eA_of h).1, (eA_of h).2]
    obtain ⟨q1, q2⟩ := he e a b h
    exact ⟨⟨⟨a, q1, rfl⟩, adL_a h⟩, ⟨b, q2, rfl⟩, adL_b h⟩
  · subst ea eb
    have h' : fi a = fi b := by
      have h' : fi (iv (iN a + 1)) = fi (iv (iN b + 1)) := h
      rw [iv_iN, iv_iN] at h'
      exact h'
    have hm := (hl a b ha hb).1 h'
    obtain ⟨m, h1, h2⟩ := path_cn (adj := Ad n s tt) (s (a + 1)) (fun z => nI n z ∧ fi (iv z) = fi a) (fun x y h => Ad.symm h) (fun q hq => by
      have h0 := (p.mem _ q (by omega) hq).2
      have hqn := p.le _ q (by omega) (show a + 1 ≤ n by omega) hq
      refine ⟨h0, ⟨q - 1, by omega, rfl⟩, ?_⟩
      rw [iv_iN]
      exact ((hl a (q - 1) ha (by omega)).2 (by rw [show q - 1 + 1 = q by omega]; exact hq)).symm) (fun u v huv => by
      have h1 := (p.mem _ u (by omega) huv.mem.1).2
      have h2 := (p.mem _ v (by omega) huv.mem.2).2
      exact adL_item (by rw [show u - 1 + 1 = u by omega, show v - 1 + 1 = v by omega]; exact ⟨a + 1, by omega, by omega, huv⟩)) (a + 1) (b + 1) (p.self _ (by omega)) hm
    refine ⟨m, h1, fun z hz => ?_⟩
    obtain ⟨q1, q2⟩ := h2 z hz
    refine ⟨q1, ?_⟩
    show fi (iv z) = fi (iv (iN a + 1))
    rw [iv_iN]
    exact q2

/-- Roads, by the ties' numbers and by their nodes. -/
theorem fr_node {f g : Nat} {r ls : List Nat} (k : FR fi (eA tt) (eB tt) (Td tt) f g r ls) : FR (fun p => fi (iv p)) (fun p => iN (eA tt (p / 5 - 1)) + 1) (fun p => iN (eB tt (p / 5 - 1)) + 1) (nT tt) f g (r.map (fun e => tN e + 1)) ls :=
  k.conv (fun e => tN e + 1) (fun t ht => ⟨t, ht, rfl⟩) (fun t _ => by rw [iv_iN, tnum]) (fun t _ => by rw [iv_iN, tnum])

theorem fr_num {f g : Nat} {r ls : List Nat} (k : FR (fun p => fi (iv p)) (fun p => iN (eA tt (p / 5 - 1)) + 1) (fun p => iN (eB tt (p / 5 - 1)) + 1) (nT tt) f g r ls) : FR fi (eA tt) (eB tt) (Td tt) f g (r.map (fun p => p / 5 - 1)) ls :=
  k.conv (fun p => p / 5 - 1) (fun t ⟨e, h, et⟩ => by subst et; show Td tt ((tN e + 1) / 5 - 1); rw [tnum]; exact h) (fun t _ => by rw [iv_iN]) (fun t _ => by rw [iv_iN])

theorem linked_iff (p : Part n s) (hw : Wood (Ad n s tt)) (he : ∀ e a b, tt e = some (a, b) → a < n ∧ b < n) (hl : Lb n s fi) {a b : Nat} (ha : a < n) (hb : b < n) : Cn (Ad n s tt) (iN a + 1) (iN b + 1) ↔ ∃ r ls, FR fi (eA tt) (eB tt) (Td tt) (fi a) (fi b) r ls := by
  have w := web_wb p hw he hl
  have k := w.linked (a := iN a + 1) (b := iN b + 1) ⟨a, ha, rfl⟩ ⟨b, hb, rfl⟩
  simp only [iv_iN] at k
  constructor
  · intro h
    obtain ⟨r, ls, q⟩ := k.1 h.rd
    exact ⟨_, _, fr_num q⟩
  · rintro ⟨r, ls, q⟩
    obtain ⟨l, q⟩ := k.2 ⟨_, _, fr_node q⟩
    exact cn_rd q

/-- The ties of the road. -/
theorem road_ties (p : Part n s) (hw : Wood (Ad n s tt)) (he : ∀ e a b, tt e = some (a, b) → a < n ∧ b < n) (hl : Lb n s fi) {a b : Nat} (ha : a < n) (hb : b < n) {l r ls : List Nat} (h : Rd (Ad n s tt) (iN a + 1) (iN b + 1) l) (k : FR fi (eA tt) (eB tt) (Td tt) (fi a) (fi b) r ls) (hn : ls.Nodup) : tiesOf (nI n) l = r.map (fun e => tN e + 1) := by
  have w := web_wb p hw he hl
  refine w.same (a := iN a + 1) (b := iN b + 1) ⟨a, ha, rfl⟩ ⟨b, hb, rfl⟩ h ?_ hn
  simp only [iv_iN]
  exact fr_node k

theorem road_uniq (p : Part n s) (hw : Wood (Ad n s tt)) (he : ∀ e a b, tt e = some (a, b) → a < n ∧ b < n) (hl : Lb n s fi) {a b : Nat} (ha : a < n) (hb : b < n) {r ls r' ls' : List Nat} (k : FR fi (eA tt) (eB tt) (Td tt) (fi a) (fi b) r ls) (hn : ls.Nodup) (k' : FR fi (eA tt) (eB tt) (Td tt) (fi a) (fi b) r' ls') (hn' : ls'.Nodup) : r = r' := by
  obtain ⟨l, h⟩ := ((linked_iff p hw he hl ha hb).2 ⟨r, ls, k⟩).rd
  have e1 := road_ties p hw he hl ha hb h k hn
  have e2 := road_ties p hw he hl ha hb h k' hn'
  have e3 := e1.symm.trans e2
  have inj : ∀ (x y : List Nat), x.map (fun e => tN e + 1) = y.map (fun e => tN e + 1) → x = y := by
    intro x
    induction x with
    | nil => intro y h; cases y with
      | nil => rfl
      | cons _ _ => cases h
    | cons c x ih => intro y h; cases y with
      | nil => cases h
      | cons d y =>
        simp only [List.map_cons] at h
        injection h with h1 h2
        rw [tN_inj (Nat.succ.inj h1), ih y h2]
  exact inj r r' e3

/-- Each node of a road of more than one has a neighbour. -/
theorem wk_near {adj : Nat → Nat → Prop} (hs : ∀ x y, adj x y → adj y x) {a b : Nat} {l : List Nat} (h : Wk adj a b l) : 2 ≤ l.length → ∀ z, z ∈ l → ∃ q, adj z q := by
  induction h with
  | one a _ => intro h; simp at h
  | step a c b l _ e hw ih =>
    intro _ z hz
    rcases List.mem_cons.1 hz with rfl | hz
    · exact ⟨c, e⟩
    · by_cases h2 : 2 ≤ l.length
      · exact ih h2 z hz
      · have : l = [c] := by
          obtain ⟨m, e1, _⟩ := hw.head
          rw [e1] at h2 ⊢
          cases m with
          | nil => rfl
          | cons _ _ => simp at h2
        rw [this] at hz
        rw [List.mem_singleton.1 hz]
        exact ⟨a, hs _ _ e⟩

/-- The first of the least keys. -/
def WkE (ky : Nat → Int) (r : List Nat) (z : Int) : Prop := (r = [] ∧ z = -1) ∨ ∃ (P : List Nat) (e : Nat) (Q : List Nat), r = P ++ e :: Q ∧ z = (e : Int) ∧ (∀ e', e' ∈ r → ky e ≤ ky e') ∧ ∀ e', e' ∈ P → ky e < ky e'

theorem WkE.uniq {ky : Nat → Int} {r : List Nat} {z z' : Int} (h : WkE ky r z) (k : WkE ky r z') : z = z' := by
  rcases h with ⟨e1, h⟩ | ⟨P, e, Q, h1, h2, h3, h4⟩
  · rcases k with ⟨_, k⟩ | ⟨P, e, Q, k1, _⟩
    · rw [h, k]
    · rw [e1] at k1; simp at k1
  · rcases k with ⟨k, _⟩ | ⟨P', e', Q', k1, k2, k3, k4⟩
    · rw [k] at h1; simp at h1
    · have hm : e ∈ r := by rw [h1]; simp
      have hm' : e' ∈ r := by rw [k1]; simp
      have l1 := h3 e' hm'
      have l2 := k3 e hm
      have key : ∀ (P P' Q Q' : List Nat), P ++ e :: Q = P' ++ e' :: Q' → e ∉ P' → e' ∉ P → e = e' := by
        intro P
        induction P with
        | nil => intro P' Q Q' h n1 n2; cases P' with
          | nil => simp at h; exact h.1
          | cons c P' => simp at h; exact absurd (by rw [h.1]; exact List.mem_cons_self) n1
        | cons c P ih => intro P' Q Q' h n1 n2; cases P' with
          | nil => simp at h; exact absurd (by rw [h.1]; exact List.mem_cons_self) n2
          | cons d P' => simp at h; exact ih P' Q Q' h.2 (fun q => n1 (List.mem_cons_of_mem _ q)) (fun q => n2 (List.mem_cons_of_mem _ q))
      have : e = e' := key P P' Q Q' (h1.symm.trans k1) (fun q => by have := k4 e q; omega) (fun q => by have := h4 e' q; omega)
      rw [h2, k2, this]

theorem tiesOf_node (n : Nat) {l : List Nat} (h : ∀ z, z ∈ l → nI n z ∨ nT tt z) {z : Nat} (hz : z ∈ l) : z ∈ tiesOf (nI n) l ↔ nT tt z := by
  rw [mem_tiesOf]
  constructor
  · rintro ⟨_, h2⟩
    exact (h z hz).resolve_left h2
  · rintro ⟨e, h1, h2⟩
    exact ⟨hz, fun ⟨x, _, q⟩ => iN_tN x e (Nat.succ.inj (q.symm.trans h2))⟩

/-- All of a road between items are items' nodes or ties'. -/
theorem road_kind (p : Part n s) (he : ∀ e a b, tt e = some (a, b) → a < n ∧ b < n) {a b : Nat} {l : List Nat} (h : Wk (Ad n s tt) a b l) : nI n a → ∀ z, z ∈ l → nI n z ∨ nT tt z := by
  have nxt : ∀ x y, Ad n s tt x y → nI n y ∨ nT tt y := fun x y h => by
    rcases h with (⟨u, v, h, e1, e2⟩ | ⟨u, v, h, e1, e2⟩) | (⟨e, c, d, h1, e1, e2⟩ | ⟨e, c, d, h1, e1, e2⟩)
    · exact .inl ⟨v, by have := (h.in_ p).2.2.2.1; omega, e2⟩
    · exact .inl ⟨u, by have := (h.in_ p).2.2.1; omega, e1⟩
    · obtain ⟨q1, q2⟩ := he e c d h1
      rcases e2 with e2 | e2
      · exact .inl ⟨c, q1, e2⟩
      · exact .inl ⟨d, q2, e2⟩
    · exact .inr ⟨e, ⟨c, d, h1⟩, e1⟩
  have key : ∀ {a b : Nat} {l : List Nat}, Wk (Ad n s tt) a b l → (nI n a ∨ nT tt a) → ∀ z, z ∈ l → nI n z ∨ nT tt z := fun {a b l} h => by
    induction h with
    | one a _ => intro ha z hz; rw [List.mem_singleton.1 hz]; exact ha
    | step a c b l _ e _ ih =>
      intro ha z hz
      rcases List.mem_cons.1 hz with rfl | hz
      · exact ha
      · exact ih (nxt _ _ e) z hz
  exact fun ha => key h (.inl ha)

theorem map_split {f : Nat → Nat} : ∀ {r P Q : List Nat} {y : Nat}, r.map f = P ++ y :: Q → ∃ P' e Q', r = P' ++ e :: Q' ∧ P'.map f = P ∧ f e = y
  | [], P, Q, y, h => by simp at h
  | c :: r, [], Q, y, h => by simp at h; exact ⟨[], c, r, rfl, rfl, h.1⟩
  | c :: r, d :: P, Q, y, h => by
    simp at h
    obtain ⟨P', e, Q', h1, h2, h3⟩ := map_split h.2
    exact ⟨c :: P', e, Q', by rw [h1]; rfl, by simp [h2, h.1], h3⟩

/-- What 'Least' of the trees tells of the ties. -/
theorem weak_is {ky v : Nat → Int} {l r : List Nat} {a b d : Nat} (p : Part n s) (he : ∀ e a b, tt e = some (a, b) → a < n ∧ b < n)
    (hval : ∀ e a b, tt e = some (a, b) → v (tN e + 1) = ky e ∧ -9223372036854775808 ≤ ky e ∧ ky e < 9223372036854775807)
    (hitm : ∀ x, x < n → v (iN x + 1) = 9223372036854775807 ∨ (v (iN x + 1) = 0 ∧ s (x + 1) = [x + 1] ∧ ∀ e a b, tt e = some (a, b) → x ≠ a ∧ x ≠ b))
    (ha : a < n) (h : Rd (Ad n s tt) (iN a + 1) (iN b + 1) l) (hr : tiesOf (nI n) l = r.map (fun e => tN e + 1))
    (hd : ∃ A B, l = A ++ (d + 1) :: B ∧ v (d + 1) = Ct.lowV v l ∧ ∀ z, z ∈ A → v z ≠ Ct.lowV v l) (z : Int) (hz : z = if d % 5 = 4 then ((d / 5 : Nat) : Int) else -1) : WkE ky r z := by
  obtain ⟨A, B, e1, e2, e3⟩ := hd
  have kind := road_kind p he h.wk ⟨a, ha, rfl⟩
  have hdl : d + 1 ∈ l := by rw [e1]; simp
  have low : ∀ u, u ∈ l → v (d + 1) ≤ v u := fun u hu => by rw [e2]; exact Ct.lowV_mem v l u hu
  by_cases hr0 : r = []
  · refine .inl ⟨hr0, ?_⟩
    have hno : ¬ nT tt (d + 1) := fun q => by
      have := (tiesOf_node (tt := tt) n kind hdl).2 q
      rw [hr, hr0] at this
      simp at this
    obtain ⟨x, hx, q⟩ := (kind _ hdl).resolve_right hno
    have : d % 5 ≠ 4 := by rw [Nat.succ.inj q]; exact iN_mod x
    rw [hz, if_neg this]
  · right
    obtain ⟨e0, he0⟩ : ∃ e0, e0 ∈ r := by
      cases r with
      | nil => exact absurd rfl hr0
      | cons c _ => exact ⟨c, List.mem_cons_self⟩
    have ties : ∀ e, e ∈ r → Td tt e ∧ tN e + 1 ∈ l := fun e hee => by
      have h1 : tN e + 1 ∈ tiesOf (nI n) l := by rw [hr]; exact List.mem_map.2 ⟨e, hee, rfl⟩
      have h2 := (mem_tiesOf.1 h1).1
      obtain ⟨e', h3, h4⟩ := (tiesOf_node (tt := tt) n kind h2).1 h1
      rw [tN_inj (Nat.succ.inj h4)]
      exact ⟨h3, by rw [← tN_inj (Nat.succ.inj h4)]; exact h2⟩
    have vt : ∀ e, e ∈ r → v (tN e + 1) = ky e ∧ ky e < 9223372036854775807 := fun e hee => by
      obtain ⟨⟨x, y, h1⟩, _⟩ := ties e hee
      exact ⟨(hval e x y h1).1, (hval e x y h1).2.2⟩
    have hlen : 2 ≤ l.length := by
      have h1 := h.wk.first
      have h2 := (ties e0 he0).2
      have hne : iN a + 1 ≠ tN e0 + 1 := fun q => iN_tN a e0 (Nat.succ.inj q)
      match l, h1, h2 with
      | [], h1, _ => cases h1
      | [x], h1, h2 => exact absurd ((List.mem_singleton.1 h1).trans (List.mem_singleton.1 h2).symm) hne
      | _ :: _ :: _, _, _ => simp
    have hdt : nT tt (d + 1) := by
      refine (kind _ hdl).resolve_left (fun ⟨x, hx, q⟩ => ?_)
      have h1 := low _ (ties e0 he0).2
      have h2 := vt e0 he0
      rw [q] at h1
      rcases hitm x hx with h3 | ⟨_, h4, h5⟩
      · omega
      · obtain ⟨u, hu⟩ := wk_near (fun x y h => Ad.symm h) h.wk hlen _ hdl
        rw [q] at hu
        rcases adL_it hu with ⟨y, _, h6⟩ | ⟨e, c, f, h6, _, h7⟩
        · have : Nb (s (x + 1)) (x + 1) (y + 1) ∨ Nb (s (x + 1)) (y + 1) (x + 1) := by
            rcases h6 with h6 | h6
            · exact .inl (h6.in_ p).2.2.2.2.2
            · have q1 := h6.in_ p
              have q2 := (p.mem _ _ q1.1 q1.2.2.2.2.1).1
              exact .inr (by rw [q2]; exact q1.2.2.2.2.2)
          rw [h4] at this
          rcases this with ⟨i, _, k2⟩ | ⟨i, _, k2⟩
          · have := (List.getElem?_eq_some_iff.1 k2).1; simp at this
          · have := (List.getElem?_eq_some_iff.1 k2).1; simp at this
        · have := h5 e c f h6; omega
    obtain ⟨e, htd, q⟩ := hdt
    have hde := Nat.succ.inj q
    have hsp : tiesOf (nI n) l = tiesOf (nI n) A ++ (d + 1) :: tiesOf (nI n) B := by
      rw [e1, tiesOf_append, tiesOf_tie]
      rw [q]
      exact fun ⟨x, _, k⟩ => iN_tN x e (Nat.succ.inj k).symm
    rw [hr] at hsp
    obtain ⟨P', e', Q', h1, h2, h3⟩ := map_split hsp
    have hee : e' = e := by
      have : tN e' = d := Nat.succ.inj h3
      exact tN_inj (this.trans hde)
    subst hee
    have hzz : z = (e' : Int) := by
      rw [hz, hde, if_pos (tN_mod e').1, (tN_mod e').2]
    have hin : e' ∈ r := by rw [h1]; simp
    refine ⟨P', e', Q', h1, hzz, fun e'' hm => ?_, fun e'' hm => ?_⟩
    · have := low _ (ties e'' hm).2
      rw [q, (vt e' hin).1, (vt e'' hm).1] at this
      exact this
    · have hm' : e'' ∈ r := by rw [h1]; exact List.mem_append.2 (.inl hm)
      have h4 := low _ (ties e'' hm').2
      have h5 : tN e'' + 1 ∈ A := by
        have : tN e'' + 1 ∈ P'.map (fun e => tN e + 1) := List.mem_map.2 ⟨e'', hm, rfl⟩
        rw [h2] at this
        exact (mem_tiesOf.1 this).1
      have h6 := e3 _ h5
      rw [← e2] at h6
      rw [q, (vt e' hin).1, (vt e'' hm').1] at h4
      rw [q, (vt e' hin).1, (vt e'' hm').1] at h6
      omega
end
end Go.Proofs.YtdmkbcbgjdmgdaaGreatDoor

namespace Go.Proofs.YtdmkbcbgjdmgdaaGreatDoor
open Go.RowKit
set_option linter.unusedVariables false

/-- A key told anew. -/
def setK (ky : Nat → Int) (e : Nat) (key : Int) : Nat → Int := fun k => if k = e then key else ky k

theorem setK_self (ky : Nat → Int) (e : Nat) (key : Int) : setK ky e key e = key := if_pos rfl
theorem setK_ne {ky : Nat → Int} {e k : Nat} (key : Int) (h : k ≠ e) : setK ky e key k = ky k := if_neg h

theorem setV_self (v : Nat → Int) (x : Nat) (z : Int) : Ct.setV v x z x = z := if_pos rfl
theorem setV_ne {v : Nat → Int} {x y : Nat} (z : Int) (h : y ≠ x) : Ct.setV v x z y = v y := if_neg h

theorem max2_a (v : Nat → Int) (a b : Nat) : max2 v a b (iN a + 1) = 9223372036854775807 := by
  unfold max2
  by_cases e : iN a + 1 = iN b + 1
  · rw [e, setV_self]
  · rw [setV_ne _ e, setV_self]
theorem max2_b (v : Nat → Int) (a b : Nat) : max2 v a b (iN b + 1) = 9223372036854775807 := by unfold max2; rw [setV_self]
theorem max2_ne {v : Nat → Int} {a b y : Nat} (h1 : y ≠ iN a + 1) (h2 : y ≠ iN b + 1) : max2 v a b y = v y := by unfold max2; rw [setV_ne _ h2, setV_ne _ h1]

section
variable {n m N : Nat} {seq : Nat → List Nat} {tt : Nat → Option (Nat × Nat)} {ky v : Nat → Int}

theorem WI.ends2 (h : WI n m N seq tt ky v) : ∀ e a b, tt e = some (a, b) → a < n ∧ b < n := fun e a b q => ⟨(h.ends e a b q).2.1, (h.ends e a b q).2.2.1⟩

theorem single {X x : Nat} (p : Part n seq) (hX : X ≠ 0) (hs : seq (x + 1) = [x + 1]) (hin : x + 1 ∈ seq X) : X = x + 1 := by
  have e1 := (p.mem X _ hX hin).1
  have := p.self X hX
  rw [← e1, hs] at this
  exact List.mem_singleton.1 this

theorem WI.turn (h : WI n m N seq tt ky v) (p : Part n seq) {X : Nat} (hX : X ≠ 0) : WI n m N (turnS seq X) tt ky v :=
  ⟨h.n1, h.n2, h.m1, h.m2, h.ni, h.nt, h.ends, h.val, fun x hx => by
    rcases h.itm x hx with q | ⟨q1, q2, q3⟩
    · exact .inl q
    · refine .inr ⟨q1, ?_, q3⟩
      by_cases k : x + 1 ∈ seq X
      · have e := single p hX q2 k
        rw [turnS_in k, e, q2]
        exact rot_self (T := []) rfl
      · rw [turnS_out k]; exact q2⟩

theorem WI.split (h : WI n m N seq tt ky v) (p : Part n seq) {X Y : Nat} (hX : X ≠ 0) (hne : X ≠ Y) (hY : Y ∈ seq X) : WI n m N (splS seq X Y) tt ky v :=
  ⟨h.n1, h.n2, h.m1, h.m2, h.ni, h.nt, h.ends, h.val, fun x hx => by
    rcases h.itm x hx with q | ⟨q1, q2, q3⟩
    · exact .inl q
    · refine .inr ⟨q1, ?_, q3⟩
      obtain ⟨P, Q, e, hP⟩ := rot_parts p hX hne hY
      have : x + 1 ∉ seq X := fun k => by
        have e1 := single p hX q2 k
        rw [e1, q2] at hY
        exact hne (e1.trans (List.mem_singleton.1 hY).symm)
      rw [splS_out p hX e hP this]; exact q2⟩

theorem WI.merge (h : WI n m N seq tt ky v) (p : Part n seq) (a b : Nat) : WI n m N (mrgS seq (a + 1) (b + 1)) tt ky (max2 v a b) :=
  ⟨h.n1, h.n2, h.m1, h.m2, h.ni, h.nt, h.ends, fun e c d q => by
    rw [max2_ne (fun k => iN_tN a e (Nat.succ.inj k).symm) (fun k => iN_tN b e (Nat.succ.inj k).symm)]
    exact h.val e c d q, fun x hx => by
    by_cases xa : x = a
    · subst xa; exact .inl (max2_a _ _ _)
    · by_cases xb : x = b
      · subst xb; exact .inl (max2_b _ _ _)
      · rw [max2_ne (fun k => xa (iN_inj (Nat.succ.inj k))) (fun k => xb (iN_inj (Nat.succ.inj k)))]
        rcases h.itm x hx with q | ⟨q1, q2, q3⟩
        · exact .inl q
        · refine .inr ⟨q1, ?_, q3⟩
          have h1 : x + 1 ∉ seq (a + 1) := fun k => xa (by have := single p (by omega) q2 k; omega)
          have h2 : x + 1 ∉ seq (b + 1) := fun k => xb (by have := single p (by omega) q2 k; omega)
          unfold mrgS
          rw [if_neg (fun k => k.elim h1 h2)]
          exact q2⟩

theorem WI.tie (h : WI n m N seq tt ky v) {e a b : Nat} {key : Int} (he : e < m) (ha : a < n) (hb : b < n) (hab : a ≠ b) (hk1 : -9223372036854775808 ≤ key) (hk2 : key < 9223372036854775807) : WI n m N seq (updT tt e (some (a, b))) (setK ky e key) (tieV v e a b key) :=
  ⟨h.n1, h.n2, h.m1, h.m2, h.ni, h.nt, fun k c d q => by
    by_cases hk : k = e
    · subst hk
      rw [updT_self] at q
      injection q with q
      injection q with q1 q2
      subst q1 q2
      exact ⟨he, ha, hb, hab⟩
    · rw [updT_ne _ hk] at q; exact h.ends k c d q, fun k c d q => by
    by_cases hk : k = e
    · subst hk
      unfold tieV
      rw [setK_self, setV_self]
      exact ⟨rfl, hk1, hk2⟩
    · rw [updT_ne _ hk] at q
      unfold tieV
      rw [setK_ne _ hk, setV_ne _ (fun j => hk (tN_inj (Nat.succ.inj j))), max2_ne (fun j => iN_tN a k (Nat.succ.inj j).symm) (fun j => iN_tN b k (Nat.succ.inj j).symm)]
      exact h.val k c d q, fun x hx => by
    unfold tieV
    rw [setV_ne _ (fun j => iN_tN x e (Nat.succ.inj j))]
    by_cases xa : x = a
    · subst xa; exact .inl (max2_a _ _ _)
    · by_cases xb : x = b
      · subst xb; exact .inl (max2_b _ _ _)
      · rw [max2_ne (fun k => xa (iN_inj (Nat.succ.inj k))) (fun k => xb (iN_inj (Nat.succ.inj k)))]
        rcases h.itm x hx with q | ⟨q1, q2, q3⟩
        · exact .inl q
        · refine .inr ⟨q1, q2, fun k c d q => ?_⟩
          by_cases hk : k = e
          · subst hk
            rw [updT_self] at q
            injection q with q
            injection q with q1 q2
            subst q1 q2
            exact ⟨xa, xb⟩
          · rw [updT_ne _ hk] at q; exact q3 k c d q⟩

theorem WI.untie (h : WI n m N seq tt ky v) (e : Nat) : WI n m N seq (updT tt e none) ky v := by
  have key : ∀ k a b, updT tt e none k = some (a, b) → tt k = some (a, b) := fun k a b q => by
    by_cases hk : k = e
    · subst hk; rw [updT_self] at q; cases q
    · rw [updT_ne _ hk] at q; exact q
  refine ⟨h.n1, h.n2, h.m1, h.m2, h.ni, h.nt, fun k a b q => h.ends k a b (key k a b q), fun k a b q => h.val k a b (key k a b q), fun x hx => ?_⟩
  rcases h.itm x hx with q | ⟨q1, q2, q3⟩
  · exact .inl q
  · exact .inr ⟨q1, q2, fun k a b q => q3 k a b (key k a b q)⟩

theorem WI.in64 (h : WI n m N seq tt ky v) (p : Part n seq) {a b : Nat} {l : List Nat} (ha : a < n) (hr : Rd (Ad n seq tt) (iN a + 1) (iN b + 1) l) : Ct.In64 v l ∧ ∀ z, z ∈ l → z ≤ N := by
  have kind := road_kind p h.ends2 hr.wk ⟨a, ha, rfl⟩
  refine ⟨fun z hz => ?_, fun z hz => ?_⟩
  · rcases kind z hz with ⟨x, hx, q⟩ | ⟨e, ⟨c, d, h1⟩, q⟩
    · rw [q]
      rcases h.itm x hx with k | ⟨k, _⟩ <;> omega
    · rw [q]
      have := h.val e c d h1
      omega
  · rcases kind z hz with ⟨x, hx, q⟩ | ⟨e, ⟨c, d, h1⟩, q⟩
    · have := h.ni x hx; omega
    · have := h.nt e (h.ends e c d h1).1; omega
end
end Go.Proofs.YtdmkbcbgjdmgdaaGreatDoor

namespace Go.Proofs.YtdmkbcbgjdmgdaaGreatDoor
open Go.RowKit
set_option linter.unusedVariables false

/-- A Web that was made since w: its faces (as cycles), its ties and their keys. -/
def WQ (lo : Nat) (w : World) (wb n m : Nat) (sq : Nat → List Nat) (tt : Nat → Option (Nat × Nat)) (ky : Nat → Int) (wr : World) : Prop :=
  ∃ seq, Rq seq sq ∧ Part n sq ∧ WS lo w wb n m seq tt ky wr

/-- Linked. -/
def Lkd (n : Nat) (sq : Nat → List Nat) (tt : Nat → Option (Nat × Nat)) (a b : Nat) : Prop := Cn (Ad n sq tt) (iN a + 1) (iN b + 1)

theorem Lkd.refl {n : Nat} {sq : Nat → List Nat} {tt : Nat → Option (Nat × Nat)} (a : Nat) : Lkd n sq tt a a := Cn.refl (by omega)
theorem Lkd.symm {n : Nat} {sq : Nat → List Nat} {tt : Nat → Option (Nat × Nat)} {a b : Nat} (h : Lkd n sq tt a b) : Lkd n sq tt b a := Cn.symm (fun _ _ h => Ad.symm h) h

section
variable {lo wb n m : Nat} {w w0 w' : World} {sq : Nat → List Nat} {tt : Nat → Option (Nat × Nat)} {ky : Nat → Int}

theorem WQ.more (h : WQ lo w wb n m sq tt ky w0) (hb : Below w0.heap.size w0 w') : WQ lo w wb n m sq tt ky w' := by
  obtain ⟨seq, h1, h2, h3⟩ := h
  exact ⟨seq, h1, h2, h3.more hb⟩
theorem WQ.alloc (h : WQ lo w wb n m sq tt ky w0) (o : Obj) : WQ lo w wb n m sq tt ky (w0.alloc o) := h.more ((Below.refl _ _).alloc (Nat.le_refl _) o)
theorem WQ.drew (h : WQ lo w wb n m sq tt ky w0) : WQ lo w wb n m sq tt ky w0.drew := h.more (Below.refl _ _).drew
theorem WQ.below (h : WQ lo w wb n m sq tt ky w0) : Below lo w w0 := by obtain ⟨seq, h1, h2, h3⟩ := h; exact h3.below
theorem WQ.part (h : WQ lo w wb n m sq tt ky w0) : Part n sq := by obtain ⟨seq, h1, h2, h3⟩ := h; exact h2
theorem WQ.ends (h : WQ lo w wb n m sq tt ky w0) : ∀ e a b, tt e = some (a, b) → e < m ∧ a < n ∧ b < n ∧ a ≠ b := by
  obtain ⟨seq, h1, h2, rb, fb, cb, N, vz, v, h3, h4⟩ := h
  exact h4.ends
theorem WQ.keys (h : WQ lo w wb n m sq tt ky w0) : ∀ e a b, tt e = some (a, b) → -9223372036854775808 ≤ ky e ∧ ky e < 9223372036854775807 := by
  obtain ⟨seq, h1, h2, rb, fb, cb, N, vz, v, h3, h4⟩ := h
  exact fun e a b q => (h4.val e a b q).2
theorem WQ.bounds (h : WQ lo w wb n m sq tt ky w0) : 1 ≤ n ∧ n ≤ 4194304 ∧ 1 ≤ m ∧ m ≤ 1048576 := by
  obtain ⟨seq, h1, h2, rb, fb, cb, N, vz, v, h3, h4⟩ := h
  exact ⟨h4.n1, h4.n2, h4.m1, h4.m2⟩

/-- Linked, by roads of ties. -/
theorem WQ.lkd_iff (h : WQ lo w wb n m sq tt ky w0) {fi : Nat → Nat} (hl : Lb n sq fi) {a b : Nat} (ha : a < n) (hb : b < n) : Lkd n sq tt a b ↔ ∃ r ls, FR fi (eA tt) (eB tt) (Td tt) (fi a) (fi b) r ls := by
  obtain ⟨seq, h1, h2, h3⟩ := h
  obtain ⟨rb, fb, cb, N, vz, v, h4, h5⟩ := h3
  rw [← linked_iff h4.part h4.ct.wood h5.ends2 (hl.rq h1) ha hb]
  exact (rq_cn h4.part h2 h1).symm

theorem WQ.uniq (h : WQ lo w wb n m sq tt ky w0) {fi : Nat → Nat} (hl : Lb n sq fi) {a b : Nat} (ha : a < n) (hb : b < n) {r ls r' ls' : List Nat} (k : FR fi (eA tt) (eB tt) (Td tt) (fi a) (fi b) r ls) (hn : ls.Nodup) (k' : FR fi (eA tt) (eB tt) (Td tt) (fi a) (fi b) r' ls') (hn' : ls'.Nodup) : r = r' := by
  obtain ⟨seq, h1, h2, h3⟩ := h
  obtain ⟨rb, fb, cb, N, vz, v, h4, h5⟩ := h3
  exact road_uniq h4.part h4.ct.wood h5.ends2 (hl.rq h1) ha hb k hn k' hn'

theorem WQ.new (n m : Nat) (w : World) (hn1 : 1 ≤ n) (hn : n ≤ 4194304) (hm1 : 1 ≤ m) (hm : m ≤ 1048576) (ky : Nat → Int) :
    Calls Tryz.prog 8 #[.int .i64 (n : Int), .int .i64 (m : Int)] w fun e w' => ∃ wb, e = .returned (.tuple #[.pointer (some ⟨wb, 0, none⟩), .nilIface]) ∧ WQ w.heap.size w wb n m one (fun _ => none) ky w' := by
  refine (wnew_ok n m w hn1 hn hm1 hm ky).mono ?_
  rintro e w' ⟨wb, rfl, h⟩
  exact ⟨wb, rfl, one, Rq.refl _, h.part, h⟩

theorem WQ.linked (h : WQ lo w wb n m sq tt ky w0) (a b : Nat) (ha : a < n) (hb : b < n) (B : Bool) (hB : B = true ↔ Lkd n sq tt a b) :
    Calls Tryz.prog 16 #[.pointer (some ⟨wb, 0, none⟩), .int .i64 (a : Int), .int .i64 (b : Int)] w0 fun e w' => e = .returned (.tuple #[.bool B, .nilIface]) ∧ WQ lo w wb n m sq tt ky w' ∧ KeepW w0 w' := by
  obtain ⟨seq, h1, h2, rb, fb, cb, N, vz, v, h4, h5⟩ := h
  refine (h4.linked h5.n2 h5.ni a b ha hb B (hB.trans (rq_cn h4.part h2 h1).symm)).mono ?_
  rintro e w' ⟨rfl, g, k⟩
  exact ⟨rfl, ⟨seq, h1, h2, rb, fb, cb, N, vz, v, g, h5⟩, k⟩

theorem WQ.linked_bad (h : WQ lo w wb n m sq tt ky w0) (a b : Int) (hx : ¬ ((0 ≤ a ∧ a < (n : Int)) ∧ (0 ≤ b ∧ b < (n : Int)))) :
    Calls Tryz.prog 16 #[.pointer (some ⟨wb, 0, none⟩), .int .i64 a, .int .i64 b] w0 fun e w' => e = .returned (.tuple #[.bool false, .iface 63 (.int .i64 12)]) ∧ WQ lo w wb n m sq tt ky w' ∧ KeepW w0 w' := by
  obtain ⟨seq, h1, h2, rb, fb, cb, N, vz, v, h4, h5⟩ := h
  refine (h4.linked_bad a b hx).mono ?_
  rintro e w' ⟨rfl, g, k⟩
  exact ⟨rfl, ⟨seq, h1, h2, rb, fb, cb, N, vz, v, g, h5⟩, k⟩

/-- What 'Weakest' tells: with whatever labels. -/
def WkP (n : Nat) (sq : Nat → List Nat) (tt : Nat → Option (Nat × Nat)) (ky : Nat → Int) (a b : Nat) (z : Int) : Prop :=
  ∀ fi, Lb n sq fi → ∃ r ls, FR fi (eA tt) (eB tt) (Td tt) (fi a) (fi b) r ls ∧ ls.Nodup ∧ WkE ky r z

theorem WQ.weakY (h : WQ lo w wb n m sq tt ky w0) (a b : Nat) (ha : a < n) (hb : b < n) (hl : Lkd n sq tt a b) :
    Calls Tryz.prog 17 #[.pointer (some ⟨wb, 0, none⟩), .int .i64 (a : Int), .int .i64 (b : Int)] w0 fun e w' => ∃ z : Int, WkP n sq tt ky a b z ∧ e = .returned (.tuple #[.int .i64 z, .nilIface]) ∧ WQ lo w wb n m sq tt ky w' ∧ KeepW w0 w' := by
  obtain ⟨seq, h1, h2, rb, fb, cb, N, vz, v, h4, h5⟩ := h
  obtain ⟨l, hr⟩ := ((rq_cn h4.part h2 h1).2 hl).rd
  obtain ⟨q1, q2⟩ := h5.in64 h4.part ha hr
  have hN := h4.ct.n2
  refine (h4.weakY h5.n2 h5.ni hN a b ha hb l hr q1 q2).mono ?_
  rintro e w' ⟨d, hd, rfl, g, k⟩
  refine ⟨tOf d, fun fi hfi => ?_, rfl, ⟨seq, h1, h2, rb, fb, cb, N, vz, v, g, h5⟩, k⟩
  obtain ⟨r, ls, k1⟩ := (linked_iff h4.part h4.ct.wood h5.ends2 (hfi.rq h1) ha hb).1 (cn_rd hr)
  obtain ⟨r', ls', k2, k3⟩ := k1.erase
  exact ⟨r', ls', k2, k3, weak_is h4.part h5.ends2 h5.val h5.itm ha hr (road_ties h4.part h4.ct.wood h5.ends2 (hfi.rq h1) ha hb hr k2 k3) hd _ rfl⟩

theorem WQ.weakN (h : WQ lo w wb n m sq tt ky w0) (a b : Nat) (ha : a < n) (hb : b < n) (hl : ¬ Lkd n sq tt a b) :
    Calls Tryz.prog 17 #[.pointer (some ⟨wb, 0, none⟩), .int .i64 (a : Int), .int .i64 (b : Int)] w0 fun e w' => e = .returned (.tuple #[.int .i64 0, .iface 63 (.int .i64 21)]) ∧ WQ lo w wb n m sq tt ky w' ∧ KeepW w0 w' := by
  obtain ⟨seq, h1, h2, rb, fb, cb, N, vz, v, h4, h5⟩ := h
  refine (h4.weakN h5.n2 h5.ni a b ha hb (fun q => hl ((rq_cn h4.part h2 h1).1 q))).mono ?_
  rintro e w' ⟨rfl, g, k⟩
  exact ⟨rfl, ⟨seq, h1, h2, rb, fb, cb, N, vz, v, g, h5⟩, k⟩

theorem WQ.weak_bad (h : WQ lo w wb n m sq tt ky w0) (a b : Int) (hx : ¬ ((0 ≤ a ∧ a < (n : Int)) ∧ (0 ≤ b ∧ b < (n : Int)))) :
    Calls Tryz.prog 17 #[.pointer (some ⟨wb, 0, none⟩), .int .i64 a, .int .i64 b] w0 fun e w' => e = .returned (.tuple #[.int .i64 0, .iface 63 (.int .i64 12)]) ∧ WQ lo w wb n m sq tt ky w' ∧ KeepW w0 w' := by
  obtain ⟨seq, h1, h2, rb, fb, cb, N, vz, v, h4, h5⟩ := h
  refine (h4.weak_bad a b hx).mono ?_
  rintro e w' ⟨rfl, g, k⟩
  exact ⟨rfl, ⟨seq, h1, h2, rb, fb, cb, N, vz, v, g, h5⟩, k⟩

theorem WQ.walk (h : WQ lo w wb n m sq tt ky w0) (a : Nat) (ha : a < n) :
    Calls Tryz.prog 18 #[.pointer (some ⟨wb, 0, none⟩), .int .i64 (a : Int)] w0 fun e w' => ∃ u, e = .returned (.tuple #[u, .nilIface]) ∧ Rw w' u (rot (sq (a + 1)) (a + 1)) ∧ WQ lo w wb n m sq tt ky w' ∧ KeepW w0 w' := by
  obtain ⟨seq, h1, h2, rb, fb, cb, N, vz, v, h4, h5⟩ := h
  refine (h4.walk a ha).mono ?_
  rintro e w' ⟨u, rfl, hu, g, k⟩
  rw [h1 (a + 1) (by omega)] at hu
  exact ⟨u, rfl, hu, ⟨seq, h1, h2, rb, fb, cb, N, vz, v, g, h5⟩, k⟩

theorem WQ.len (h : WQ lo w wb n m sq tt ky w0) (a : Nat) (ha : a < n) :
    Calls Tryz.prog 38 #[.pointer (some ⟨wb, 0, none⟩), .int .i64 (a : Int)] w0 fun e w' => e = .returned (.tuple #[.int .i64 ((sq (a + 1)).length : Int), .nilIface]) ∧ WQ lo w wb n m sq tt ky w' ∧ KeepW w0 w' := by
  obtain ⟨seq, h1, h2, rb, fb, cb, N, vz, v, h4, h5⟩ := h
  refine (h4.len a ha).mono ?_
  rintro e w' ⟨rfl, g, k⟩
  exact ⟨by rw [h1.len (by omega)], ⟨seq, h1, h2, rb, fb, cb, N, vz, v, g, h5⟩, k⟩

theorem WQ.same (h : WQ lo w wb n m sq tt ky w0) (a b : Nat) (ha : a < n) (hb : b < n) (B : Bool) (hB : B = true ↔ b + 1 ∈ sq (a + 1)) :
    Calls Tryz.prog 15 #[.pointer (some ⟨wb, 0, none⟩), .int .i64 (a : Int), .int .i64 (b : Int)] w0 fun e w' => e = .returned (.tuple #[.bool B, .nilIface]) ∧ WQ lo w wb n m sq tt ky w' ∧ KeepW w0 w' := by
  obtain ⟨seq, h1, h2, rb, fb, cb, N, vz, v, h4, h5⟩ := h
  have hB' : decide (seq (a + 1) = seq (b + 1)) = B := by
    have : seq (a + 1) = seq (b + 1) ↔ B = true := by
      rw [hB, ← h1.mem (show a + 1 ≠ 0 by omega)]
      exact h4.part.one (by omega) (by omega)
    cases B with
    | true => exact decide_eq_true (this.2 rfl)
    | false => exact decide_eq_false (fun q => by have := this.1 q; cases this)
  refine (h4.same a b ha hb B hB').mono ?_
  rintro e w' ⟨rfl, g, k⟩
  exact ⟨rfl, ⟨seq, h1, h2, rb, fb, cb, N, vz, v, g, h5⟩, k⟩

theorem WQ.tied (h : WQ lo w wb n m sq tt ky w0) (e : Nat) :
    Calls Tryz.prog 12 #[.pointer (some ⟨wb, 0, none⟩), .int .i64 (e : Int)] w0 fun x w' => x = .returned (.bool (tt e).isSome) ∧ Below w0.heap.size w0 w' := by
  obtain ⟨seq, h1, h2, rb, fb, cb, N, vz, v, h4, h5⟩ := h
  by_cases he : e < m
  · exact h4.tied h5.m2 e he (fun a b q => (h5.ends e a b q).2.2.2)
  · have : tt e = none := by
      cases hc : tt e with
      | none => rfl
      | some q => obtain ⟨a, b⟩ := q; exact absurd (h5.ends e a b hc).1 he
    rw [this]
    exact h4.tied_bad e (by omega)

theorem WQ.tied_bad (h : WQ lo w wb n m sq tt ky w0) (e : Int) (he : e < 0) :
    Calls Tryz.prog 12 #[.pointer (some ⟨wb, 0, none⟩), .int .i64 e] w0 fun x w' => x = .returned (.bool false) ∧ Below w0.heap.size w0 w' := by
  obtain ⟨seq, h1, h2, rb, fb, cb, N, vz, v, h4, h5⟩ := h
  exact h4.tied_bad e (by omega)

theorem WQ.merge (h : WQ lo w wb n m sq tt ky w0) (a b : Nat) (ha : a < n) (hb : b < n) (hl : ¬ Lkd n sq tt a b) :
    Calls Tryz.prog 21 #[.pointer (some ⟨wb, 0, none⟩), .int .i64 (a : Int), .int .i64 (b : Int)] w0 fun e w' => e = .returned .nilIface ∧ WQ lo w wb n m (mrgS sq (a + 1) (b + 1)) tt ky w' ∧ KeepW w0 w' := by
  obtain ⟨seq, h1, h2, rb, fb, cb, N, vz, v, h4, h5⟩ := h
  have hout : b + 1 ∉ sq (a + 1) := fun q => hl (face_cn h2 ha q)
  refine (h4.merge h5.n2 h5.ni a b ha hb (fun q => hl ((rq_cn h4.part h2 h1).1 q))).mono ?_
  rintro e w' ⟨rfl, g, k⟩
  exact ⟨rfl, ⟨_, rq_merge h1 (by omega) (by omega), part_merge h2 h5.n2 (by omega) (by omega) (by omega) (by omega) hout, rb, fb, cb, N, vz, _, g, h5.merge h4.part a b⟩, k⟩

theorem WQ.merge_same (h : WQ lo w wb n m sq tt ky w0) (a b : Nat) (ha : a < n) (hb : b < n) (hl : Lkd n sq tt a b) :
    Calls Tryz.prog 21 #[.pointer (some ⟨wb, 0, none⟩), .int .i64 (a : Int), .int .i64 (b : Int)] w0 fun e w' => e = .returned (.iface 63 (.int .i64 20)) ∧ WQ lo w wb n m sq tt ky w' ∧ KeepW w0 w' := by
  obtain ⟨seq, h1, h2, rb, fb, cb, N, vz, v, h4, h5⟩ := h
  refine (h4.merge_same h5.n2 h5.ni a b ha hb ((rq_cn h4.part h2 h1).2 hl)).mono ?_
  rintro e w' ⟨rfl, g, k⟩
  exact ⟨rfl, ⟨seq, h1, h2, rb, fb, cb, N, vz, v, g, h5⟩, k⟩

theorem WQ.merge_bad (h : WQ lo w wb n m sq tt ky w0) (a b : Int) (hx : ¬ ((0 ≤ a ∧ a < (n : Int)) ∧ (0 ≤ b ∧ b < (n : Int)))) :
    Calls Tryz.prog 21 #[.pointer (some ⟨wb, 0, none⟩), .int .i64 a, .int .i64 b] w0 fun e w' => e = .returned (.iface 63 (.int .i64 12)) ∧ WQ lo w wb n m sq tt ky w' ∧ KeepW w0 w' := by
  obtain ⟨seq, h1, h2, rb, fb, cb, N, vz, v, h4, h5⟩ := h
  refine (h4.merge_bad a b hx).mono ?_
  rintro e w' ⟨rfl, g, k⟩
  exact ⟨rfl, ⟨seq, h1, h2, rb, fb, cb, N, vz, v, g, h5⟩, k⟩

theorem WQ.split (h : WQ lo w wb n m sq tt ky w0) (a b : Nat) (ha : a < n) (hb : b < n) (hne : a ≠ b) (hin : b + 1 ∈ sq (a + 1)) :
    Calls Tryz.prog 20 #[.pointer (some ⟨wb, 0, none⟩), .int .i64 (a : Int), .int .i64 (b : Int)] w0 fun e w' => e = .returned .nilIface ∧ WQ lo w wb n m (splS sq (a + 1) (b + 1)) tt ky w' ∧ KeepW w0 w' ∧ ¬ Lkd n (splS sq (a + 1) (b + 1)) tt a b := by
  obtain ⟨seq, h1, h2, rb, fb, cb, N, vz, v, h4, h5⟩ := h
  have hin' := (h1.mem (show a + 1 ≠ 0 by omega)).2 hin
  refine (h4.split h5.n2 h5.ni a b ha hb hne hin').mono ?_
  rintro e w' ⟨rfl, g, k, q⟩
  have r1 := rq_split h4.part h2 h1 (show a + 1 ≠ 0 by omega) (show a + 1 ≠ b + 1 by omega) hin'
  have p1 := part_split h2 (show a + 1 ≠ 0 by omega) (show a + 1 ≠ b + 1 by omega) hin
  have p2 := part_split h4.part (show a + 1 ≠ 0 by omega) (show a + 1 ≠ b + 1 by omega) hin'
  exact ⟨rfl, ⟨_, r1, p1, rb, fb, cb, N, vz, _, g, h5.split h4.part (by omega) (by omega) hin'⟩, k, fun j => q ((rq_cn p2 p1 r1).2 j)⟩

theorem WQ.splitN (h : WQ lo w wb n m sq tt ky w0) (a b : Nat) (ha : a < n) (hb : b < n) (E : Int) (hE : (a = b ∧ E = 20) ∨ (b + 1 ∉ sq (a + 1) ∧ E = 21)) :
    Calls Tryz.prog 20 #[.pointer (some ⟨wb, 0, none⟩), .int .i64 (a : Int), .int .i64 (b : Int)] w0 fun e w' => e = .returned (.iface 63 (.int .i64 E)) ∧ WQ lo w wb n m sq tt ky w' ∧ KeepW w0 w' := by
  obtain ⟨seq, h1, h2, rb, fb, cb, N, vz, v, h4, h5⟩ := h
  refine (h4.splitN h5.n2 h5.ni a b ha hb E ?_).mono ?_
  · rcases hE with q | ⟨q1, q2⟩
    · exact .inl q
    · exact .inr ⟨fun k => q1 ((h1.mem (by omega)).1 k), q2⟩
  · rintro e w' ⟨rfl, g, k⟩
    exact ⟨rfl, ⟨_, (rq_turn h4.part (by omega)).trans h1, h2, rb, fb, cb, N, vz, v, g, h5.turn h4.part (by omega)⟩, k⟩

theorem WQ.split_bad (h : WQ lo w wb n m sq tt ky w0) (a b : Int) (hx : ¬ ((0 ≤ a ∧ a < (n : Int)) ∧ (0 ≤ b ∧ b < (n : Int)))) :
    Calls Tryz.prog 20 #[.pointer (some ⟨wb, 0, none⟩), .int .i64 a, .int .i64 b] w0 fun e w' => e = .returned (.iface 63 (.int .i64 12)) ∧ WQ lo w wb n m sq tt ky w' ∧ KeepW w0 w' := by
  obtain ⟨seq, h1, h2, rb, fb, cb, N, vz, v, h4, h5⟩ := h
  refine (h4.split_bad a b hx).mono ?_
  rintro e w' ⟨rfl, g, k⟩
  exact ⟨rfl, ⟨seq, h1, h2, rb, fb, cb, N, vz, v, g, h5⟩, k⟩

theorem WQ.apart (h : WQ lo w wb n m sq tt ky w0) (a : Nat) (ha : a < n) (h2l : 2 ≤ (sq (a + 1)).length) :
    Calls Tryz.prog 22 #[.pointer (some ⟨wb, 0, none⟩), .int .i64 (a : Int)] w0 fun e w' => ∃ d : Nat, (rot (sq (a + 1)) (a + 1))[1]? = some (d + 1) ∧ e = .returned .nilIface ∧ WQ lo w wb n m (splS sq (a + 1) (d + 1)) tt ky w' ∧ KeepW w0 w' := by
  obtain ⟨seq, h1, h2, rb, fb, cb, N, vz, v, h4, h5⟩ := h
  refine (h4.apart h5.n2 h5.ni a ha (by rw [h1.len (by omega)]; exact h2l)).mono ?_
  rintro e w' ⟨d, hd, hdn, had, hin', rfl, g, k⟩
  have hin := (h1.mem (show a + 1 ≠ 0 by omega)).1 hin'
  rw [h1 (a + 1) (by omega)] at hd
  exact ⟨d, hd, rfl, ⟨_, rq_split h4.part h2 h1 (by omega) (by omega) hin', part_split h2 (by omega) (by omega) hin, rb, fb, cb, N, vz, _, g, h5.split h4.part (by omega) (by omega) hin'⟩, k⟩

theorem WQ.apart_alone (h : WQ lo w wb n m sq tt ky w0) (a : Nat) (ha : a < n) (h1l : (sq (a + 1)).length = 1) :
    Calls Tryz.prog 22 #[.pointer (some ⟨wb, 0, none⟩), .int .i64 (a : Int)] w0 fun e w' => e = .returned (.iface 63 (.int .i64 20)) ∧ WQ lo w wb n m sq tt ky w' ∧ KeepW w0 w' := by
  obtain ⟨seq, h1, h2, rb, fb, cb, N, vz, v, h4, h5⟩ := h
  refine (h4.apart_alone h5.n2 h5.ni a ha (by rw [h1.len (by omega)]; exact h1l)).mono ?_
  rintro e w' ⟨rfl, g, k⟩
  exact ⟨rfl, ⟨_, (rq_turn h4.part (by omega)).trans h1, h2, rb, fb, cb, N, vz, v, g, h5.turn h4.part (by omega)⟩, k⟩

theorem WQ.apart_bad (h : WQ lo w wb n m sq tt ky w0) (a : Int) (hx : ¬ (0 ≤ a ∧ a < (n : Int))) :
    Calls Tryz.prog 22 #[.pointer (some ⟨wb, 0, none⟩), .int .i64 a] w0 fun e w' => e = .returned (.iface 63 (.int .i64 12)) ∧ WQ lo w wb n m sq tt ky w' ∧ KeepW w0 w' := by
  obtain ⟨seq, h1, h2, rb, fb, cb, N, vz, v, h4, h5⟩ := h
  refine (h4.apart_bad a hx).mono ?_
  rintro e w' ⟨rfl, g, k⟩
  exact ⟨rfl, ⟨seq, h1, h2, rb, fb, cb, N, vz, v, g, h5⟩, k⟩

theorem WQ.tie (h : WQ lo w wb n m sq tt ky w0) (e a b : Nat) (key : Int) (he : e < m) (ha : a < n) (hb : b < n) (hk1 : -9223372036854775808 ≤ key) (hk2 : key < 9223372036854775807) (hc : tt e = none) (hl : ¬ Lkd n sq tt a b) :
    Calls Tryz.prog 23 #[.pointer (some ⟨wb, 0, none⟩), .int .i64 (e : Int), .int .i64 (a : Int), .int .i64 (b : Int), .int .i64 key] w0 fun x w' => x = .returned .nilIface ∧ WQ lo w wb n m sq (updT tt e (some (a, b))) (setK ky e key) w' ∧ KeepW w0 w' := by
  obtain ⟨seq, h1, h2, rb, fb, cb, N, vz, v, h4, h5⟩ := h
  have hab : a ≠ b := fun q => hl (by rw [q]; exact Lkd.refl b)
  refine (h4.tie h5.n2 h5.ni h5.nt h5.m2 e he a b ha hb key (by omega) hc (fun q => hl ((rq_cn h4.part h2 h1).1 q))).mono ?_
  rintro x w' ⟨rfl, g, k⟩
  exact ⟨rfl, ⟨seq, h1, h2, rb, fb, cb, N, vz, _, g, h5.tie he ha hb hab hk1 hk2⟩, k⟩

/-- Tie's errors. -/
theorem WQ.tieN (h : WQ lo w wb n m sq tt ky w0) (e a b key : Int) (E : Int) (hE : (¬ ((0 ≤ e ∧ e < (m : Int)) ∧ (0 ≤ a ∧ a < (n : Int)) ∧ 0 ≤ b ∧ b < (n : Int)) ∧ E = 12) ∨ (((0 ≤ e ∧ e < (m : Int)) ∧ (0 ≤ a ∧ a < (n : Int)) ∧ 0 ≤ b ∧ b < (n : Int)) ∧ ((key = 9223372036854775807 ∧ E = 1) ∨ (key ≠ 9223372036854775807 ∧ (Td tt e.toNat ∨ Lkd n sq tt a.toNat b.toNat) ∧ E = 20)))) :
    Calls Tryz.prog 23 #[.pointer (some ⟨wb, 0, none⟩), .int .i64 e, .int .i64 a, .int .i64 b, .int .i64 key] w0 fun x w' => x = .returned (.iface 63 (.int .i64 E)) ∧ WQ lo w wb n m sq tt ky w' ∧ KeepW w0 w' := by
  obtain ⟨seq, h1, h2, rb, fb, cb, N, vz, v, h4, h5⟩ := h
  have fin : ∀ {x : Ending} {w' : World}, x = .returned (.iface 63 (.int .i64 E)) ∧ WX lo w wb n m rb fb cb N vz v seq (Ad n seq tt) tt w' ∧ KeepW w0 w' → x = .returned (.iface 63 (.int .i64 E)) ∧ WQ lo w wb n m sq tt ky w' ∧ KeepW w0 w' := fun {x w'} ⟨q, g, k⟩ => ⟨q, ⟨seq, h1, h2, rb, fb, cb, N, vz, v, g, h5⟩, k⟩
  by_cases he : 0 ≤ e ∧ e < (m : Int)
  · obtain ⟨e', rfl⟩ : ∃ e' : Nat, e = (e' : Int) := ⟨e.toNat, by omega⟩
    have he' : e' < m := by omega
    by_cases hab : (0 ≤ a ∧ a < (n : Int)) ∧ 0 ≤ b ∧ b < (n : Int)
    · obtain ⟨a', rfl⟩ : ∃ a' : Nat, a = (a' : Int) := ⟨a.toNat, by omega⟩
      obtain ⟨b', rfl⟩ : ∃ b' : Nat, b = (b' : Int) := ⟨b.toNat, by omega⟩
      have ha' : a' < n := by omega
      have hb' : b' < n := by omega
      rcases hE with ⟨q, _⟩ | ⟨_, ⟨rfl, rfl⟩ | ⟨hk, hq, rfl⟩⟩
      · exact absurd ⟨he, hab⟩ q
      · exact (h4.tie_key h5.m2 e' he' a' b' ha' hb').mono (fun x w' q => fin q)
      · cases hc : tt e' with
        | none =>
          have hl : Lkd n sq tt a' b' := by
            rcases hq with ⟨x, y, q⟩ | q
            · have q' : tt e' = some (x, y) := q
              rw [hc] at q'; cases q'
            · exact q
          exact (h4.tie_same h5.n2 h5.ni h5.m2 e' he' a' b' ha' hb' key hk hc ((rq_cn h4.part h2 h1).2 hl)).mono (fun x w' q => fin q)
        | some p =>
          obtain ⟨x, y⟩ := p
          exact (h4.tie_tied h5.m2 e' he' a' b' ha' hb' key hk x y hc (h5.ends e' x y hc).2.2.2).mono (fun x w' q => fin q)
    · have : E = 12 := by
        rcases hE with ⟨_, q⟩ | ⟨q, _⟩
        · exact q
        · exact absurd q.2 hab
      subst this
      exact (h4.tie_bad2 h5.m2 e' he' a b key hab).mono (fun x w' q => fin q)
  · have : E = 12 := by
      rcases hE with ⟨_, q⟩ | ⟨q, _⟩
      · exact q
      · exact absurd q.1 he
    subst this
    exact (h4.tie_bad1 e a b key he).mono (fun x w' q => fin q)

theorem WQ.untie (h : WQ lo w wb n m sq tt ky w0) (e a b : Nat) (hc : tt e = some (a, b)) :
    Calls Tryz.prog 24 #[.pointer (some ⟨wb, 0, none⟩), .int .i64 (e : Int)] w0 fun x w' => x = .returned .nilIface ∧ WQ lo w wb n m sq (updT tt e none) ky w' ∧ KeepW w0 w' := by
  obtain ⟨seq, h1, h2, rb, fb, cb, N, vz, v, h4, h5⟩ := h
  obtain ⟨q1, q2, q3, q4⟩ := h5.ends e a b hc
  refine (h4.untie h5.n2 h5.ni h5.nt h5.m2 e q1 a b q2 q3 q4 hc).mono ?_
  rintro x w' ⟨rfl, g, k⟩
  exact ⟨rfl, ⟨seq, h1, h2, rb, fb, cb, N, vz, _, g, h5.untie e⟩, k⟩

theorem WQ.untieN (h : WQ lo w wb n m sq tt ky w0) (e : Nat) (he : e < m) (hc : tt e = none) :
    Calls Tryz.prog 24 #[.pointer (some ⟨wb, 0, none⟩), .int .i64 (e : Int)] w0 fun x w' => x = .returned (.iface 63 (.int .i64 21)) ∧ WQ lo w wb n m sq tt ky w' ∧ KeepW w0 w' := by
  obtain ⟨seq, h1, h2, rb, fb, cb, N, vz, v, h4, h5⟩ := h
  refine (h4.untieN h5.m2 e he hc).mono ?_
  rintro x w' ⟨rfl, g, k⟩
  exact ⟨rfl, ⟨seq, h1, h2, rb, fb, cb, N, vz, _, g, h5⟩, k⟩

theorem WQ.untie_bad (h : WQ lo w wb n m sq tt ky w0) (e : Int) (he : ¬ (0 ≤ e ∧ e < (m : Int))) :
    Calls Tryz.prog 24 #[.pointer (some ⟨wb, 0, none⟩), .int .i64 e] w0 fun x w' => x = .returned (.iface 63 (.int .i64 12)) ∧ WQ lo w wb n m sq tt ky w' ∧ KeepW w0 w' := by
  obtain ⟨seq, h1, h2, rb, fb, cb, N, vz, v, h4, h5⟩ := h
  refine (h4.untie_bad e he).mono ?_
  rintro x w' ⟨rfl, g, k⟩
  exact ⟨rfl, ⟨seq, h1, h2, rb, fb, cb, N, vz, _, g, h5⟩, k⟩
end
end Go.Proofs.YtdmkbcbgjdmgdaaGreatDoor
