/- answer's Decode, walked: kinds of answers without slices. -/
import Derived.Test.YtkopcfpghklbbaaDoorMany20
import Derived.Test.YtkopcfpghklbbaaDoorSure20
namespace Go.Proofs.YtkopcfpghklbbaaDoor
open Go.RowKit
set_option linter.unusedVariables false
set_option linter.unusedSimpArgs false

theorem setRow_below {B : Nat} {a w : World} (h : Below B a w) {g : Nat} (hg : B ≤ g) (cs : Array Value) : Below B a (w.setRow g cs) :=
  h.trans ⟨rfl, rfl, rfl, by simp [World.setRow], fun k hk => setRow_other w g k cs (by omega)⟩

set_option maxRecDepth 100000 in
set_option maxHeartbeats 16000000 in
theorem dec_z (k : Int) (k0 : 0 ≤ k) (k1 : k ≤ 17) (x0 : UInt8) (r : List UInt8) (ad : Option Addr) (n cap : Nat) (hn : (x0 :: r).length = n) (w : World) (hby : Bytes w ad cap (x0 :: r)) (hp : pe20 k (x0.toNat : Int) = pz) :
    Calls Tryd.prog 17 #[.int .i64 k, .slice ad n cap] w fun e w' => dend k ⟨(x0.toNat : Int), [], false, 0, [], 0, 0, 0, 0, 0, []⟩ false r e w' ∧ Below w.heap.size w w' := by
  have hic := hid (iscode_ok k)
  have q1 : decide (0 ≤ k ∧ k ≤ 17) = true := decide_eq_true ⟨k0, k1⟩
  rw [q1] at hic
  have hpo := hid (parts_ok (e := (x0.toNat : Int)) k0 k1)
  rw [hp] at hpo
  have hpb : pb20 k (x0.toNat : Int) = pb20 k (x0.toNat : Int) := rfl
  obtain ⟨PB, hPB⟩ : ∃ PB, pb20 k (x0.toNat : Int) = PB := ⟨_, rfl⟩
  rw [hPB] at hpo
  clear hPB hpb q1 k0 k1 hp
  have hwx : IntKind.i64.wrap (x0.toNat : Int) = (x0.toNat : Int) := by have := x0.toNat_lt; rw [IntKind.wrap_i64]; omega
  have hx256 := x0.toNat_lt
  have hxn : nm20 1 (x0 :: r) = x0.toNat := by
    unfold nm20
    rw [if_pos (by simp)]
    simp [num]
  have hxl : lf20 1 (x0 :: r) = r := by
    unfold lf20
    rw [if_pos (by simp)]
    rfl
  have hxe : er20 1 (x0 :: r) false = false := by
    unfold er20
    rw [if_pos (by simp)]
  obtain ⟨X0, hX0⟩ : ∃ X0, x0.toNat = X0 := ⟨_, rfl⟩
  rw [hX0] at hwx hxn hpo hx256
  replace hpo : Hid (∀ w, Calls Tryd.prog 45 #[.int .i64 k, .int .i64 (X0 : Int)] w fun r w' => r = .returned (.tuple #[.agg #[.int .i64 0, .bool false, .bool false, .bool false, .bool false, .bool false, .bool false, .bool false], .bool PB]) ∧ Below w.heap.size w w') := hpo
  try rw [hX0]
  have b1 := balloc20 w (.cells #[.int .i64 0, .slice none 0 0, .bool false, .int .i64 0, .slice none 0 0, .int .i64 0, .int .i64 0, .int .i64 0, .int .i64 0, .int .i64 0, .slice none 0 0] 34)
  have nR := new_of20 w #[.int .i64 0, .slice none 0 0, .bool false, .int .i64 0, .slice none 0 0, .int .i64 0, .int .i64 0, .int .i64 0, .int .i64 0, .int .i64 0, .slice none 0 0] 34
  obtain ⟨w1, hw1⟩ : ∃ w1, w.alloc (.cells #[.int .i64 0, .slice none 0 0, .bool false, .int .i64 0, .slice none 0 0, .int .i64 0, .int .i64 0, .int .i64 0, .int .i64 0, .int .i64 0, .slice none 0 0] 34) = w1 := ⟨_, rfl⟩
  rw [hw1] at b1 nR
  obtain ⟨R, hR⟩ : ∃ R, w.heap.size = R := ⟨_, rfl⟩
  have hwR : Hid (w.heap.size ≤ R) := by show _ ≤ _; omega
  rw [hR] at nR
  have b2 := balloc20 w1 (.cells #[.slice ad n cap, .bool false] 100)
  have nX := new_of20 w1 #[.slice ad n cap, .bool false] 100
  obtain ⟨w2, hw2⟩ : ∃ w2, w1.alloc (.cells #[.slice ad n cap, .bool false] 100) = w2 := ⟨_, rfl⟩
  rw [hw2] at b2 nX
  obtain ⟨rb, hrb⟩ : ∃ rb, w1.heap.size = rb := ⟨_, rfl⟩
  rw [hrb] at nX
  have hRlt : R < w1.heap.size := (Array.getElem?_eq_some_iff.1 nR).1
  have hwr : Hid (w.heap.size ≤ rb) := by show _ ≤ _; rw [← hrb]; exact b1.size
  have hRr : Hid (¬ R = rb) := by show ¬ _; rw [← hrb]; omega
  have hB := hid (b1.trans (b2.mono b1.size))
  have hX : Hid (Rb w2 rb (x0 :: r) false) := by
    refine ⟨ad, cap, by rw [hn]; exact nX, (hby.below b1).below b2, fun a ea _ => ?_⟩
    have hc := hby.cell a ea 0 (bc x0) (by simp)
    have := World.block_lt_of_cell? w _ hc
    rw [add_block] at this
    rw [← hrb]
    exact Nat.lt_of_lt_of_le this b1.size
  replace nR := hid (kept20 nR b2)
  clear b1 b2 nX hby hn hRlt
  replace hw2 := hid hw2
  replace hrb := hid hrb
  go_enter Tryd.func17, Tryd.ntmps17
  go_wp2_with fail
  try rw [hw1]
  try rw [hR]
  refine (hic.out _).mono ?_
  rintro e wn ⟨rfl, rfl⟩
  go_upto_region 4 with fail
  try rw [hw2.out]
  try rw [hrb.out]
  have hcall := hid (rb_any hX.out 1 (n := 1) rfl (by omega) (by omega))
  rw [hxn, hxl, hxe] at hcall
  clear hw1 hw2 hR hrb hic
  go_wp2_with fail
  refine hcall.out.mono ?_
  rintro e w3 ⟨rfl, hx3, k⟩
  replace hX := hid hx3
  replace nR := hid ((k.block R (Array.getElem?_eq_some_iff.1 nR.out).1 hRr.out).trans nR.out)
  replace hB := hid (hB.out.trans (k.below (B := w.heap.size) (fun q e => by rw [e]; exact hwr.out) hB.out.size))
  have hAgt : rb < w3.heap.size := hX.out.lt
  clear k hx3 hcall
  go_upto_region 5 with fail
  have nA := new_of20 w3 #[.int .i64 (X0 : Int), .slice none 0 0, .bool false, .int .i64 0, .slice none 0 0, .int .i64 0, .int .i64 0, .int .i64 0, .int .i64 0, .int .i64 0, .slice none 0 0] 34
  have bA := balloc20 w3 (.cells #[.int .i64 (X0 : Int), .slice none 0 0, .bool false, .int .i64 0, .slice none 0 0, .int .i64 0, .int .i64 0, .int .i64 0, .int .i64 0, .int .i64 0, .slice none 0 0] 34)
  obtain ⟨w4, hw4⟩ : ∃ w4, w3.alloc (.cells #[.int .i64 (X0 : Int), .slice none 0 0, .bool false, .int .i64 0, .slice none 0 0, .int .i64 0, .int .i64 0, .int .i64 0, .int .i64 0, .int .i64 0, .slice none 0 0] 34) = w4 := ⟨_, rfl⟩
  rw [hw4] at nA bA
  try rw [hw4]
  obtain ⟨Ab, hAb⟩ : ∃ Ab, w3.heap.size = Ab := ⟨_, rfl⟩
  rw [hAb] at nA
  try rw [hAb]
  have hAr : Hid (¬ Ab = rb) := by show ¬ _; omega
  have hRA : Hid (¬ R = Ab) := by show ¬ _; have := (Array.getElem?_eq_some_iff.1 nR.out).1; omega
  have hwA : Hid (w.heap.size ≤ Ab) := by show _ ≤ _; rw [← hAb]; exact hB.out.size
  have hrA : Hid (rb < Ab) := by show _ < _; omega
  replace nA := hid nA
  replace nR := hid (kept20 nR.out bA)
  replace hX := hid (hX.out.more bA)
  replace hB := hid (hB.out.trans (bA.mono hB.out.size))
  clear bA hw4 hAb hAgt
  have a0 := cell_of20 nA.out (j := 0) rfl
  have fa0 := frozen_of (k := 0) nA.out
  have a1 := cell_of20 nA.out (j := 1) rfl
  have fa1 := frozen_of (k := 1) nA.out
  have a2 := cell_of20 nA.out (j := 2) rfl
  have fa2 := frozen_of (k := 2) nA.out
  have a3 := cell_of20 nA.out (j := 3) rfl
  have fa3 := frozen_of (k := 3) nA.out
  have a4 := cell_of20 nA.out (j := 4) rfl
  have fa4 := frozen_of (k := 4) nA.out
  have a5 := cell_of20 nA.out (j := 5) rfl
  have fa5 := frozen_of (k := 5) nA.out
  have a6 := cell_of20 nA.out (j := 6) rfl
  have fa6 := frozen_of (k := 6) nA.out
  have a7 := cell_of20 nA.out (j := 7) rfl
  have fa7 := frozen_of (k := 7) nA.out
  have a8 := cell_of20 nA.out (j := 8) rfl
  have fa8 := frozen_of (k := 8) nA.out
  have a9 := cell_of20 nA.out (j := 9) rfl
  have fa9 := frozen_of (k := 9) nA.out
  have a10 := cell_of20 nA.out (j := 10) rfl
  have fa10 := frozen_of (k := 10) nA.out
  go_wp2_with fail
  refine (hpo.out _).mono ?_
  rintro e w5 ⟨rfl, bn⟩
  clear a0 a1 a2 a3 a4 a5 a6 a7 a8 a9 a10 fa0 fa1 fa2 fa3 fa4 fa5 fa6 fa7 fa8 fa9 fa10
  replace nA := hid (kept20 nA.out bn)
  replace nR := hid (kept20 nR.out bn)
  replace hX := hid (hX.out.more bn)
  replace hB := hid (hB.out.trans (bn.mono hB.out.size))
  have hPgt : Ab < w5.heap.size := (Array.getElem?_eq_some_iff.1 nA.out).1
  clear bn hpo
  go_upto_region 6 with fail
  have nP := new_of20 w5 #[.int .i64 0, .bool false, .bool false, .bool false, .bool false, .bool false, .bool false, .bool false] 67
  have bn := balloc20 w5 (.cells #[.int .i64 0, .bool false, .bool false, .bool false, .bool false, .bool false, .bool false, .bool false] 67)
  obtain ⟨w6, hw6⟩ : ∃ w6, w5.alloc (.cells #[.int .i64 0, .bool false, .bool false, .bool false, .bool false, .bool false, .bool false, .bool false] 67) = w6 := ⟨_, rfl⟩
  rw [hw6] at nP bn
  try rw [hw6]
  obtain ⟨Pb, hPb⟩ : ∃ Pb, w5.heap.size = Pb := ⟨_, rfl⟩
  rw [hPb] at nP
  try rw [hPb]
  have hPr : Hid (¬ Pb = rb) := by show ¬ _; have := hrA.out; omega
  have hPA : Hid (¬ Pb = Ab) := by show ¬ _; omega
  replace nP := hid nP
  replace nA := hid (kept20 nA.out bn)
  replace nR := hid (kept20 nR.out bn)
  replace hX := hid (hX.out.more bn)
  replace hB := hid (hB.out.trans (bn.mono hB.out.size))
  clear bn hw6 hPb hPgt
  have a0 := cell_of20 nA.out (j := 0) rfl
  have fa0 := frozen_of (k := 0) nA.out
  have a1 := cell_of20 nA.out (j := 1) rfl
  have fa1 := frozen_of (k := 1) nA.out
  have a2 := cell_of20 nA.out (j := 2) rfl
  have fa2 := frozen_of (k := 2) nA.out
  have a3 := cell_of20 nA.out (j := 3) rfl
  have fa3 := frozen_of (k := 3) nA.out
  have a4 := cell_of20 nA.out (j := 4) rfl
  have fa4 := frozen_of (k := 4) nA.out
  have a5 := cell_of20 nA.out (j := 5) rfl
  have fa5 := frozen_of (k := 5) nA.out
  have a6 := cell_of20 nA.out (j := 6) rfl
  have fa6 := frozen_of (k := 6) nA.out
  have a7 := cell_of20 nA.out (j := 7) rfl
  have fa7 := frozen_of (k := 7) nA.out
  have a8 := cell_of20 nA.out (j := 8) rfl
  have fa8 := frozen_of (k := 8) nA.out
  have a9 := cell_of20 nA.out (j := 9) rfl
  have fa9 := frozen_of (k := 9) nA.out
  have a10 := cell_of20 nA.out (j := 10) rfl
  have fa10 := frozen_of (k := 10) nA.out
  have p0 := cell_of20 nP.out (j := 0) rfl
  have p1 := cell_of20 nP.out (j := 1) rfl
  have p2 := cell_of20 nP.out (j := 2) rfl
  have p3 := cell_of20 nP.out (j := 3) rfl
  have p4 := cell_of20 nP.out (j := 4) rfl
  have p5 := cell_of20 nP.out (j := 5) rfl
  have p6 := cell_of20 nP.out (j := 6) rfl
  have p7 := cell_of20 nP.out (j := 7) rfl
  go_wp2_with fail
  refine wp_loop_rounds 1 ?_
  rw [rounds_succ]
  go_wp2_with fail
  refine (many0_ok rb 0 false false false false false _).mono ?_
  rintro e wn ⟨rfl, bn⟩
  clear a0 a1 a2 a3 a4 a5 a6 a7 a8 a9 a10 fa0 fa1 fa2 fa3 fa4 fa5 fa6 fa7 fa8 fa9 fa10 p0 p1 p2 p3 p4 p5 p6 p7
  replace nA := hid (kept20 nA.out bn)
  replace nP := hid (kept20 nP.out bn)
  replace nR := hid (kept20 nR.out bn)
  replace hX := hid (hX.out.more bn)
  replace hB := hid (hB.out.trans (bn.mono hB.out.size))
  clear bn
  have a0 := cell_of20 nA.out (j := 0) rfl
  have fa0 := frozen_of (k := 0) nA.out
  have a1 := cell_of20 nA.out (j := 1) rfl
  have fa1 := frozen_of (k := 1) nA.out
  have a2 := cell_of20 nA.out (j := 2) rfl
  have fa2 := frozen_of (k := 2) nA.out
  have a3 := cell_of20 nA.out (j := 3) rfl
  have fa3 := frozen_of (k := 3) nA.out
  have a4 := cell_of20 nA.out (j := 4) rfl
  have fa4 := frozen_of (k := 4) nA.out
  have a5 := cell_of20 nA.out (j := 5) rfl
  have fa5 := frozen_of (k := 5) nA.out
  have a6 := cell_of20 nA.out (j := 6) rfl
  have fa6 := frozen_of (k := 6) nA.out
  have a7 := cell_of20 nA.out (j := 7) rfl
  have fa7 := frozen_of (k := 7) nA.out
  have a8 := cell_of20 nA.out (j := 8) rfl
  have fa8 := frozen_of (k := 8) nA.out
  have a9 := cell_of20 nA.out (j := 9) rfl
  have fa9 := frozen_of (k := 9) nA.out
  have a10 := cell_of20 nA.out (j := 10) rfl
  have fa10 := frozen_of (k := 10) nA.out
  have p0 := cell_of20 nP.out (j := 0) rfl
  have p1 := cell_of20 nP.out (j := 1) rfl
  have p2 := cell_of20 nP.out (j := 2) rfl
  have p3 := cell_of20 nP.out (j := 3) rfl
  have p4 := cell_of20 nP.out (j := 4) rfl
  have p5 := cell_of20 nP.out (j := 5) rfl
  have p6 := cell_of20 nP.out (j := 6) rfl
  have p7 := cell_of20 nP.out (j := 7) rfl
  go_wp2_with fail
  refine (grow0_ok _).mono ?_
  rintro e wn2 ⟨rfl, rfl⟩
  obtain ⟨wq, hwq⟩ : ∃ wq, wn2.setCell ⟨Ab, 4, none⟩ (.slice none 0 0) = wq := ⟨_, rfl⟩
  have hTq : Turned (fun k => k = Ab) wn2 wq := by rw [← hwq]; exact (Turned.refl (fun k => k = Ab) wn2).setCell (p := ⟨Ab, 4, none⟩) rfl _
  have nAq := set_block (k := 4) nA.out (.slice none 0 0)
  rw [hwq] at nAq
  simp only [List.setIfInBounds_toArray, List.set_cons_zero, List.set_cons_succ] at nAq
  go_upto_region 16 with fail
  try rw [hwq]
  clear a0 a1 a2 a3 a4 a5 a6 a7 a8 a9 a10 fa0 fa1 fa2 fa3 fa4 fa5 fa6 fa7 fa8 fa9 fa10 p0 p1 p2 p3 p4 p5 p6 p7
  replace nA := hid nAq
  replace nP := hid ((hTq.block Pb (Array.getElem?_eq_some_iff.1 nP.out).1 hPA.out).trans nP.out)
  replace nR := hid ((hTq.block R (Array.getElem?_eq_some_iff.1 nR.out).1 hRA.out).trans nR.out)
  replace hX := hid (hX.out.keep hTq (fun k hk => by have := hrA.out; omega))
  replace hB := hid (hB.out.trans (hTq.below (B := w.heap.size) (fun q e => by rw [e]; exact hwA.out) hB.out.size))
  clear hTq nAq hwq
  have a0 := cell_of20 nA.out (j := 0) rfl
  have fa0 := frozen_of (k := 0) nA.out
  have a1 := cell_of20 nA.out (j := 1) rfl
  have fa1 := frozen_of (k := 1) nA.out
  have a2 := cell_of20 nA.out (j := 2) rfl
  have fa2 := frozen_of (k := 2) nA.out
  have a3 := cell_of20 nA.out (j := 3) rfl
  have fa3 := frozen_of (k := 3) nA.out
  have a4 := cell_of20 nA.out (j := 4) rfl
  have fa4 := frozen_of (k := 4) nA.out
  have a5 := cell_of20 nA.out (j := 5) rfl
  have fa5 := frozen_of (k := 5) nA.out
  have a6 := cell_of20 nA.out (j := 6) rfl
  have fa6 := frozen_of (k := 6) nA.out
  have a7 := cell_of20 nA.out (j := 7) rfl
  have fa7 := frozen_of (k := 7) nA.out
  have a8 := cell_of20 nA.out (j := 8) rfl
  have fa8 := frozen_of (k := 8) nA.out
  have a9 := cell_of20 nA.out (j := 9) rfl
  have fa9 := frozen_of (k := 9) nA.out
  have a10 := cell_of20 nA.out (j := 10) rfl
  have fa10 := frozen_of (k := 10) nA.out
  have p0 := cell_of20 nP.out (j := 0) rfl
  have p1 := cell_of20 nP.out (j := 1) rfl
  have p2 := cell_of20 nP.out (j := 2) rfl
  have p3 := cell_of20 nP.out (j := 3) rfl
  have p4 := cell_of20 nP.out (j := 4) rfl
  have p5 := cell_of20 nP.out (j := 5) rfl
  have p6 := cell_of20 nP.out (j := 6) rfl
  have p7 := cell_of20 nP.out (j := 7) rfl
  go_wp2_with fail
  refine wp_loop_rounds 1 ?_
  rw [rounds_succ]
  go_wp2_with fail
  have hwn : Wn ⟨(X0 : Int), [], false, 0, [], 0, 0, 0, 0, 0, []⟩ := ⟨fun y hy => by simp at hy, fun y hy => by simp at hy, by simp, by simp⟩
  have hw64 : W64 ⟨(X0 : Int), [], false, 0, [], 0, 0, 0, 0, 0, []⟩ := ⟨by simp, by simp, by simp, by simp, by simp, by dsimp only; omega⟩
  have hch := hid (check_av (k := k) (w := wq) (AV.plain wq ⟨(X0 : Int), [], false, 0, [], 0, 0, 0, 0, 0, []⟩ rfl rfl rfl hwn hw64))
  clear hwn hw64
  refine hch.out.mono ?_
  rintro e w7 ⟨rfl, bn⟩
  clear a0 a1 a2 a3 a4 a5 a6 a7 a8 a9 a10 fa0 fa1 fa2 fa3 fa4 fa5 fa6 fa7 fa8 fa9 fa10 p0 p1 p2 p3 p4 p5 p6 p7
  replace nA := hid (kept20 nA.out bn)
  replace nR := hid (kept20 nR.out bn)
  replace hX := hid (hX.out.more bn)
  replace hB := hid (hB.out.trans (bn.mono hB.out.size))
  clear bn nP
  by_cases hchk : chk20 k ⟨(X0 : Int), [], false, 0, [], 0, 0, 0, 0, 0, []⟩ = 0
  · obtain ⟨PV, hPV⟩ : ∃ PV, pe20 k (An.err ⟨(X0 : Int), [], false, 0, [], 0, 0, 0, 0, 0, []⟩) = PV := ⟨_, rfl⟩
    have hcr : cres k ⟨(X0 : Int), [], false, 0, [], 0, 0, 0, 0, 0, []⟩ = .tuple #[PV.v, .nilIface] := by
      unfold cres
      rw [hchk, if_pos rfl, hPV]
      rfl
    rw [hcr]
    clear hcr hPV
    go_upto_region 27 with fail
    obtain ⟨w8, hw8⟩ : ∃ w8, w7.alloc (.cells PV.cs 67) = w8 := ⟨_, rfl⟩
    have bn := balloc20 w7 (.cells PV.cs 67)
    rw [hw8] at bn
    try rw [hw8]
    replace nA := hid (kept20 nA.out bn)
    replace nR := hid (kept20 nR.out bn)
    replace hX := hid (hX.out.more bn)
    replace hB := hid (hB.out.trans (bn.mono hB.out.size))
    clear bn hw8
    obtain ⟨ad2, cap2, hbx, _, _⟩ := hX.out
    have x0c := cell_of20 hbx (j := 0) rfl
    have x1c := cell_of20 hbx (j := 1) rfl
    have a0 := cell_of20 nA.out (j := 0) rfl
    have a1 := cell_of20 nA.out (j := 1) rfl
    have a2 := cell_of20 nA.out (j := 2) rfl
    have a3 := cell_of20 nA.out (j := 3) rfl
    have a4 := cell_of20 nA.out (j := 4) rfl
    have a5 := cell_of20 nA.out (j := 5) rfl
    have a6 := cell_of20 nA.out (j := 6) rfl
    have a7 := cell_of20 nA.out (j := 7) rfl
    have a8 := cell_of20 nA.out (j := 8) rfl
    have a9 := cell_of20 nA.out (j := 9) rfl
    have a10 := cell_of20 nA.out (j := 10) rfl
    obtain ⟨Q, hQ⟩ : ∃ Q, false = Q := ⟨_, rfl⟩
    obtain ⟨M, hM⟩ : ∃ M, (r).length = M := ⟨_, rfl⟩
    rw [hQ] at x1c hbx
    rw [hM] at x0c hbx
    clear hbx hX
    replace hQ := hid hQ
    replace hM := hid hM
    replace hchk := hid hchk
    cases Q with
    | true =>
      have hno : Hid (¬ (chk20 k ⟨(X0 : Int), [], false, 0, [], 0, 0, 0, 0, 0, []⟩ = 0 ∧ false = false ∧ r = [])) := fun h => by
        have h2 := hQ.out
        rw [h.2.1] at h2
        cases h2
      have hfin := hid (setRow_heap w8 R _ #[.int .i64 0, .slice none 0 0, .bool false, .int .i64 0, .slice none 0 0, .int .i64 0, .int .i64 0, .int .i64 0, .int .i64 0, .int .i64 0, .slice none 0 0] _ _ nR.out)
      have hbz := hid (setRow_below hB.out (g := R) hwR.out #[.int .i64 0, .slice none 0 0, .bool false, .int .i64 0, .slice none 0 0, .int .i64 0, .int .i64 0, .int .i64 0, .int .i64 0, .int .i64 0, .slice none 0 0])
      go_upto_region 28 with fail
      repeat (first | (refine wpList_store_row rfl 34 (.tmp 4) (.tmp 98) rfl R #[.int .i64 0, .slice none 0 0, .bool false, .int .i64 0, .slice none 0 0, .int .i64 0, .int .i64 0, .int .i64 0, .int .i64 0, .int .i64 0, .slice none 0 0] rfl rfl 34 _ nR.out (by kernel_rfl) rfl (by simp [Value.oneCell']) ?_) | go_step)
      refine bodyPost_ret (results_cell2 rfl _ _ R 34 _ (0, 0) _ rfl hfin.out Tryd.underlying34 rfl (by kernel_rfl)) rfl ?_
      exact ⟨.inr ⟨hno.out, rfl⟩, hbz.out⟩
    | false =>
      by_cases hM0 : M = 0
      · subst hM0
        have hq : Hid (false = false) := hQ.out
        have hL : Hid (r = []) := List.eq_nil_of_length_eq_zero hM.out
        have hfin := hid (setRow_heap w8 R _ #[.int .i64 (X0 : Int), .slice none 0 0, .bool false, .int .i64 0, .slice none 0 0, .int .i64 0, .int .i64 0, .int .i64 0, .int .i64 0, .int .i64 0, .slice none 0 0] _ _ nR.out)
        have hbz := hid (setRow_below hB.out (g := R) hwR.out #[.int .i64 (X0 : Int), .slice none 0 0, .bool false, .int .i64 0, .slice none 0 0, .int .i64 0, .int .i64 0, .int .i64 0, .int .i64 0, .int .i64 0, .slice none 0 0])
        go_upto_region 29 with fail
        repeat (first | (refine wpList_store_row rfl 34 (.tmp 4) (.tmp 100) rfl R #[.int .i64 (X0 : Int), .slice none 0 0, .bool false, .int .i64 0, .slice none 0 0, .int .i64 0, .int .i64 0, .int .i64 0, .int .i64 0, .int .i64 0, .slice none 0 0] rfl rfl 34 _ nR.out (by kernel_rfl) rfl (by simp [Value.oneCell']) ?_) | go_step)
        refine bodyPost_ret (results_cell2 rfl _ _ R 34 _ (0, 0) _ rfl hfin.out Tryd.underlying34 rfl (by kernel_rfl)) rfl ?_
        exact ⟨.inl ⟨hchk.out, hq.out, hL.out, none, 0, 0, none, 0, 0, none, 0, 0, rfl, HV.nil _, DV.nil _, rfl, Bytes.none _⟩, hbz.out⟩
      · have hMp : (0 : Int) < (M : Int) := by omega
        have hno : Hid (¬ (chk20 k ⟨(X0 : Int), [], false, 0, [], 0, 0, 0, 0, 0, []⟩ = 0 ∧ false = false ∧ r = [])) := fun h => by
          have h2 := h.2.2
          have h3 := hM.out
          rw [h2] at h3
          simp at h3
          omega
        have hfin := hid (setRow_heap w8 R _ #[.int .i64 0, .slice none 0 0, .bool false, .int .i64 0, .slice none 0 0, .int .i64 0, .int .i64 0, .int .i64 0, .int .i64 0, .int .i64 0, .slice none 0 0] _ _ nR.out)
        have hbz := hid (setRow_below hB.out (g := R) hwR.out #[.int .i64 0, .slice none 0 0, .bool false, .int .i64 0, .slice none 0 0, .int .i64 0, .int .i64 0, .int .i64 0, .int .i64 0, .int .i64 0, .slice none 0 0])
        go_upto_region 28 with fail
        repeat (first | (refine wpList_store_row rfl 34 (.tmp 4) (.tmp 98) rfl R #[.int .i64 0, .slice none 0 0, .bool false, .int .i64 0, .slice none 0 0, .int .i64 0, .int .i64 0, .int .i64 0, .int .i64 0, .int .i64 0, .slice none 0 0] rfl rfl 34 _ nR.out (by kernel_rfl) rfl (by simp [Value.oneCell']) ?_) | go_step)
        refine bodyPost_ret (results_cell2 rfl _ _ R 34 _ (0, 0) _ rfl hfin.out Tryd.underlying34 rfl (by kernel_rfl)) rfl ?_
        exact ⟨.inr ⟨hno.out, rfl⟩, hbz.out⟩
  · have hcr : cres k ⟨(X0 : Int), [], false, 0, [], 0, 0, 0, 0, 0, []⟩ = .tuple #[.agg zcs, .iface 93 (.int .i64 (chk20 k ⟨(X0 : Int), [], false, 0, [], 0, 0, 0, 0, 0, []⟩))] := by
      unfold cres
      rw [if_neg hchk]
      unfold erv
      rw [if_neg hchk]
      rfl
    rw [hcr]
    have hno : Hid (¬ (chk20 k ⟨(X0 : Int), [], false, 0, [], 0, 0, 0, 0, 0, []⟩ = 0 ∧ false = false ∧ r = [])) := fun h => hchk h.1
    obtain ⟨CE, hCE⟩ : ∃ CE, chk20 k ⟨(X0 : Int), [], false, 0, [], 0, 0, 0, 0, 0, []⟩ = CE := ⟨_, rfl⟩
    try rw [hCE]
    clear hcr
    go_upto_region 27 with fail
    obtain ⟨w8, hw8⟩ : ∃ w8, w7.alloc (.cells zcs 67) = w8 := ⟨_, rfl⟩
    have bn := balloc20 w7 (.cells zcs 67)
    rw [hw8] at bn
    try rw [hw8]
    replace nR := hid (kept20 nR.out bn)
    replace hB := hid (hB.out.trans (bn.mono hB.out.size))
    clear bn hw8
    have hfin := hid (setRow_heap w8 R _ #[.int .i64 0, .slice none 0 0, .bool false, .int .i64 0, .slice none 0 0, .int .i64 0, .int .i64 0, .int .i64 0, .int .i64 0, .int .i64 0, .slice none 0 0] _ _ nR.out)
    have hbz := hid (setRow_below hB.out (g := R) hwR.out #[.int .i64 0, .slice none 0 0, .bool false, .int .i64 0, .slice none 0 0, .int .i64 0, .int .i64 0, .int .i64 0, .int .i64 0, .int .i64 0, .slice none 0 0])
    go_upto_region 28 with fail
    repeat (first | (refine wpList_store_row rfl 34 (.tmp 4) (.tmp 98) rfl R #[.int .i64 0, .slice none 0 0, .bool false, .int .i64 0, .slice none 0 0, .int .i64 0, .int .i64 0, .int .i64 0, .int .i64 0, .int .i64 0, .slice none 0 0] rfl rfl 34 _ nR.out (by kernel_rfl) rfl (by simp [Value.oneCell']) ?_) | go_step)
    refine bodyPost_ret (results_cell2 rfl _ _ R 34 _ (0, 0) _ rfl hfin.out Tryd.underlying34 rfl (by kernel_rfl)) rfl ?_
    exact ⟨.inr ⟨fun h => hchk h.1, rfl⟩, hbz.out⟩

set_option maxRecDepth 100000 in
set_option maxHeartbeats 16000000 in
theorem dec_i (k : Int) (k0 : 0 ≤ k) (k1 : k ≤ 17) (x0 : UInt8) (r : List UInt8) (ad : Option Addr) (n cap : Nat) (hn : (x0 :: r).length = n) (w : World) (hby : Bytes w ad cap (x0 :: r)) (hp : pe20 k (x0.toNat : Int) = { pz with i := true }) :
    Calls Tryd.prog 17 #[.int .i64 k, .slice ad n cap] w fun e w' => dend k ⟨(x0.toNat : Int), [], decide (nm20 1 r = 1), 0, [], 0, 0, 0, 0, 0, []⟩ (er20 1 r false || decide (1 < nm20 1 r)) (lf20 1 r) e w' ∧ Below w.heap.size w w' := by
  have hic := hid (iscode_ok k)
  have q1 : decide (0 ≤ k ∧ k ≤ 17) = true := decide_eq_true ⟨k0, k1⟩
  rw [q1] at hic
  have hpo := hid (parts_ok (e := (x0.toNat : Int)) k0 k1)
  rw [hp] at hpo
  have hpb : pb20 k (x0.toNat : Int) = pb20 k (x0.toNat : Int) := rfl
  obtain ⟨PB, hPB⟩ : ∃ PB, pb20 k (x0.toNat : Int) = PB := ⟨_, rfl⟩
  rw [hPB] at hpo
  clear hPB hpb q1 k0 k1 hp
  have hwx : IntKind.i64.wrap (x0.toNat : Int) = (x0.toNat : Int) := by have := x0.toNat_lt; rw [IntKind.wrap_i64]; omega
  have hx256 := x0.toNat_lt
  have hxn : nm20 1 (x0 :: r) = x0.toNat := by
    unfold nm20
    rw [if_pos (by simp)]
    simp [num]
  have hxl : lf20 1 (x0 :: r) = r := by
    unfold lf20
    rw [if_pos (by simp)]
    rfl
  have hxe : er20 1 (x0 :: r) false = false := by
    unfold er20
    rw [if_pos (by simp)]
  obtain ⟨X0, hX0⟩ : ∃ X0, x0.toNat = X0 := ⟨_, rfl⟩
  rw [hX0] at hwx hxn hpo hx256
  replace hpo : Hid (∀ w, Calls Tryd.prog 45 #[.int .i64 k, .int .i64 (X0 : Int)] w fun r w' => r = .returned (.tuple #[.agg #[.int .i64 0, .bool false, .bool false, .bool true, .bool false, .bool false, .bool false, .bool false], .bool PB]) ∧ Below w.heap.size w w') := hpo
  try rw [hX0]
  have b1 := balloc20 w (.cells #[.int .i64 0, .slice none 0 0, .bool false, .int .i64 0, .slice none 0 0, .int .i64 0, .int .i64 0, .int .i64 0, .int .i64 0, .int .i64 0, .slice none 0 0] 34)
  have nR := new_of20 w #[.int .i64 0, .slice none 0 0, .bool false, .int .i64 0, .slice none 0 0, .int .i64 0, .int .i64 0, .int .i64 0, .int .i64 0, .int .i64 0, .slice none 0 0] 34
  obtain ⟨w1, hw1⟩ : ∃ w1, w.alloc (.cells #[.int .i64 0, .slice none 0 0, .bool false, .int .i64 0, .slice none 0 0, .int .i64 0, .int .i64 0, .int .i64 0, .int .i64 0, .int .i64 0, .slice none 0 0] 34) = w1 := ⟨_, rfl⟩
  rw [hw1] at b1 nR
  obtain ⟨R, hR⟩ : ∃ R, w.heap.size = R := ⟨_, rfl⟩
  have hwR : Hid (w.heap.size ≤ R) := by show _ ≤ _; omega
  rw [hR] at nR
  have b2 := balloc20 w1 (.cells #[.slice ad n cap, .bool false] 100)
  have nX := new_of20 w1 #[.slice ad n cap, .bool false] 100
  obtain ⟨w2, hw2⟩ : ∃ w2, w1.alloc (.cells #[.slice ad n cap, .bool false] 100) = w2 := ⟨_, rfl⟩
  rw [hw2] at b2 nX
  obtain ⟨rb, hrb⟩ : ∃ rb, w1.heap.size = rb := ⟨_, rfl⟩
  rw [hrb] at nX
  have hRlt : R < w1.heap.size := (Array.getElem?_eq_some_iff.1 nR).1
  have hwr : Hid (w.heap.size ≤ rb) := by show _ ≤ _; rw [← hrb]; exact b1.size
  have hRr : Hid (¬ R = rb) := by show ¬ _; rw [← hrb]; omega
  have hB := hid (b1.trans (b2.mono b1.size))
  have hX : Hid (Rb w2 rb (x0 :: r) false) := by
    refine ⟨ad, cap, by rw [hn]; exact nX, (hby.below b1).below b2, fun a ea _ => ?_⟩
    have hc := hby.cell a ea 0 (bc x0) (by simp)
    have := World.block_lt_of_cell? w _ hc
    rw [add_block] at this
    rw [← hrb]
    exact Nat.lt_of_lt_of_le this b1.size
  replace nR := hid (kept20 nR b2)
  clear b1 b2 nX hby hn hRlt
  replace hw2 := hid hw2
  replace hrb := hid hrb
  go_enter Tryd.func17, Tryd.ntmps17
  go_wp2_with fail
  try rw [hw1]
  try rw [hR]
  refine (hic.out _).mono ?_
  rintro e wn ⟨rfl, rfl⟩
  go_upto_region 4 with fail
  try rw [hw2.out]
  try rw [hrb.out]
  have hcall := hid (rb_any hX.out 1 (n := 1) rfl (by omega) (by omega))
  rw [hxn, hxl, hxe] at hcall
  clear hw1 hw2 hR hrb hic
  go_wp2_with fail
  refine hcall.out.mono ?_
  rintro e w3 ⟨rfl, hx3, k⟩
  replace hX := hid hx3
  replace nR := hid ((k.block R (Array.getElem?_eq_some_iff.1 nR.out).1 hRr.out).trans nR.out)
  replace hB := hid (hB.out.trans (k.below (B := w.heap.size) (fun q e => by rw [e]; exact hwr.out) hB.out.size))
  have hAgt : rb < w3.heap.size := hX.out.lt
  clear k hx3 hcall
  go_upto_region 5 with fail
  have nA := new_of20 w3 #[.int .i64 (X0 : Int), .slice none 0 0, .bool false, .int .i64 0, .slice none 0 0, .int .i64 0, .int .i64 0, .int .i64 0, .int .i64 0, .int .i64 0, .slice none 0 0] 34
  have bA := balloc20 w3 (.cells #[.int .i64 (X0 : Int), .slice none 0 0, .bool false, .int .i64 0, .slice none 0 0, .int .i64 0, .int .i64 0, .int .i64 0, .int .i64 0, .int .i64 0, .slice none 0 0] 34)
  obtain ⟨w4, hw4⟩ : ∃ w4, w3.alloc (.cells #[.int .i64 (X0 : Int), .slice none 0 0, .bool false, .int .i64 0, .slice none 0 0, .int .i64 0, .int .i64 0, .int .i64 0, .int .i64 0, .int .i64 0, .slice none 0 0] 34) = w4 := ⟨_, rfl⟩
  rw [hw4] at nA bA
  try rw [hw4]
  obtain ⟨Ab, hAb⟩ : ∃ Ab, w3.heap.size = Ab := ⟨_, rfl⟩
  rw [hAb] at nA
  try rw [hAb]
  have hAr : Hid (¬ Ab = rb) := by show ¬ _; omega
  have hRA : Hid (¬ R = Ab) := by show ¬ _; have := (Array.getElem?_eq_some_iff.1 nR.out).1; omega
  have hwA : Hid (w.heap.size ≤ Ab) := by show _ ≤ _; rw [← hAb]; exact hB.out.size
  have hrA : Hid (rb < Ab) := by show _ < _; omega
  replace nA := hid nA
  replace nR := hid (kept20 nR.out bA)
  replace hX := hid (hX.out.more bA)
  replace hB := hid (hB.out.trans (bA.mono hB.out.size))
  clear bA hw4 hAb hAgt
  have a0 := cell_of20 nA.out (j := 0) rfl
  have fa0 := frozen_of (k := 0) nA.out
  have a1 := cell_of20 nA.out (j := 1) rfl
  have fa1 := frozen_of (k := 1) nA.out
  have a2 := cell_of20 nA.out (j := 2) rfl
  have fa2 := frozen_of (k := 2) nA.out
  have a3 := cell_of20 nA.out (j := 3) rfl
  have fa3 := frozen_of (k := 3) nA.out
  have a4 := cell_of20 nA.out (j := 4) rfl
  have fa4 := frozen_of (k := 4) nA.out
  have a5 := cell_of20 nA.out (j := 5) rfl
  have fa5 := frozen_of (k := 5) nA.out
  have a6 := cell_of20 nA.out (j := 6) rfl
  have fa6 := frozen_of (k := 6) nA.out
  have a7 := cell_of20 nA.out (j := 7) rfl
  have fa7 := frozen_of (k := 7) nA.out
  have a8 := cell_of20 nA.out (j := 8) rfl
  have fa8 := frozen_of (k := 8) nA.out
  have a9 := cell_of20 nA.out (j := 9) rfl
  have fa9 := frozen_of (k := 9) nA.out
  have a10 := cell_of20 nA.out (j := 10) rfl
  have fa10 := frozen_of (k := 10) nA.out
  go_wp2_with fail
  refine (hpo.out _).mono ?_
  rintro e w5 ⟨rfl, bn⟩
  clear a0 a1 a2 a3 a4 a5 a6 a7 a8 a9 a10 fa0 fa1 fa2 fa3 fa4 fa5 fa6 fa7 fa8 fa9 fa10
  replace nA := hid (kept20 nA.out bn)
  replace nR := hid (kept20 nR.out bn)
  replace hX := hid (hX.out.more bn)
  replace hB := hid (hB.out.trans (bn.mono hB.out.size))
  have hPgt : Ab < w5.heap.size := (Array.getElem?_eq_some_iff.1 nA.out).1
  clear bn hpo
  go_upto_region 6 with fail
  have nP := new_of20 w5 #[.int .i64 0, .bool false, .bool false, .bool true, .bool false, .bool false, .bool false, .bool false] 67
  have bn := balloc20 w5 (.cells #[.int .i64 0, .bool false, .bool false, .bool true, .bool false, .bool false, .bool false, .bool false] 67)
  obtain ⟨w6, hw6⟩ : ∃ w6, w5.alloc (.cells #[.int .i64 0, .bool false, .bool false, .bool true, .bool false, .bool false, .bool false, .bool false] 67) = w6 := ⟨_, rfl⟩
  rw [hw6] at nP bn
  try rw [hw6]
  obtain ⟨Pb, hPb⟩ : ∃ Pb, w5.heap.size = Pb := ⟨_, rfl⟩
  rw [hPb] at nP
  try rw [hPb]
  have hPr : Hid (¬ Pb = rb) := by show ¬ _; have := hrA.out; omega
  have hPA : Hid (¬ Pb = Ab) := by show ¬ _; omega
  replace nP := hid nP
  replace nA := hid (kept20 nA.out bn)
  replace nR := hid (kept20 nR.out bn)
  replace hX := hid (hX.out.more bn)
  replace hB := hid (hB.out.trans (bn.mono hB.out.size))
  clear bn hw6 hPb hPgt
  have a0 := cell_of20 nA.out (j := 0) rfl
  have fa0 := frozen_of (k := 0) nA.out
  have a1 := cell_of20 nA.out (j := 1) rfl
  have fa1 := frozen_of (k := 1) nA.out
  have a2 := cell_of20 nA.out (j := 2) rfl
  have fa2 := frozen_of (k := 2) nA.out
  have a3 := cell_of20 nA.out (j := 3) rfl
  have fa3 := frozen_of (k := 3) nA.out
  have a4 := cell_of20 nA.out (j := 4) rfl
  have fa4 := frozen_of (k := 4) nA.out
  have a5 := cell_of20 nA.out (j := 5) rfl
  have fa5 := frozen_of (k := 5) nA.out
  have a6 := cell_of20 nA.out (j := 6) rfl
  have fa6 := frozen_of (k := 6) nA.out
  have a7 := cell_of20 nA.out (j := 7) rfl
  have fa7 := frozen_of (k := 7) nA.out
  have a8 := cell_of20 nA.out (j := 8) rfl
  have fa8 := frozen_of (k := 8) nA.out
  have a9 := cell_of20 nA.out (j := 9) rfl
  have fa9 := frozen_of (k := 9) nA.out
  have a10 := cell_of20 nA.out (j := 10) rfl
  have fa10 := frozen_of (k := 10) nA.out
  have p0 := cell_of20 nP.out (j := 0) rfl
  have p1 := cell_of20 nP.out (j := 1) rfl
  have p2 := cell_of20 nP.out (j := 2) rfl
  have p3 := cell_of20 nP.out (j := 3) rfl
  have p4 := cell_of20 nP.out (j := 4) rfl
  have p5 := cell_of20 nP.out (j := 5) rfl
  have p6 := cell_of20 nP.out (j := 6) rfl
  have p7 := cell_of20 nP.out (j := 7) rfl
  go_wp2_with fail
  refine wp_loop_rounds 1 ?_
  rw [rounds_succ]
  go_wp2_with fail
  have hbit := hid (rb_bit hX.out)
  refine hbit.out.mono ?_
  rintro e wn ⟨rfl, hx, k⟩
  replace hX := hid hx
  clear a0 a1 a2 a3 a4 a5 a6 a7 a8 a9 a10 fa0 fa1 fa2 fa3 fa4 fa5 fa6 fa7 fa8 fa9 fa10 p0 p1 p2 p3 p4 p5 p6 p7
  replace nA := hid ((k.block Ab (Array.getElem?_eq_some_iff.1 nA.out).1 hAr.out).trans nA.out)
  replace nP := hid ((k.block Pb (Array.getElem?_eq_some_iff.1 nP.out).1 hPr.out).trans nP.out)
  replace nR := hid ((k.block R (Array.getElem?_eq_some_iff.1 nR.out).1 hRr.out).trans nR.out)
  replace hB := hid (hB.out.trans (k.below (B := w.heap.size) (fun q e => by rw [e]; exact hwr.out) hB.out.size))
  clear k
  have a0 := cell_of20 nA.out (j := 0) rfl
  have fa0 := frozen_of (k := 0) nA.out
  have a1 := cell_of20 nA.out (j := 1) rfl
  have fa1 := frozen_of (k := 1) nA.out
  have a2 := cell_of20 nA.out (j := 2) rfl
  have fa2 := frozen_of (k := 2) nA.out
  have a3 := cell_of20 nA.out (j := 3) rfl
  have fa3 := frozen_of (k := 3) nA.out
  have a4 := cell_of20 nA.out (j := 4) rfl
  have fa4 := frozen_of (k := 4) nA.out
  have a5 := cell_of20 nA.out (j := 5) rfl
  have fa5 := frozen_of (k := 5) nA.out
  have a6 := cell_of20 nA.out (j := 6) rfl
  have fa6 := frozen_of (k := 6) nA.out
  have a7 := cell_of20 nA.out (j := 7) rfl
  have fa7 := frozen_of (k := 7) nA.out
  have a8 := cell_of20 nA.out (j := 8) rfl
  have fa8 := frozen_of (k := 8) nA.out
  have a9 := cell_of20 nA.out (j := 9) rfl
  have fa9 := frozen_of (k := 9) nA.out
  have a10 := cell_of20 nA.out (j := 10) rfl
  have fa10 := frozen_of (k := 10) nA.out
  have p0 := cell_of20 nP.out (j := 0) rfl
  have p1 := cell_of20 nP.out (j := 1) rfl
  have p2 := cell_of20 nP.out (j := 2) rfl
  have p3 := cell_of20 nP.out (j := 3) rfl
  have p4 := cell_of20 nP.out (j := 4) rfl
  have p5 := cell_of20 nP.out (j := 5) rfl
  have p6 := cell_of20 nP.out (j := 6) rfl
  have p7 := cell_of20 nP.out (j := 7) rfl
  obtain ⟨BV, hBV⟩ : ∃ BV, decide (nm20 1 r = 1) = BV := ⟨_, rfl⟩
  try rw [hBV]
  obtain ⟨wq, hwq⟩ : ∃ wq, wn.setCell ⟨Ab, 2, none⟩ (.bool BV) = wq := ⟨_, rfl⟩
  have hTq : Turned (fun k => k = Ab) wn wq := by rw [← hwq]; exact (Turned.refl (fun k => k = Ab) wn).setCell (p := ⟨Ab, 2, none⟩) rfl _
  have nAq := set_block (k := 2) nA.out (.bool BV)
  rw [hwq] at nAq
  simp only [List.setIfInBounds_toArray, List.set_cons_zero, List.set_cons_succ] at nAq
  clear hx hbit
  go_upto_region 12 with fail
  try rw [hwq]
  clear a0 a1 a2 a3 a4 a5 a6 a7 a8 a9 a10 fa0 fa1 fa2 fa3 fa4 fa5 fa6 fa7 fa8 fa9 fa10 p0 p1 p2 p3 p4 p5 p6 p7
  replace nA := hid nAq
  replace nP := hid ((hTq.block Pb (Array.getElem?_eq_some_iff.1 nP.out).1 hPA.out).trans nP.out)
  replace nR := hid ((hTq.block R (Array.getElem?_eq_some_iff.1 nR.out).1 hRA.out).trans nR.out)
  replace hX := hid (hX.out.keep hTq (fun k hk => by have := hrA.out; omega))
  replace hB := hid (hB.out.trans (hTq.below (B := w.heap.size) (fun q e => by rw [e]; exact hwA.out) hB.out.size))
  clear hTq nAq hwq
  rw [← hBV] at nA
  try rw [← hBV]
  clear hBV BV
  have a0 := cell_of20 nA.out (j := 0) rfl
  have fa0 := frozen_of (k := 0) nA.out
  have a1 := cell_of20 nA.out (j := 1) rfl
  have fa1 := frozen_of (k := 1) nA.out
  have a2 := cell_of20 nA.out (j := 2) rfl
  have fa2 := frozen_of (k := 2) nA.out
  have a3 := cell_of20 nA.out (j := 3) rfl
  have fa3 := frozen_of (k := 3) nA.out
  have a4 := cell_of20 nA.out (j := 4) rfl
  have fa4 := frozen_of (k := 4) nA.out
  have a5 := cell_of20 nA.out (j := 5) rfl
  have fa5 := frozen_of (k := 5) nA.out
  have a6 := cell_of20 nA.out (j := 6) rfl
  have fa6 := frozen_of (k := 6) nA.out
  have a7 := cell_of20 nA.out (j := 7) rfl
  have fa7 := frozen_of (k := 7) nA.out
  have a8 := cell_of20 nA.out (j := 8) rfl
  have fa8 := frozen_of (k := 8) nA.out
  have a9 := cell_of20 nA.out (j := 9) rfl
  have fa9 := frozen_of (k := 9) nA.out
  have a10 := cell_of20 nA.out (j := 10) rfl
  have fa10 := frozen_of (k := 10) nA.out
  have p0 := cell_of20 nP.out (j := 0) rfl
  have p1 := cell_of20 nP.out (j := 1) rfl
  have p2 := cell_of20 nP.out (j := 2) rfl
  have p3 := cell_of20 nP.out (j := 3) rfl
  have p4 := cell_of20 nP.out (j := 4) rfl
  have p5 := cell_of20 nP.out (j := 5) rfl
  have p6 := cell_of20 nP.out (j := 6) rfl
  have p7 := cell_of20 nP.out (j := 7) rfl
  go_wp2_with fail
  refine (many0_ok rb 0 true false false false false _).mono ?_
  rintro e wn ⟨rfl, bn⟩
  clear a0 a1 a2 a3 a4 a5 a6 a7 a8 a9 a10 fa0 fa1 fa2 fa3 fa4 fa5 fa6 fa7 fa8 fa9 fa10 p0 p1 p2 p3 p4 p5 p6 p7
  replace nA := hid (kept20 nA.out bn)
  replace nP := hid (kept20 nP.out bn)
  replace nR := hid (kept20 nR.out bn)
  replace hX := hid (hX.out.more bn)
  replace hB := hid (hB.out.trans (bn.mono hB.out.size))
  clear bn
  have a0 := cell_of20 nA.out (j := 0) rfl
  have fa0 := frozen_of (k := 0) nA.out
  have a1 := cell_of20 nA.out (j := 1) rfl
  have fa1 := frozen_of (k := 1) nA.out
  have a2 := cell_of20 nA.out (j := 2) rfl
  have fa2 := frozen_of (k := 2) nA.out
  have a3 := cell_of20 nA.out (j := 3) rfl
  have fa3 := frozen_of (k := 3) nA.out
  have a4 := cell_of20 nA.out (j := 4) rfl
  have fa4 := frozen_of (k := 4) nA.out
  have a5 := cell_of20 nA.out (j := 5) rfl
  have fa5 := frozen_of (k := 5) nA.out
  have a6 := cell_of20 nA.out (j := 6) rfl
  have fa6 := frozen_of (k := 6) nA.out
  have a7 := cell_of20 nA.out (j := 7) rfl
  have fa7 := frozen_of (k := 7) nA.out
  have a8 := cell_of20 nA.out (j := 8) rfl
  have fa8 := frozen_of (k := 8) nA.out
  have a9 := cell_of20 nA.out (j := 9) rfl
  have fa9 := frozen_of (k := 9) nA.out
  have a10 := cell_of20 nA.out (j := 10) rfl
  have fa10 := frozen_of (k := 10) nA.out
  have p0 := cell_of20 nP.out (j := 0) rfl
  have p1 := cell_of20 nP.out (j := 1) rfl
  have p2 := cell_of20 nP.out (j := 2) rfl
  have p3 := cell_of20 nP.out (j := 3) rfl
  have p4 := cell_of20 nP.out (j := 4) rfl
  have p5 := cell_of20 nP.out (j := 5) rfl
  have p6 := cell_of20 nP.out (j := 6) rfl
  have p7 := cell_of20 nP.out (j := 7) rfl
  go_wp2_with fail
  refine (grow0_ok _).mono ?_
  rintro e wn2 ⟨rfl, rfl⟩
  obtain ⟨wq, hwq⟩ : ∃ wq, wn2.setCell ⟨Ab, 4, none⟩ (.slice none 0 0) = wq := ⟨_, rfl⟩
  have hTq : Turned (fun k => k = Ab) wn2 wq := by rw [← hwq]; exact (Turned.refl (fun k => k = Ab) wn2).setCell (p := ⟨Ab, 4, none⟩) rfl _
  have nAq := set_block (k := 4) nA.out (.slice none 0 0)
  rw [hwq] at nAq
  simp only [List.setIfInBounds_toArray, List.set_cons_zero, List.set_cons_succ] at nAq
  go_upto_region 16 with fail
  try rw [hwq]
  clear a0 a1 a2 a3 a4 a5 a6 a7 a8 a9 a10 fa0 fa1 fa2 fa3 fa4 fa5 fa6 fa7 fa8 fa9 fa10 p0 p1 p2 p3 p4 p5 p6 p7
  replace nA := hid nAq
  replace nP := hid ((hTq.block Pb (Array.getElem?_eq_some_iff.1 nP.out).1 hPA.out).trans nP.out)
  replace nR := hid ((hTq.block R (Array.getElem?_eq_some_iff.1 nR.out).1 hRA.out).trans nR.out)
  replace hX := hid (hX.out.keep hTq (fun k hk => by have := hrA.out; omega))
  replace hB := hid (hB.out.trans (hTq.below (B := w.heap.size) (fun q e => by rw [e]; exact hwA.out) hB.out.size))
  clear hTq nAq hwq
  have a0 := cell_of20 nA.out (j := 0) rfl
  have fa0 := frozen_of (k := 0) nA.out
  have a1 := cell_of20 nA.out (j := 1) rfl
  have fa1 := frozen_of (k := 1) nA.out
  have a2 := cell_of20 nA.out (j := 2) rfl
  have fa2 := frozen_of (k := 2) nA.out
  have a3 := cell_of20 nA.out (j := 3) rfl
  have fa3 := frozen_of (k := 3) nA.out
  have a4 := cell_of20 nA.out (j := 4) rfl
  have fa4 := frozen_of (k := 4) nA.out
  have a5 := cell_of20 nA.out (j := 5) rfl
  have fa5 := frozen_of (k := 5) nA.out
  have a6 := cell_of20 nA.out (j := 6) rfl
  have fa6 := frozen_of (k := 6) nA.out
  have a7 := cell_of20 nA.out (j := 7) rfl
  have fa7 := frozen_of (k := 7) nA.out
  have a8 := cell_of20 nA.out (j := 8) rfl
  have fa8 := frozen_of (k := 8) nA.out
  have a9 := cell_of20 nA.out (j := 9) rfl
  have fa9 := frozen_of (k := 9) nA.out
  have a10 := cell_of20 nA.out (j := 10) rfl
  have fa10 := frozen_of (k := 10) nA.out
  have p0 := cell_of20 nP.out (j := 0) rfl
  have p1 := cell_of20 nP.out (j := 1) rfl
  have p2 := cell_of20 nP.out (j := 2) rfl
  have p3 := cell_of20 nP.out (j := 3) rfl
  have p4 := cell_of20 nP.out (j := 4) rfl
  have p5 := cell_of20 nP.out (j := 5) rfl
  have p6 := cell_of20 nP.out (j := 6) rfl
  have p7 := cell_of20 nP.out (j := 7) rfl
  go_wp2_with fail
  refine wp_loop_rounds 1 ?_
  rw [rounds_succ]
  go_wp2_with fail
  have hwn : Wn ⟨(X0 : Int), [], decide (nm20 1 r = 1), 0, [], 0, 0, 0, 0, 0, []⟩ := ⟨fun y hy => by simp at hy, fun y hy => by simp at hy, by simp, by simp⟩
  have hw64 : W64 ⟨(X0 : Int), [], decide (nm20 1 r = 1), 0, [], 0, 0, 0, 0, 0, []⟩ := ⟨by simp, by simp, by simp, by simp, by simp, by dsimp only; omega⟩
  have hch := hid (check_av (k := k) (w := wq) (AV.plain wq ⟨(X0 : Int), [], decide (nm20 1 r = 1), 0, [], 0, 0, 0, 0, 0, []⟩ rfl rfl rfl hwn hw64))
  clear hwn hw64
  refine hch.out.mono ?_
  rintro e w7 ⟨rfl, bn⟩
  clear a0 a1 a2 a3 a4 a5 a6 a7 a8 a9 a10 fa0 fa1 fa2 fa3 fa4 fa5 fa6 fa7 fa8 fa9 fa10 p0 p1 p2 p3 p4 p5 p6 p7
  replace nA := hid (kept20 nA.out bn)
  replace nR := hid (kept20 nR.out bn)
  replace hX := hid (hX.out.more bn)
  replace hB := hid (hB.out.trans (bn.mono hB.out.size))
  clear bn nP
  by_cases hchk : chk20 k ⟨(X0 : Int), [], decide (nm20 1 r = 1), 0, [], 0, 0, 0, 0, 0, []⟩ = 0
  · obtain ⟨PV, hPV⟩ : ∃ PV, pe20 k (An.err ⟨(X0 : Int), [], decide (nm20 1 r = 1), 0, [], 0, 0, 0, 0, 0, []⟩) = PV := ⟨_, rfl⟩
    have hcr : cres k ⟨(X0 : Int), [], decide (nm20 1 r = 1), 0, [], 0, 0, 0, 0, 0, []⟩ = .tuple #[PV.v, .nilIface] := by
      unfold cres
      rw [hchk, if_pos rfl, hPV]
      rfl
    rw [hcr]
    clear hcr hPV
    go_upto_region 27 with fail
    obtain ⟨w8, hw8⟩ : ∃ w8, w7.alloc (.cells PV.cs 67) = w8 := ⟨_, rfl⟩
    have bn := balloc20 w7 (.cells PV.cs 67)
    rw [hw8] at bn
    try rw [hw8]
    replace nA := hid (kept20 nA.out bn)
    replace nR := hid (kept20 nR.out bn)
    replace hX := hid (hX.out.more bn)
    replace hB := hid (hB.out.trans (bn.mono hB.out.size))
    clear bn hw8
    obtain ⟨ad2, cap2, hbx, _, _⟩ := hX.out
    have x0c := cell_of20 hbx (j := 0) rfl
    have x1c := cell_of20 hbx (j := 1) rfl
    have a0 := cell_of20 nA.out (j := 0) rfl
    have a1 := cell_of20 nA.out (j := 1) rfl
    have a2 := cell_of20 nA.out (j := 2) rfl
    have a3 := cell_of20 nA.out (j := 3) rfl
    have a4 := cell_of20 nA.out (j := 4) rfl
    have a5 := cell_of20 nA.out (j := 5) rfl
    have a6 := cell_of20 nA.out (j := 6) rfl
    have a7 := cell_of20 nA.out (j := 7) rfl
    have a8 := cell_of20 nA.out (j := 8) rfl
    have a9 := cell_of20 nA.out (j := 9) rfl
    have a10 := cell_of20 nA.out (j := 10) rfl
    obtain ⟨Q, hQ⟩ : ∃ Q, (er20 1 r false || decide (1 < nm20 1 r)) = Q := ⟨_, rfl⟩
    obtain ⟨M, hM⟩ : ∃ M, ((lf20 1 r)).length = M := ⟨_, rfl⟩
    rw [hQ] at x1c hbx
    rw [hM] at x0c hbx
    clear hbx hX
    replace hQ := hid hQ
    replace hM := hid hM
    replace hchk := hid hchk
    cases Q with
    | true =>
      have hno : Hid (¬ (chk20 k ⟨(X0 : Int), [], decide (nm20 1 r = 1), 0, [], 0, 0, 0, 0, 0, []⟩ = 0 ∧ (er20 1 r false || decide (1 < nm20 1 r)) = false ∧ (lf20 1 r) = [])) := fun h => by
        have h2 := hQ.out
        rw [h.2.1] at h2
        cases h2
      have hfin := hid (setRow_heap w8 R _ #[.int .i64 0, .slice none 0 0, .bool false, .int .i64 0, .slice none 0 0, .int .i64 0, .int .i64 0, .int .i64 0, .int .i64 0, .int .i64 0, .slice none 0 0] _ _ nR.out)
      have hbz := hid (setRow_below hB.out (g := R) hwR.out #[.int .i64 0, .slice none 0 0, .bool false, .int .i64 0, .slice none 0 0, .int .i64 0, .int .i64 0, .int .i64 0, .int .i64 0, .int .i64 0, .slice none 0 0])
      go_upto_region 28 with fail
      repeat (first | (refine wpList_store_row rfl 34 (.tmp 4) (.tmp 98) rfl R #[.int .i64 0, .slice none 0 0, .bool false, .int .i64 0, .slice none 0 0, .int .i64 0, .int .i64 0, .int .i64 0, .int .i64 0, .int .i64 0, .slice none 0 0] rfl rfl 34 _ nR.out (by kernel_rfl) rfl (by simp [Value.oneCell']) ?_) | go_step)
      refine bodyPost_ret (results_cell2 rfl _ _ R 34 _ (0, 0) _ rfl hfin.out Tryd.underlying34 rfl (by kernel_rfl)) rfl ?_
      exact ⟨.inr ⟨hno.out, rfl⟩, hbz.out⟩
    | false =>
      by_cases hM0 : M = 0
      · subst hM0
        have hq : Hid ((er20 1 r false || decide (1 < nm20 1 r)) = false) := hQ.out
        have hL : Hid ((lf20 1 r) = []) := List.eq_nil_of_length_eq_zero hM.out
        have hfin := hid (setRow_heap w8 R _ #[.int .i64 (X0 : Int), .slice none 0 0, .bool (decide (nm20 1 r = 1)), .int .i64 0, .slice none 0 0, .int .i64 0, .int .i64 0, .int .i64 0, .int .i64 0, .int .i64 0, .slice none 0 0] _ _ nR.out)
        have hbz := hid (setRow_below hB.out (g := R) hwR.out #[.int .i64 (X0 : Int), .slice none 0 0, .bool (decide (nm20 1 r = 1)), .int .i64 0, .slice none 0 0, .int .i64 0, .int .i64 0, .int .i64 0, .int .i64 0, .int .i64 0, .slice none 0 0])
        go_upto_region 29 with fail
        repeat (first | (refine wpList_store_row rfl 34 (.tmp 4) (.tmp 100) rfl R #[.int .i64 (X0 : Int), .slice none 0 0, .bool (decide (nm20 1 r = 1)), .int .i64 0, .slice none 0 0, .int .i64 0, .int .i64 0, .int .i64 0, .int .i64 0, .int .i64 0, .slice none 0 0] rfl rfl 34 _ nR.out (by kernel_rfl) rfl (by simp [Value.oneCell']) ?_) | go_step)
        refine bodyPost_ret (results_cell2 rfl _ _ R 34 _ (0, 0) _ rfl hfin.out Tryd.underlying34 rfl (by kernel_rfl)) rfl ?_
        exact ⟨.inl ⟨hchk.out, hq.out, hL.out, none, 0, 0, none, 0, 0, none, 0, 0, rfl, HV.nil _, DV.nil _, rfl, Bytes.none _⟩, hbz.out⟩
      · have hMp : (0 : Int) < (M : Int) := by omega
        have hno : Hid (¬ (chk20 k ⟨(X0 : Int), [], decide (nm20 1 r = 1), 0, [], 0, 0, 0, 0, 0, []⟩ = 0 ∧ (er20 1 r false || decide (1 < nm20 1 r)) = false ∧ (lf20 1 r) = [])) := fun h => by
          have h2 := h.2.2
          have h3 := hM.out
          rw [h2] at h3
          simp at h3
          omega
        have hfin := hid (setRow_heap w8 R _ #[.int .i64 0, .slice none 0 0, .bool false, .int .i64 0, .slice none 0 0, .int .i64 0, .int .i64 0, .int .i64 0, .int .i64 0, .int .i64 0, .slice none 0 0] _ _ nR.out)
        have hbz := hid (setRow_below hB.out (g := R) hwR.out #[.int .i64 0, .slice none 0 0, .bool false, .int .i64 0, .slice none 0 0, .int .i64 0, .int .i64 0, .int .i64 0, .int .i64 0, .int .i64 0, .slice none 0 0])
        go_upto_region 28 with fail
        repeat (first | (refine wpList_store_row rfl 34 (.tmp 4) (.tmp 98) rfl R #[.int .i64 0, .slice none 0 0, .bool false, .int .i64 0, .slice none 0 0, .int .i64 0, .int .i64 0, .int .i64 0, .int .i64 0, .int .i64 0, .slice none 0 0] rfl rfl 34 _ nR.out (by kernel_rfl) rfl (by simp [Value.oneCell']) ?_) | go_step)
        refine bodyPost_ret (results_cell2 rfl _ _ R 34 _ (0, 0) _ rfl hfin.out Tryd.underlying34 rfl (by kernel_rfl)) rfl ?_
        exact ⟨.inr ⟨hno.out, rfl⟩, hbz.out⟩
  · have hcr : cres k ⟨(X0 : Int), [], decide (nm20 1 r = 1), 0, [], 0, 0, 0, 0, 0, []⟩ = .tuple #[.agg zcs, .iface 93 (.int .i64 (chk20 k ⟨(X0 : Int), [], decide (nm20 1 r = 1), 0, [], 0, 0, 0, 0, 0, []⟩))] := by
      unfold cres
      rw [if_neg hchk]
      unfold erv
      rw [if_neg hchk]
      rfl
    rw [hcr]
    have hno : Hid (¬ (chk20 k ⟨(X0 : Int), [], decide (nm20 1 r = 1), 0, [], 0, 0, 0, 0, 0, []⟩ = 0 ∧ (er20 1 r false || decide (1 < nm20 1 r)) = false ∧ (lf20 1 r) = [])) := fun h => hchk h.1
    obtain ⟨CE, hCE⟩ : ∃ CE, chk20 k ⟨(X0 : Int), [], decide (nm20 1 r = 1), 0, [], 0, 0, 0, 0, 0, []⟩ = CE := ⟨_, rfl⟩
    try rw [hCE]
    clear hcr
    go_upto_region 27 with fail
    obtain ⟨w8, hw8⟩ : ∃ w8, w7.alloc (.cells zcs 67) = w8 := ⟨_, rfl⟩
    have bn := balloc20 w7 (.cells zcs 67)
    rw [hw8] at bn
    try rw [hw8]
    replace nR := hid (kept20 nR.out bn)
    replace hB := hid (hB.out.trans (bn.mono hB.out.size))
    clear bn hw8
    have hfin := hid (setRow_heap w8 R _ #[.int .i64 0, .slice none 0 0, .bool false, .int .i64 0, .slice none 0 0, .int .i64 0, .int .i64 0, .int .i64 0, .int .i64 0, .int .i64 0, .slice none 0 0] _ _ nR.out)
    have hbz := hid (setRow_below hB.out (g := R) hwR.out #[.int .i64 0, .slice none 0 0, .bool false, .int .i64 0, .slice none 0 0, .int .i64 0, .int .i64 0, .int .i64 0, .int .i64 0, .int .i64 0, .slice none 0 0])
    go_upto_region 28 with fail
    repeat (first | (refine wpList_store_row rfl 34 (.tmp 4) (.tmp 98) rfl R #[.int .i64 0, .slice none 0 0, .bool false, .int .i64 0, .slice none 0 0, .int .i64 0, .int .i64 0, .int .i64 0, .int .i64 0, .int .i64 0, .slice none 0 0] rfl rfl 34 _ nR.out (by kernel_rfl) rfl (by simp [Value.oneCell']) ?_) | go_step)
    refine bodyPost_ret (results_cell2 rfl _ _ R 34 _ (0, 0) _ rfl hfin.out Tryd.underlying34 rfl (by kernel_rfl)) rfl ?_
    exact ⟨.inr ⟨fun h => hchk h.1, rfl⟩, hbz.out⟩

end Go.Proofs.YtkopcfpghklbbaaDoor
