/- answer's Encode, walked: one theorem a kind of answer (second part). -/
import Derived.Test.YtkopcfpghklbbaaDoorEnc20A
namespace Go.Proofs.YtkopcfpghklbbaaDoor
open Go.RowKit
set_option linter.unusedVariables false
set_option linter.unusedSimpArgs false
attribute [local go_sem] idx40 idx41 idx42 idx43

set_option maxRecDepth 100000 in
set_option maxHeartbeats 16000000 in
theorem enc_h1 (k : Int) (ha : Option Addr) (hc : Nat) (da : Option Addr) (dc : Nat) (ba : Option Addr) (bc : Nat) (y : Nat × Nat) (w : World) (hbt : Bytes w ba bc []) (hH : HV w ha 1 hc [y])
    (hck : ∀ w', Below w.heap.size w w' → Calls Tryd.prog 19 #[.int .i64 k, .agg #[.int .i64 0, .slice ha 1 hc, .bool false, .int .i64 0, .slice da 0 dc, .int .i64 0, .int .i64 0, .int .i64 0, .int .i64 0, .int .i64 0, .slice ba 0 bc]] w' fun e w'' => e = .returned (.tuple #[.agg #[.int .i64 1, .bool false, .bool false, .bool false, .bool false, .bool false, .bool false, .bool false], .nilIface]) ∧ Below w'.heap.size w' w'') :
    Calls Tryd.prog 10 #[.int .i64 k, .agg #[.int .i64 0, .slice ha 1 hc, .bool false, .int .i64 0, .slice da 0 dc, .int .i64 0, .int .i64 0, .int .i64 0, .int .i64 0, .int .i64 0, .slice ba 0 bc]] w fun e w' => ∃ ad' cap', e = .returned (.tuple #[.slice ad' (be 1 0 ++ (be 4 y.1 ++ be 4 y.2)).length cap', .nilIface]) ∧ Bytes w' ad' cap' (be 1 0 ++ (be 4 y.1 ++ be 4 y.2)) ∧ Below w.heap.size w w' := by
  have hbt := hid hbt
  obtain ⟨g0, o, hae, c0, c1⟩ := hH.cell 0 y rfl
  have hyn := hid (hH.num y (by simp))
  rw [Nat.zero_mul, Nat.add_zero] at c0 c1
  replace c0 := hid c0
  replace c1 := hid c1
  clear hH
  replace hae := hid hae
  have b1 := balloc20 w (.cells #[.int .i64 0, .slice ha 1 hc, .bool false, .int .i64 0, .slice da 0 dc, .int .i64 0, .int .i64 0, .int .i64 0, .int .i64 0, .int .i64 0, .slice ba 0 bc] 34)
  have nA := new_of20 w #[.int .i64 0, .slice ha 1 hc, .bool false, .int .i64 0, .slice da 0 dc, .int .i64 0, .int .i64 0, .int .i64 0, .int .i64 0, .int .i64 0, .slice ba 0 bc] 34
  obtain ⟨w1, hw1⟩ : ∃ w1, w.alloc (.cells #[.int .i64 0, .slice ha 1 hc, .bool false, .int .i64 0, .slice da 0 dc, .int .i64 0, .int .i64 0, .int .i64 0, .int .i64 0, .int .i64 0, .slice ba 0 bc] 34) = w1 := ⟨_, rfl⟩
  rw [hw1] at b1 nA
  have hc1 := hid (hck w1 b1)
  replace nA := hid nA
  have hB := hid b1
  clear b1 hck
  have a0 := cell_of20 nA.out (j := 0) rfl
  have a1 := cell_of20 nA.out (j := 1) rfl
  have a2 := cell_of20 nA.out (j := 2) rfl
  have a3 := cell_of20 nA.out (j := 3) rfl
  have a4 := cell_of20 nA.out (j := 4) rfl
  have a5 := cell_of20 nA.out (j := 5) rfl
  have a6 := cell_of20 nA.out (j := 6) rfl
  have a7 := cell_of20 nA.out (j := 7) rfl
  have a8 := cell_of20 nA.out (j := 8) rfl
  have a9 := cell_of20 nA.out (j := 9) rfl
  have a10 := cell_of20 nA.out (j := 10) rfl
  go_enter Tryd.func10, Tryd.ntmps10
  go_wp2_with fail
  try rw [hw1]
  clear hw1
  refine hc1.out.mono ?_
  rintro e w2 ⟨rfl, b2⟩
  clear a0 a1 a2 a3 a4 a5 a6 a7 a8 a9 a10
  replace nA := hid (kept20 nA.out b2)
  replace hB := hid (hB.out.trans (b2.mono hB.out.size))
  clear b2 hc1
  go_upto_region 4 with fail
  obtain ⟨w3, hw3⟩ : ∃ w3, w2.alloc (.cells #[.int .i64 1, .bool false, .bool false, .bool false, .bool false, .bool false, .bool false, .bool false] 67) = w3 := ⟨_, rfl⟩
  have nP := new_of20 w2 #[.int .i64 1, .bool false, .bool false, .bool false, .bool false, .bool false, .bool false, .bool false] 67
  have b3 := balloc20 w2 (.cells #[.int .i64 1, .bool false, .bool false, .bool false, .bool false, .bool false, .bool false, .bool false] 67)
  rw [hw3] at nP b3
  try rw [hw3]
  obtain ⟨Pb, hPq⟩ : ∃ Pb, w2.heap.size = Pb := ⟨_, rfl⟩
  replace nA := hid (kept20 nA.out b3)
  replace hB := hid (hB.out.trans (b3.mono hB.out.size))
  rw [hPq] at nP
  try rw [hPq]
  replace nP := hid nP
  clear hw3 hPq b3
  have hmk : ∀ w : World, (Instr.makeSlice 25 (.int .i64 0) (.int .i64 17)).run Tryd.prog w = .ok (.slice (some ⟨w.heap.size, 0, none⟩) 0 17) (w.alloc (.cells (madeCells #[.int .u8 0] (17 * 1)) 5)) := fun w => mk20 17 (by omega) w
  obtain ⟨L, hLq⟩ : ∃ L : Nat, L = 17 := ⟨17, rfl⟩
  have hmk2 : ∀ w : World, (Instr.makeSlice 25 (.int .i64 0) (.int .i64 17)).run Tryd.prog w = .ok (.slice (some ⟨w.heap.size, 0, none⟩) 0 L) (w.alloc (.cells (madeCells #[.int .u8 0] (L * 1)) 5)) := fun w => by subst hLq; exact mk20 17 (by omega) w
  have hLl : L ≤ 30000 := by omega
  clear hmk hLq
  have a0 := cell_of20 nA.out (j := 0) rfl
  have a1 := cell_of20 nA.out (j := 1) rfl
  have a2 := cell_of20 nA.out (j := 2) rfl
  have a3 := cell_of20 nA.out (j := 3) rfl
  have a4 := cell_of20 nA.out (j := 4) rfl
  have a5 := cell_of20 nA.out (j := 5) rfl
  have a6 := cell_of20 nA.out (j := 6) rfl
  have a7 := cell_of20 nA.out (j := 7) rfl
  have a8 := cell_of20 nA.out (j := 8) rfl
  have a9 := cell_of20 nA.out (j := 9) rfl
  have a10 := cell_of20 nA.out (j := 10) rfl
  have p0 := cell_of20 nP.out (j := 0) rfl
  have p1 := cell_of20 nP.out (j := 1) rfl
  have p2 := cell_of20 nP.out (j := 2) rfl
  have p3 := cell_of20 nP.out (j := 3) rfl
  have p4 := cell_of20 nP.out (j := 4) rfl
  have p5 := cell_of20 nP.out (j := 5) rfl
  have p6 := cell_of20 nP.out (j := 6) rfl
  have p7 := cell_of20 nP.out (j := 7) rfl
  go_upto_region 5 with fail
  obtain ⟨G, hGq⟩ : ∃ G, w3.heap.size = G := ⟨_, rfl⟩
  obtain ⟨w4, hw4⟩ : ∃ w4, w3.alloc (.cells (madeCells #[.int .u8 0] L) 5) = w4 := ⟨_, rfl⟩
  have hV0 := own_made20 w3 L (by omega)
  have b4 := balloc20 w3 (.cells (madeCells #[.int .u8 0] L) 5)
  rw [Nat.mul_one] at hV0
  rw [hGq, hw4] at hV0
  rw [hw4] at b4
  try rw [hw4]
  have hV : Hid (Bw G w4 (.slice (some ⟨G, 0, none⟩) 0 L) []) := hV0
  have hwb : Hid (w.heap.size ≤ G) := by show _ ≤ _; rw [← hGq]; exact hB.out.size
  have hG : Hid (G ≤ w4.heap.size) := by show _ ≤ _; rw [← hGq]; exact b4.size
  clear a0 a1 a2 a3 a4 a5 a6 a7 a8 a9 a10 p0 p1 p2 p3 p4 p5 p6 p7
  replace nA := hid (kept20 nA.out b4)
  replace nP := hid (kept20 nP.out b4)
  replace hB := hid (hB.out.trans (b4.mono hB.out.size))
  try rw [hGq]
  clear hV0 b4 hw4 hGq hmk2
  have a0 := cell_of20 nA.out (j := 0) rfl
  have a1 := cell_of20 nA.out (j := 1) rfl
  have a2 := cell_of20 nA.out (j := 2) rfl
  have a3 := cell_of20 nA.out (j := 3) rfl
  have a4 := cell_of20 nA.out (j := 4) rfl
  have a5 := cell_of20 nA.out (j := 5) rfl
  have a6 := cell_of20 nA.out (j := 6) rfl
  have a7 := cell_of20 nA.out (j := 7) rfl
  have a8 := cell_of20 nA.out (j := 8) rfl
  have a9 := cell_of20 nA.out (j := 9) rfl
  have a10 := cell_of20 nA.out (j := 10) rfl
  have p0 := cell_of20 nP.out (j := 0) rfl
  have p1 := cell_of20 nP.out (j := 1) rfl
  have p2 := cell_of20 nP.out (j := 2) rfl
  have p3 := cell_of20 nP.out (j := 3) rfl
  have p4 := cell_of20 nP.out (j := 4) rfl
  have p5 := cell_of20 nP.out (j := 5) rfl
  have p6 := cell_of20 nP.out (j := 6) rfl
  have p7 := cell_of20 nP.out (j := 7) rfl
  have hcall := hid (aput_ok (x := 0) (n := 1) 0 1 rfl rfl hV.out hG.out (by simp) (by omega) (by omega))
  go_wp2_with fail
  refine hcall.out.mono ?_
  rintro e wn ⟨vn, rfl, hx, k⟩
  replace hV := hid hx
  clear hx hcall
  clear a0 a1 a2 a3 a4 a5 a6 a7 a8 a9 a10 p0 p1 p2 p3 p4 p5 p6 p7
  replace nA := hid (k.2 _ _ _ _ nA.out (by decide))
  replace nP := hid (k.2 _ _ _ _ nP.out (by decide))
  replace hG := hid (Nat.le_trans hG.out k.1.size)
  replace hB := hid (hB.out.trans (k.1.mono hwb.out))
  clear k
  have a0 := cell_of20 nA.out (j := 0) rfl
  have a1 := cell_of20 nA.out (j := 1) rfl
  have a2 := cell_of20 nA.out (j := 2) rfl
  have a3 := cell_of20 nA.out (j := 3) rfl
  have a4 := cell_of20 nA.out (j := 4) rfl
  have a5 := cell_of20 nA.out (j := 5) rfl
  have a6 := cell_of20 nA.out (j := 6) rfl
  have a7 := cell_of20 nA.out (j := 7) rfl
  have a8 := cell_of20 nA.out (j := 8) rfl
  have a9 := cell_of20 nA.out (j := 9) rfl
  have a10 := cell_of20 nA.out (j := 10) rfl
  have p0 := cell_of20 nP.out (j := 0) rfl
  have p1 := cell_of20 nP.out (j := 1) rfl
  have p2 := cell_of20 nP.out (j := 2) rfl
  have p3 := cell_of20 nP.out (j := 3) rfl
  have p4 := cell_of20 nP.out (j := 4) rfl
  have p5 := cell_of20 nP.out (j := 5) rfl
  have p6 := cell_of20 nP.out (j := 6) rfl
  have p7 := cell_of20 nP.out (j := 7) rfl
  have hae2 := hae.out
  subst hae2
  go_wp2_with fail
  refine wp_loop_rounds 2 ?_
  rw [rounds_succ]
  have q0 := (hB.out.cell (World.block_lt_of_cell? w _ c0.out)).trans c0.out
  have q1 := (hB.out.cell (World.block_lt_of_cell? w _ c1.out)).trans c1.out
  have hcall := hid (puth_ok y.1 y.2 hyn.out.1 hyn.out.2 (ownsRow_below hV.out (balloc20 _ (.cells #[.int .u32 (y.1 : Int), .int .u32 (y.2 : Int)] 61))) (Nat.le_trans hG.out (balloc20 _ (.cells #[.int .u32 (y.1 : Int), .int .u32 (y.2 : Int)] 61)).size) (by simp [be_length]))
  have k0 := hid (Kb.ofBelow (balloc20 _ (.cells #[.int .u32 (y.1 : Int), .int .u32 (y.2 : Int)] 61)) hG.out)
  go_wp2_with fail
  refine hcall.out.mono ?_
  rintro e wn ⟨vn, rfl, hx, k1⟩
  have k := k0.out.trans k1
  replace hV := hid hx
  clear hx hcall k0 k1 q0 q1
  clear a0 a1 a2 a3 a4 a5 a6 a7 a8 a9 a10 p0 p1 p2 p3 p4 p5 p6 p7
  replace nA := hid (k.2 _ _ _ _ nA.out (by decide))
  replace nP := hid (k.2 _ _ _ _ nP.out (by decide))
  replace hG := hid (Nat.le_trans hG.out k.1.size)
  replace hB := hid (hB.out.trans (k.1.mono hwb.out))
  clear k
  have a0 := cell_of20 nA.out (j := 0) rfl
  have a1 := cell_of20 nA.out (j := 1) rfl
  have a2 := cell_of20 nA.out (j := 2) rfl
  have a3 := cell_of20 nA.out (j := 3) rfl
  have a4 := cell_of20 nA.out (j := 4) rfl
  have a5 := cell_of20 nA.out (j := 5) rfl
  have a6 := cell_of20 nA.out (j := 6) rfl
  have a7 := cell_of20 nA.out (j := 7) rfl
  have a8 := cell_of20 nA.out (j := 8) rfl
  have a9 := cell_of20 nA.out (j := 9) rfl
  have a10 := cell_of20 nA.out (j := 10) rfl
  have p0 := cell_of20 nP.out (j := 0) rfl
  have p1 := cell_of20 nP.out (j := 1) rfl
  have p2 := cell_of20 nP.out (j := 2) rfl
  have p3 := cell_of20 nP.out (j := 3) rfl
  have p4 := cell_of20 nP.out (j := 4) rfl
  have p5 := cell_of20 nP.out (j := 5) rfl
  have p6 := cell_of20 nP.out (j := 6) rfl
  have p7 := cell_of20 nP.out (j := 7) rfl
  go_wp2_with fail
  rw [rounds_succ]
  go_wp2_with fail
  refine wp_loop_rounds 1 ?_
  rw [rounds_succ]
  go_wp2_with fail
  have hlen : ([] ++ be 1 0 ++ (be 4 y.1 ++ be 4 y.2)).length ≤ 900000 := by simp [be_length]
  obtain ⟨g, cap, hvn, hcap, hLb⟩ := bw_row hV.out (by simp [be_ne]) (by omega)
  subst hvn
  obtain ⟨N, hN⟩ : ∃ N, ([] ++ be 1 0 ++ (be 4 y.1 ++ be 4 y.2)).length = N := ⟨_, rfl⟩
  have hend : Hid (([] ++ be 1 0 ++ (be 4 y.1 ++ be 4 y.2)) ++ ([]) = be 1 0 ++ (be 4 y.1 ++ be 4 y.2)) := by
    show _ = _
    simp only [List.nil_append, List.append_nil, List.append_assoc]
  have hlw : Hid (N + 0 = (be 1 0 ++ (be 4 y.1 ++ be 4 y.2)).length) := by
    show _ = _
    rw [← hend.out, List.length_append, hN]
    simp only [List.length_nil, Nat.add_zero]
  have hNl : N ≤ 900000 := by rw [← hN]; exact hlen
  rw [hN] at hcap hLb
  have i1 : (0 : Int) ≤ (N : Int) := by omega
  have i2 : (N : Int) ≤ (cap : Int) := by omega
  replace hN := hid hN
  have hLd := hid (hLb.below (Below.refl _ _).drew)
  have hDd := hid (hbt.out.below (hB.out.drew))
  have hBd := hid (hB.out.drew)
  try rw [hN.out]
  go_upto_region 30 with fail
  try rw [hN.out]
  have e10 := a10
  replace e10 : World.cell? (World.drew _) _ = some _ := a10
  go_region_law (refine step_app_cut (l := N) (m := 0) rfl (.tmp 104) (.tmp 106) rfl (by simp [Act.eval, Act.put]) (by simp [Act.eval, Act.put]) hLd.out hN.out hDd.out (by rfl) (by omega) ?_; intro ad2 cap2 w9 hb9 hbl9; refine Hid.out ?_; have hfin := hid (And.intro hb9 (hBd.out.trans (hbl9.mono hBd.out.size))); clear hb9 hbl9; refine hid ?_)
  all_goals
    rw [hend.out] at hfin
    go_wp2_with fail
    go_ret2
    exact ⟨ad2, cap2, by rw [← hlw.out]; rfl, hfin.out⟩

set_option maxRecDepth 100000 in
set_option maxHeartbeats 16000000 in
theorem enc_h2 (k : Int) (ha : Option Addr) (hc : Nat) (da : Option Addr) (dc : Nat) (ba : Option Addr) (bc : Nat) (y z : Nat × Nat) (w : World) (hbt : Bytes w ba bc []) (hH : HV w ha 2 hc [y, z])
    (hck : ∀ w', Below w.heap.size w w' → Calls Tryd.prog 19 #[.int .i64 k, .agg #[.int .i64 0, .slice ha 2 hc, .bool false, .int .i64 0, .slice da 0 dc, .int .i64 0, .int .i64 0, .int .i64 0, .int .i64 0, .int .i64 0, .slice ba 0 bc]] w' fun e w'' => e = .returned (.tuple #[.agg #[.int .i64 2, .bool false, .bool false, .bool false, .bool false, .bool false, .bool false, .bool false], .nilIface]) ∧ Below w'.heap.size w' w'') :
    Calls Tryd.prog 10 #[.int .i64 k, .agg #[.int .i64 0, .slice ha 2 hc, .bool false, .int .i64 0, .slice da 0 dc, .int .i64 0, .int .i64 0, .int .i64 0, .int .i64 0, .int .i64 0, .slice ba 0 bc]] w fun e w' => ∃ ad' cap', e = .returned (.tuple #[.slice ad' (be 1 0 ++ ((be 4 y.1 ++ be 4 y.2) ++ (be 4 z.1 ++ be 4 z.2))).length cap', .nilIface]) ∧ Bytes w' ad' cap' (be 1 0 ++ ((be 4 y.1 ++ be 4 y.2) ++ (be 4 z.1 ++ be 4 z.2))) ∧ Below w.heap.size w w' := by
  have hbt := hid hbt
  obtain ⟨g0, o, hae, c0, c1⟩ := hH.cell 0 y rfl
  obtain ⟨g', o', he, c2, c3⟩ := hH.cell 1 z rfl
  rw [hae] at he
  simp only [Option.some.injEq, Addr.mk.injEq, and_true] at he
  obtain ⟨rfl, rfl⟩ := he
  have hyn := hid (hH.num y (by simp))
  have hzn := hid (hH.num z (by simp))
  rw [Nat.zero_mul, Nat.add_zero] at c0 c1
  rw [Nat.one_mul] at c2 c3
  replace c0 := hid c0
  replace c1 := hid c1
  replace c2 := hid c2
  replace c3 := hid c3
  clear hH
  replace hae := hid hae
  have b1 := balloc20 w (.cells #[.int .i64 0, .slice ha 2 hc, .bool false, .int .i64 0, .slice da 0 dc, .int .i64 0, .int .i64 0, .int .i64 0, .int .i64 0, .int .i64 0, .slice ba 0 bc] 34)
  have nA := new_of20 w #[.int .i64 0, .slice ha 2 hc, .bool false, .int .i64 0, .slice da 0 dc, .int .i64 0, .int .i64 0, .int .i64 0, .int .i64 0, .int .i64 0, .slice ba 0 bc] 34
  obtain ⟨w1, hw1⟩ : ∃ w1, w.alloc (.cells #[.int .i64 0, .slice ha 2 hc, .bool false, .int .i64 0, .slice da 0 dc, .int .i64 0, .int .i64 0, .int .i64 0, .int .i64 0, .int .i64 0, .slice ba 0 bc] 34) = w1 := ⟨_, rfl⟩
  rw [hw1] at b1 nA
  have hc1 := hid (hck w1 b1)
  replace nA := hid nA
  have hB := hid b1
  clear b1 hck
  have a0 := cell_of20 nA.out (j := 0) rfl
  have a1 := cell_of20 nA.out (j := 1) rfl
  have a2 := cell_of20 nA.out (j := 2) rfl
  have a3 := cell_of20 nA.out (j := 3) rfl
  have a4 := cell_of20 nA.out (j := 4) rfl
  have a5 := cell_of20 nA.out (j := 5) rfl
  have a6 := cell_of20 nA.out (j := 6) rfl
  have a7 := cell_of20 nA.out (j := 7) rfl
  have a8 := cell_of20 nA.out (j := 8) rfl
  have a9 := cell_of20 nA.out (j := 9) rfl
  have a10 := cell_of20 nA.out (j := 10) rfl
  go_enter Tryd.func10, Tryd.ntmps10
  go_wp2_with fail
  try rw [hw1]
  clear hw1
  refine hc1.out.mono ?_
  rintro e w2 ⟨rfl, b2⟩
  clear a0 a1 a2 a3 a4 a5 a6 a7 a8 a9 a10
  replace nA := hid (kept20 nA.out b2)
  replace hB := hid (hB.out.trans (b2.mono hB.out.size))
  clear b2 hc1
  go_upto_region 4 with fail
  obtain ⟨w3, hw3⟩ : ∃ w3, w2.alloc (.cells #[.int .i64 2, .bool false, .bool false, .bool false, .bool false, .bool false, .bool false, .bool false] 67) = w3 := ⟨_, rfl⟩
  have nP := new_of20 w2 #[.int .i64 2, .bool false, .bool false, .bool false, .bool false, .bool false, .bool false, .bool false] 67
  have b3 := balloc20 w2 (.cells #[.int .i64 2, .bool false, .bool false, .bool false, .bool false, .bool false, .bool false, .bool false] 67)
  rw [hw3] at nP b3
  try rw [hw3]
  obtain ⟨Pb, hPq⟩ : ∃ Pb, w2.heap.size = Pb := ⟨_, rfl⟩
  replace nA := hid (kept20 nA.out b3)
  replace hB := hid (hB.out.trans (b3.mono hB.out.size))
  rw [hPq] at nP
  try rw [hPq]
  replace nP := hid nP
  clear hw3 hPq b3
  have hmk : ∀ w : World, (Instr.makeSlice 25 (.int .i64 0) (.int .i64 17)).run Tryd.prog w = .ok (.slice (some ⟨w.heap.size, 0, none⟩) 0 17) (w.alloc (.cells (madeCells #[.int .u8 0] (17 * 1)) 5)) := fun w => mk20 17 (by omega) w
  obtain ⟨L, hLq⟩ : ∃ L : Nat, L = 17 := ⟨17, rfl⟩
  have hmk2 : ∀ w : World, (Instr.makeSlice 25 (.int .i64 0) (.int .i64 17)).run Tryd.prog w = .ok (.slice (some ⟨w.heap.size, 0, none⟩) 0 L) (w.alloc (.cells (madeCells #[.int .u8 0] (L * 1)) 5)) := fun w => by subst hLq; exact mk20 17 (by omega) w
  have hLl : L ≤ 30000 := by omega
  clear hmk hLq
  have a0 := cell_of20 nA.out (j := 0) rfl
  have a1 := cell_of20 nA.out (j := 1) rfl
  have a2 := cell_of20 nA.out (j := 2) rfl
  have a3 := cell_of20 nA.out (j := 3) rfl
  have a4 := cell_of20 nA.out (j := 4) rfl
  have a5 := cell_of20 nA.out (j := 5) rfl
  have a6 := cell_of20 nA.out (j := 6) rfl
  have a7 := cell_of20 nA.out (j := 7) rfl
  have a8 := cell_of20 nA.out (j := 8) rfl
  have a9 := cell_of20 nA.out (j := 9) rfl
  have a10 := cell_of20 nA.out (j := 10) rfl
  have p0 := cell_of20 nP.out (j := 0) rfl
  have p1 := cell_of20 nP.out (j := 1) rfl
  have p2 := cell_of20 nP.out (j := 2) rfl
  have p3 := cell_of20 nP.out (j := 3) rfl
  have p4 := cell_of20 nP.out (j := 4) rfl
  have p5 := cell_of20 nP.out (j := 5) rfl
  have p6 := cell_of20 nP.out (j := 6) rfl
  have p7 := cell_of20 nP.out (j := 7) rfl
  go_upto_region 5 with fail
  obtain ⟨G, hGq⟩ : ∃ G, w3.heap.size = G := ⟨_, rfl⟩
  obtain ⟨w4, hw4⟩ : ∃ w4, w3.alloc (.cells (madeCells #[.int .u8 0] L) 5) = w4 := ⟨_, rfl⟩
  have hV0 := own_made20 w3 L (by omega)
  have b4 := balloc20 w3 (.cells (madeCells #[.int .u8 0] L) 5)
  rw [Nat.mul_one] at hV0
  rw [hGq, hw4] at hV0
  rw [hw4] at b4
  try rw [hw4]
  have hV : Hid (Bw G w4 (.slice (some ⟨G, 0, none⟩) 0 L) []) := hV0
  have hwb : Hid (w.heap.size ≤ G) := by show _ ≤ _; rw [← hGq]; exact hB.out.size
  have hG : Hid (G ≤ w4.heap.size) := by show _ ≤ _; rw [← hGq]; exact b4.size
  clear a0 a1 a2 a3 a4 a5 a6 a7 a8 a9 a10 p0 p1 p2 p3 p4 p5 p6 p7
  replace nA := hid (kept20 nA.out b4)
  replace nP := hid (kept20 nP.out b4)
  replace hB := hid (hB.out.trans (b4.mono hB.out.size))
  try rw [hGq]
  clear hV0 b4 hw4 hGq hmk2
  have a0 := cell_of20 nA.out (j := 0) rfl
  have a1 := cell_of20 nA.out (j := 1) rfl
  have a2 := cell_of20 nA.out (j := 2) rfl
  have a3 := cell_of20 nA.out (j := 3) rfl
  have a4 := cell_of20 nA.out (j := 4) rfl
  have a5 := cell_of20 nA.out (j := 5) rfl
  have a6 := cell_of20 nA.out (j := 6) rfl
  have a7 := cell_of20 nA.out (j := 7) rfl
  have a8 := cell_of20 nA.out (j := 8) rfl
  have a9 := cell_of20 nA.out (j := 9) rfl
  have a10 := cell_of20 nA.out (j := 10) rfl
  have p0 := cell_of20 nP.out (j := 0) rfl
  have p1 := cell_of20 nP.out (j := 1) rfl
  have p2 := cell_of20 nP.out (j := 2) rfl
  have p3 := cell_of20 nP.out (j := 3) rfl
  have p4 := cell_of20 nP.out (j := 4) rfl
  have p5 := cell_of20 nP.out (j := 5) rfl
  have p6 := cell_of20 nP.out (j := 6) rfl
  have p7 := cell_of20 nP.out (j := 7) rfl
  have hcall := hid (aput_ok (x := 0) (n := 1) 0 1 rfl rfl hV.out hG.out (by simp) (by omega) (by omega))
  go_wp2_with fail
  refine hcall.out.mono ?_
  rintro e wn ⟨vn, rfl, hx, k⟩
  replace hV := hid hx
  clear hx hcall
  clear a0 a1 a2 a3 a4 a5 a6 a7 a8 a9 a10 p0 p1 p2 p3 p4 p5 p6 p7
  replace nA := hid (k.2 _ _ _ _ nA.out (by decide))
  replace nP := hid (k.2 _ _ _ _ nP.out (by decide))
  replace hG := hid (Nat.le_trans hG.out k.1.size)
  replace hB := hid (hB.out.trans (k.1.mono hwb.out))
  clear k
  have a0 := cell_of20 nA.out (j := 0) rfl
  have a1 := cell_of20 nA.out (j := 1) rfl
  have a2 := cell_of20 nA.out (j := 2) rfl
  have a3 := cell_of20 nA.out (j := 3) rfl
  have a4 := cell_of20 nA.out (j := 4) rfl
  have a5 := cell_of20 nA.out (j := 5) rfl
  have a6 := cell_of20 nA.out (j := 6) rfl
  have a7 := cell_of20 nA.out (j := 7) rfl
  have a8 := cell_of20 nA.out (j := 8) rfl
  have a9 := cell_of20 nA.out (j := 9) rfl
  have a10 := cell_of20 nA.out (j := 10) rfl
  have p0 := cell_of20 nP.out (j := 0) rfl
  have p1 := cell_of20 nP.out (j := 1) rfl
  have p2 := cell_of20 nP.out (j := 2) rfl
  have p3 := cell_of20 nP.out (j := 3) rfl
  have p4 := cell_of20 nP.out (j := 4) rfl
  have p5 := cell_of20 nP.out (j := 5) rfl
  have p6 := cell_of20 nP.out (j := 6) rfl
  have p7 := cell_of20 nP.out (j := 7) rfl
  have hae2 := hae.out
  subst hae2
  go_wp2_with fail
  refine wp_loop_rounds 3 ?_
  rw [rounds_succ]
  have q0 := (hB.out.cell (World.block_lt_of_cell? w _ c0.out)).trans c0.out
  have q1 := (hB.out.cell (World.block_lt_of_cell? w _ c1.out)).trans c1.out
  have hcall := hid (puth_ok y.1 y.2 hyn.out.1 hyn.out.2 (ownsRow_below hV.out (balloc20 _ (.cells #[.int .u32 (y.1 : Int), .int .u32 (y.2 : Int)] 61))) (Nat.le_trans hG.out (balloc20 _ (.cells #[.int .u32 (y.1 : Int), .int .u32 (y.2 : Int)] 61)).size) (by simp [be_length]))
  have k0 := hid (Kb.ofBelow (balloc20 _ (.cells #[.int .u32 (y.1 : Int), .int .u32 (y.2 : Int)] 61)) hG.out)
  go_wp2_with fail
  refine hcall.out.mono ?_
  rintro e wn ⟨vn, rfl, hx, k1⟩
  have k := k0.out.trans k1
  replace hV := hid hx
  clear hx hcall k0 k1 q0 q1
  clear a0 a1 a2 a3 a4 a5 a6 a7 a8 a9 a10 p0 p1 p2 p3 p4 p5 p6 p7
  replace nA := hid (k.2 _ _ _ _ nA.out (by decide))
  replace nP := hid (k.2 _ _ _ _ nP.out (by decide))
  replace hG := hid (Nat.le_trans hG.out k.1.size)
  replace hB := hid (hB.out.trans (k.1.mono hwb.out))
  clear k
  have a0 := cell_of20 nA.out (j := 0) rfl
  have a1 := cell_of20 nA.out (j := 1) rfl
  have a2 := cell_of20 nA.out (j := 2) rfl
  have a3 := cell_of20 nA.out (j := 3) rfl
  have a4 := cell_of20 nA.out (j := 4) rfl
  have a5 := cell_of20 nA.out (j := 5) rfl
  have a6 := cell_of20 nA.out (j := 6) rfl
  have a7 := cell_of20 nA.out (j := 7) rfl
  have a8 := cell_of20 nA.out (j := 8) rfl
  have a9 := cell_of20 nA.out (j := 9) rfl
  have a10 := cell_of20 nA.out (j := 10) rfl
  have p0 := cell_of20 nP.out (j := 0) rfl
  have p1 := cell_of20 nP.out (j := 1) rfl
  have p2 := cell_of20 nP.out (j := 2) rfl
  have p3 := cell_of20 nP.out (j := 3) rfl
  have p4 := cell_of20 nP.out (j := 4) rfl
  have p5 := cell_of20 nP.out (j := 5) rfl
  have p6 := cell_of20 nP.out (j := 6) rfl
  have p7 := cell_of20 nP.out (j := 7) rfl
  go_wp2_with fail
  rw [rounds_succ]
  have q0 := (hB.out.cell (World.block_lt_of_cell? w _ c2.out)).trans c2.out
  have q1 := (hB.out.cell (World.block_lt_of_cell? w _ c3.out)).trans c3.out
  have hcall := hid (puth_ok z.1 z.2 hzn.out.1 hzn.out.2 (ownsRow_below hV.out (balloc20 _ (.cells #[.int .u32 (z.1 : Int), .int .u32 (z.2 : Int)] 61))) (Nat.le_trans hG.out (balloc20 _ (.cells #[.int .u32 (z.1 : Int), .int .u32 (z.2 : Int)] 61)).size) (by simp [be_length]))
  have k0 := hid (Kb.ofBelow (balloc20 _ (.cells #[.int .u32 (z.1 : Int), .int .u32 (z.2 : Int)] 61)) hG.out)
  go_wp2_with fail
  refine hcall.out.mono ?_
  rintro e wn ⟨vn, rfl, hx, k1⟩
  have k := k0.out.trans k1
  replace hV := hid hx
  clear hx hcall k0 k1 q0 q1
  clear a0 a1 a2 a3 a4 a5 a6 a7 a8 a9 a10 p0 p1 p2 p3 p4 p5 p6 p7
  replace nA := hid (k.2 _ _ _ _ nA.out (by decide))
  replace nP := hid (k.2 _ _ _ _ nP.out (by decide))
  replace hG := hid (Nat.le_trans hG.out k.1.size)
  replace hB := hid (hB.out.trans (k.1.mono hwb.out))
  clear k
  have a0 := cell_of20 nA.out (j := 0) rfl
  have a1 := cell_of20 nA.out (j := 1) rfl
  have a2 := cell_of20 nA.out (j := 2) rfl
  have a3 := cell_of20 nA.out (j := 3) rfl
  have a4 := cell_of20 nA.out (j := 4) rfl
  have a5 := cell_of20 nA.out (j := 5) rfl
  have a6 := cell_of20 nA.out (j := 6) rfl
  have a7 := cell_of20 nA.out (j := 7) rfl
  have a8 := cell_of20 nA.out (j := 8) rfl
  have a9 := cell_of20 nA.out (j := 9) rfl
  have a10 := cell_of20 nA.out (j := 10) rfl
  have p0 := cell_of20 nP.out (j := 0) rfl
  have p1 := cell_of20 nP.out (j := 1) rfl
  have p2 := cell_of20 nP.out (j := 2) rfl
  have p3 := cell_of20 nP.out (j := 3) rfl
  have p4 := cell_of20 nP.out (j := 4) rfl
  have p5 := cell_of20 nP.out (j := 5) rfl
  have p6 := cell_of20 nP.out (j := 6) rfl
  have p7 := cell_of20 nP.out (j := 7) rfl
  go_wp2_with fail
  rw [rounds_succ]
  go_wp2_with fail
  refine wp_loop_rounds 1 ?_
  rw [rounds_succ]
  go_wp2_with fail
  have hlen : ([] ++ be 1 0 ++ (be 4 y.1 ++ be 4 y.2) ++ (be 4 z.1 ++ be 4 z.2)).length ≤ 900000 := by simp [be_length]
  obtain ⟨g, cap, hvn, hcap, hLb⟩ := bw_row hV.out (by simp [be_ne]) (by omega)
  subst hvn
  obtain ⟨N, hN⟩ : ∃ N, ([] ++ be 1 0 ++ (be 4 y.1 ++ be 4 y.2) ++ (be 4 z.1 ++ be 4 z.2)).length = N := ⟨_, rfl⟩
  have hend : Hid (([] ++ be 1 0 ++ (be 4 y.1 ++ be 4 y.2) ++ (be 4 z.1 ++ be 4 z.2)) ++ ([]) = be 1 0 ++ ((be 4 y.1 ++ be 4 y.2) ++ (be 4 z.1 ++ be 4 z.2))) := by
    show _ = _
    simp only [List.nil_append, List.append_nil, List.append_assoc]
  have hlw : Hid (N + 0 = (be 1 0 ++ ((be 4 y.1 ++ be 4 y.2) ++ (be 4 z.1 ++ be 4 z.2))).length) := by
    show _ = _
    rw [← hend.out, List.length_append, hN]
    simp only [List.length_nil, Nat.add_zero]
  have hNl : N ≤ 900000 := by rw [← hN]; exact hlen
  rw [hN] at hcap hLb
  have i1 : (0 : Int) ≤ (N : Int) := by omega
  have i2 : (N : Int) ≤ (cap : Int) := by omega
  replace hN := hid hN
  have hLd := hid (hLb.below (Below.refl _ _).drew)
  have hDd := hid (hbt.out.below (hB.out.drew))
  have hBd := hid (hB.out.drew)
  try rw [hN.out]
  go_upto_region 30 with fail
  try rw [hN.out]
  have e10 := a10
  replace e10 : World.cell? (World.drew _) _ = some _ := a10
  go_region_law (refine step_app_cut (l := N) (m := 0) rfl (.tmp 104) (.tmp 106) rfl (by simp [Act.eval, Act.put]) (by simp [Act.eval, Act.put]) hLd.out hN.out hDd.out (by rfl) (by omega) ?_; intro ad2 cap2 w9 hb9 hbl9; refine Hid.out ?_; have hfin := hid (And.intro hb9 (hBd.out.trans (hbl9.mono hBd.out.size))); clear hb9 hbl9; refine hid ?_)
  all_goals
    rw [hend.out] at hfin
    go_wp2_with fail
    go_ret2
    exact ⟨ad2, cap2, by rw [← hlw.out]; rfl, hfin.out⟩

set_option maxRecDepth 100000 in
set_option maxHeartbeats 16000000 in
theorem enc_t (k : Int) (ha : Option Addr) (hc : Nat) (da : Option Addr) (dn dc : Nat) (ba : Option Addr) (bc : Nat) (ds : List Dt) (w : World) (hbt : Bytes w ba bc []) (hD : DV w da dn dc ds) (hos : ∀ y, y ∈ ds → y.s = 0 ∨ y.s = 1) (hdl : dn ≤ 2000)
    (hck : ∀ w', Below w.heap.size w w' → Calls Tryd.prog 19 #[.int .i64 k, .agg #[.int .i64 0, .slice ha 0 hc, .bool false, .int .i64 0, .slice da dn dc, .int .i64 0, .int .i64 0, .int .i64 0, .int .i64 0, .int .i64 0, .slice ba 0 bc]] w' fun e w'' => e = .returned (.tuple #[.agg #[.int .i64 0, .bool true, .bool false, .bool false, .bool false, .bool false, .bool false, .bool false], .nilIface]) ∧ Below w'.heap.size w' w'') :
    Calls Tryd.prog 10 #[.int .i64 k, .agg #[.int .i64 0, .slice ha 0 hc, .bool false, .int .i64 0, .slice da dn dc, .int .i64 0, .int .i64 0, .int .i64 0, .int .i64 0, .int .i64 0, .slice ba 0 bc]] w fun e w' => ∃ ad' cap', e = .returned (.tuple #[.slice ad' (be 1 0 ++ ds.flatMap endt).length cap', .nilIface]) ∧ Bytes w' ad' cap' (be 1 0 ++ ds.flatMap endt) ∧ Below w.heap.size w w' := by
  have hbt := hid hbt
  have hdn := hid hD.len
  replace hD := hid hD
  replace hos := hid hos
  have hdl2 : Hid (∀ m, m ≤ dn → ((ds.take m).flatMap endt).length ≤ 20000) := fun m hm => by
    rw [ds_len, List.length_take]
    have : min m ds.length ≤ m := Nat.min_le_left _ _
    omega
  have b1 := balloc20 w (.cells #[.int .i64 0, .slice ha 0 hc, .bool false, .int .i64 0, .slice da dn dc, .int .i64 0, .int .i64 0, .int .i64 0, .int .i64 0, .int .i64 0, .slice ba 0 bc] 34)
  have nA := new_of20 w #[.int .i64 0, .slice ha 0 hc, .bool false, .int .i64 0, .slice da dn dc, .int .i64 0, .int .i64 0, .int .i64 0, .int .i64 0, .int .i64 0, .slice ba 0 bc] 34
  obtain ⟨w1, hw1⟩ : ∃ w1, w.alloc (.cells #[.int .i64 0, .slice ha 0 hc, .bool false, .int .i64 0, .slice da dn dc, .int .i64 0, .int .i64 0, .int .i64 0, .int .i64 0, .int .i64 0, .slice ba 0 bc] 34) = w1 := ⟨_, rfl⟩
  rw [hw1] at b1 nA
  have hc1 := hid (hck w1 b1)
  replace nA := hid nA
  have hB := hid b1
  clear b1 hck
  have a0 := cell_of20 nA.out (j := 0) rfl
  have a1 := cell_of20 nA.out (j := 1) rfl
  have a2 := cell_of20 nA.out (j := 2) rfl
  have a3 := cell_of20 nA.out (j := 3) rfl
  have a4 := cell_of20 nA.out (j := 4) rfl
  have a5 := cell_of20 nA.out (j := 5) rfl
  have a6 := cell_of20 nA.out (j := 6) rfl
  have a7 := cell_of20 nA.out (j := 7) rfl
  have a8 := cell_of20 nA.out (j := 8) rfl
  have a9 := cell_of20 nA.out (j := 9) rfl
  have a10 := cell_of20 nA.out (j := 10) rfl
  go_enter Tryd.func10, Tryd.ntmps10
  go_wp2_with fail
  try rw [hw1]
  clear hw1
  refine hc1.out.mono ?_
  rintro e w2 ⟨rfl, b2⟩
  clear a0 a1 a2 a3 a4 a5 a6 a7 a8 a9 a10
  replace nA := hid (kept20 nA.out b2)
  replace hB := hid (hB.out.trans (b2.mono hB.out.size))
  clear b2 hc1
  go_upto_region 4 with fail
  obtain ⟨w3, hw3⟩ : ∃ w3, w2.alloc (.cells #[.int .i64 0, .bool true, .bool false, .bool false, .bool false, .bool false, .bool false, .bool false] 67) = w3 := ⟨_, rfl⟩
  have nP := new_of20 w2 #[.int .i64 0, .bool true, .bool false, .bool false, .bool false, .bool false, .bool false, .bool false] 67
  have b3 := balloc20 w2 (.cells #[.int .i64 0, .bool true, .bool false, .bool false, .bool false, .bool false, .bool false, .bool false] 67)
  rw [hw3] at nP b3
  try rw [hw3]
  obtain ⟨Pb, hPq⟩ : ∃ Pb, w2.heap.size = Pb := ⟨_, rfl⟩
  replace nA := hid (kept20 nA.out b3)
  replace hB := hid (hB.out.trans (b3.mono hB.out.size))
  rw [hPq] at nP
  try rw [hPq]
  replace nP := hid nP
  clear hw3 hPq b3
  have z1 : IntKind.i64.wrap ((dn : Int) * 9) = ((dn * 9 : Nat) : Int) := by rw [IntKind.wrap_i64]; omega
  obtain ⟨L, hLq⟩ : ∃ L : Nat, 17 + dn * 9 = L := ⟨_, rfl⟩
  have z2 : IntKind.i64.wrap (17 + (dn : Int) * 9) = (L : Int) := by rw [IntKind.wrap_i64]; omega
  have z3 : (17 + (dn : Int) * 9) = (L : Int) := by omega
  have hLl : L ≤ 30000 := by omega
  have hmk2 := mk20 L (by omega)
  replace hLq := hid hLq
  have a0 := cell_of20 nA.out (j := 0) rfl
  have a1 := cell_of20 nA.out (j := 1) rfl
  have a2 := cell_of20 nA.out (j := 2) rfl
  have a3 := cell_of20 nA.out (j := 3) rfl
  have a4 := cell_of20 nA.out (j := 4) rfl
  have a5 := cell_of20 nA.out (j := 5) rfl
  have a6 := cell_of20 nA.out (j := 6) rfl
  have a7 := cell_of20 nA.out (j := 7) rfl
  have a8 := cell_of20 nA.out (j := 8) rfl
  have a9 := cell_of20 nA.out (j := 9) rfl
  have a10 := cell_of20 nA.out (j := 10) rfl
  have p0 := cell_of20 nP.out (j := 0) rfl
  have p1 := cell_of20 nP.out (j := 1) rfl
  have p2 := cell_of20 nP.out (j := 2) rfl
  have p3 := cell_of20 nP.out (j := 3) rfl
  have p4 := cell_of20 nP.out (j := 4) rfl
  have p5 := cell_of20 nP.out (j := 5) rfl
  have p6 := cell_of20 nP.out (j := 6) rfl
  have p7 := cell_of20 nP.out (j := 7) rfl
  go_upto_region 5 with fail
  obtain ⟨G, hGq⟩ : ∃ G, w3.heap.size = G := ⟨_, rfl⟩
  obtain ⟨w4, hw4⟩ : ∃ w4, w3.alloc (.cells (madeCells #[.int .u8 0] L) 5) = w4 := ⟨_, rfl⟩
  have hV0 := own_made20 w3 L (by omega)
  have b4 := balloc20 w3 (.cells (madeCells #[.int .u8 0] L) 5)
  rw [Nat.mul_one] at hV0
  rw [hGq, hw4] at hV0
  rw [hw4] at b4
  try rw [hw4]
  have hV : Hid (Bw G w4 (.slice (some ⟨G, 0, none⟩) 0 L) []) := hV0
  have hwb : Hid (w.heap.size ≤ G) := by show _ ≤ _; rw [← hGq]; exact hB.out.size
  have hG : Hid (G ≤ w4.heap.size) := by show _ ≤ _; rw [← hGq]; exact b4.size
  clear a0 a1 a2 a3 a4 a5 a6 a7 a8 a9 a10 p0 p1 p2 p3 p4 p5 p6 p7
  replace nA := hid (kept20 nA.out b4)
  replace nP := hid (kept20 nP.out b4)
  replace hB := hid (hB.out.trans (b4.mono hB.out.size))
  try rw [hGq]
  clear hV0 b4 hw4 hGq hmk2
  have a0 := cell_of20 nA.out (j := 0) rfl
  have a1 := cell_of20 nA.out (j := 1) rfl
  have a2 := cell_of20 nA.out (j := 2) rfl
  have a3 := cell_of20 nA.out (j := 3) rfl
  have a4 := cell_of20 nA.out (j := 4) rfl
  have a5 := cell_of20 nA.out (j := 5) rfl
  have a6 := cell_of20 nA.out (j := 6) rfl
  have a7 := cell_of20 nA.out (j := 7) rfl
  have a8 := cell_of20 nA.out (j := 8) rfl
  have a9 := cell_of20 nA.out (j := 9) rfl
  have a10 := cell_of20 nA.out (j := 10) rfl
  have p0 := cell_of20 nP.out (j := 0) rfl
  have p1 := cell_of20 nP.out (j := 1) rfl
  have p2 := cell_of20 nP.out (j := 2) rfl
  have p3 := cell_of20 nP.out (j := 3) rfl
  have p4 := cell_of20 nP.out (j := 4) rfl
  have p5 := cell_of20 nP.out (j := 5) rfl
  have p6 := cell_of20 nP.out (j := 6) rfl
  have p7 := cell_of20 nP.out (j := 7) rfl
  have hcall := hid (aput_ok (x := 0) (n := 1) 0 1 rfl rfl hV.out hG.out (by simp) (by omega) (by omega))
  go_wp2_with fail
  refine hcall.out.mono ?_
  rintro e wn ⟨vn, rfl, hx, k⟩
  replace hV := hid hx
  clear hx hcall
  clear a0 a1 a2 a3 a4 a5 a6 a7 a8 a9 a10 p0 p1 p2 p3 p4 p5 p6 p7
  replace nA := hid (k.2 _ _ _ _ nA.out (by decide))
  replace nP := hid (k.2 _ _ _ _ nP.out (by decide))
  replace hG := hid (Nat.le_trans hG.out k.1.size)
  replace hB := hid (hB.out.trans (k.1.mono hwb.out))
  clear k
  have a0 := cell_of20 nA.out (j := 0) rfl
  have a1 := cell_of20 nA.out (j := 1) rfl
  have a2 := cell_of20 nA.out (j := 2) rfl
  have a3 := cell_of20 nA.out (j := 3) rfl
  have a4 := cell_of20 nA.out (j := 4) rfl
  have a5 := cell_of20 nA.out (j := 5) rfl
  have a6 := cell_of20 nA.out (j := 6) rfl
  have a7 := cell_of20 nA.out (j := 7) rfl
  have a8 := cell_of20 nA.out (j := 8) rfl
  have a9 := cell_of20 nA.out (j := 9) rfl
  have a10 := cell_of20 nA.out (j := 10) rfl
  have p0 := cell_of20 nP.out (j := 0) rfl
  have p1 := cell_of20 nP.out (j := 1) rfl
  have p2 := cell_of20 nP.out (j := 2) rfl
  have p3 := cell_of20 nP.out (j := 3) rfl
  have p4 := cell_of20 nP.out (j := 4) rfl
  have p5 := cell_of20 nP.out (j := 5) rfl
  have p6 := cell_of20 nP.out (j := 6) rfl
  have p7 := cell_of20 nP.out (j := 7) rfl
  go_wp2_with fail
  refine wp_loop_rounds 1 ?_
  rw [rounds_succ]
  go_wp2_with fail
  have nA0 := nA
  have nP0 := nP
  have hG0 := hG
  have hB0 := hB
  have hst0 := hid (show Bw G wn vn ([] ++ be 1 0 ++ (ds.take 0).flatMap endt) ∧ Kb G wn wn from ⟨by rw [List.take_zero, List.flatMap_nil, List.append_nil]; exact hV.out, Kb.refl G wn⟩)
  go_loopw [8, 71] (fun u8 u wr => ∃ j : Nat, j ≤ dn ∧ u = .int .i64 (j : Int) ∧ Hid (Bw G wr u8 ([] ++ be 1 0 ++ (ds.take j).flatMap endt) ∧ Kb G wn wr))
    (fun _ u _ => dn - (intOf u).toNat)
  case atStart => exact ⟨0, by omega, by go_num, hst0.out⟩
  case round =>
    obtain ⟨j, hj, rfl, hs⟩ := hrel
    rcases Nat.lt_or_ge j dn with hlt | hge
    · obtain ⟨y, hq⟩ : ∃ y, ds[j]? = some y := ⟨_, List.getElem?_eq_getElem (by rw [hdn.out]; exact hlt)⟩
      obtain ⟨g0, o, rfl, c0, c1, c2⟩ := (hD.out.below (hB0.out.trans (hs.out.2.1.mono hwb.out))).cell j y hq
      have htk := hid (take_next20 hq)
      have hmem := List.mem_of_getElem? hq
      have hyn := hid (hD.out.num y hmem)
      have hys := hid (hos.out y hmem)
      have hpush : Hid (([] ++ be 1 0 ++ (ds.take j).flatMap endt) ++ endt y = [] ++ be 1 0 ++ (ds.take (j + 1)).flatMap endt) := by
        show _ = _
        rw [htk.out, List.flatMap_append, List.append_assoc]
        simp
      have i1 : (0 : Int) ≤ (j : Int) := by omega
      have i2 : (j : Int) < (dn : Int) := by omega
      have hj1 : IntKind.i64.wrap ((j : Int) + 1) = ((j + 1 : Nat) : Int) := by rw [IntKind.wrap_i64]; omega
      have hl := hid (hdl2.out j hj)
      have hGr := Nat.le_trans hG0.out hs.out.2.1.size
      have hcall := hid (putd_ok y hyn.out.1 hyn.out.2 hys.out (ownsRow_below hs.out.1 (balloc20 wr (.cells #[.int .u32 (y.a : Int), .int .u32 (y.p : Int), .int .i64 y.s] 65))) (Nat.le_trans hGr (balloc20 wr (.cells #[.int .u32 (y.a : Int), .int .u32 (y.p : Int), .int .i64 y.s] 65)).size) (by have := hl.out; simp only [List.length_append, List.length_nil, be_length]; omega))
      have k0 := hid (hs.out.2.trans (Kb.ofBelow (balloc20 wr (.cells #[.int .u32 (y.a : Int), .int .u32 (y.p : Int), .int .i64 y.s] 65)) hGr))
      clear hq hmem htk hs hGr
      go_wp2_with fail
      refine hcall.out.mono ?_
      rintro e wz ⟨vz, rfl, hx, k1⟩
      rw [hpush.out] at hx
      have hfin := hid (And.intro hx (k0.out.trans k1))
      clear hx k1 hcall
      go_wp2_with fail
      go_roundw
      case rel => exact ⟨j + 1, by omega, by go_num, hfin.out⟩
      case measure => simp [intOf]; omega
    · have hjn : j = dn := by omega
      have i2 : ¬ (j : Int) < (dn : Int) := by omega
      have hst := hs.out
      rw [List.take_of_length_le (by rw [hdn.out]; omega)] at hst
      have hV := hid hst.1
      have k := hst.2
      have hdl3 : Hid ((ds.flatMap endt).length ≤ 20000) := by
        have := hdl2.out dn (Nat.le_refl _)
        rw [List.take_of_length_le (by rw [hdn.out]; omega)] at this
        exact this
      clear hst hs hst0
      clear a0 a1 a2 a3 a4 a5 a6 a7 a8 a9 a10 p0 p1 p2 p3 p4 p5 p6 p7
      have nA := hid (k.2 _ _ _ _ nA0.out (by decide))
      have nP := hid (k.2 _ _ _ _ nP0.out (by decide))
      have hG := hid (Nat.le_trans hG0.out k.1.size)
      have hB := hid (hB0.out.trans (k.1.mono hwb.out))
      clear k nA0 nP0 hG0 hB0
      have a0 := cell_of20 nA.out (j := 0) rfl
      have a1 := cell_of20 nA.out (j := 1) rfl
      have a2 := cell_of20 nA.out (j := 2) rfl
      have a3 := cell_of20 nA.out (j := 3) rfl
      have a4 := cell_of20 nA.out (j := 4) rfl
      have a5 := cell_of20 nA.out (j := 5) rfl
      have a6 := cell_of20 nA.out (j := 6) rfl
      have a7 := cell_of20 nA.out (j := 7) rfl
      have a8 := cell_of20 nA.out (j := 8) rfl
      have a9 := cell_of20 nA.out (j := 9) rfl
      have a10 := cell_of20 nA.out (j := 10) rfl
      have p0 := cell_of20 nP.out (j := 0) rfl
      have p1 := cell_of20 nP.out (j := 1) rfl
      have p2 := cell_of20 nP.out (j := 2) rfl
      have p3 := cell_of20 nP.out (j := 3) rfl
      have p4 := cell_of20 nP.out (j := 4) rfl
      have p5 := cell_of20 nP.out (j := 5) rfl
      have p6 := cell_of20 nP.out (j := 6) rfl
      have p7 := cell_of20 nP.out (j := 7) rfl
      go_wp2_with fail
      have hlen : ([] ++ be 1 0 ++ ds.flatMap endt).length ≤ 900000 := by have := hdl3.out; simp only [List.length_append, List.length_nil, be_length]; omega
      obtain ⟨g, cap, hvn, hcap, hLb⟩ := bw_row hV.out (by simp [be_ne]) (by omega)
      subst hvn
      obtain ⟨N, hN⟩ : ∃ N, ([] ++ be 1 0 ++ ds.flatMap endt).length = N := ⟨_, rfl⟩
      have hend : Hid (([] ++ be 1 0 ++ ds.flatMap endt) ++ ([]) = be 1 0 ++ ds.flatMap endt) := by
        show _ = _
        simp only [List.nil_append, List.append_nil, List.append_assoc]
      have hlw : Hid (N + 0 = (be 1 0 ++ ds.flatMap endt).length) := by
        show _ = _
        rw [← hend.out, List.length_append, hN]
        simp only [List.length_nil, Nat.add_zero]
      have hNl : N ≤ 900000 := by rw [← hN]; exact hlen
      rw [hN] at hcap hLb
      have i1 : (0 : Int) ≤ (N : Int) := by omega
      have i2 : (N : Int) ≤ (cap : Int) := by omega
      replace hN := hid hN
      have hLd := hid (hLb.below (Below.refl _ _).drew)
      have hDd := hid (hbt.out.below (hB.out.drew))
      have hBd := hid (hB.out.drew)
      try rw [hN.out]
      go_upto_region 30 with fail
      try rw [hN.out]
      have e10 := a10
      replace e10 : World.cell? (World.drew _) _ = some _ := a10
      go_region_law (refine step_app_cut (l := N) (m := 0) rfl (.tmp 104) (.tmp 106) rfl (by simp [Act.eval, Act.put]) (by simp [Act.eval, Act.put]) hLd.out hN.out hDd.out (by rfl) (by omega) ?_; intro ad2 cap2 w9 hb9 hbl9; refine Hid.out ?_; have hfin := hid (And.intro hb9 (hBd.out.trans (hbl9.mono hBd.out.size))); clear hb9 hbl9; refine hid ?_)
      all_goals
        rw [hend.out] at hfin
        go_wp2_with fail
        go_ret2
        exact ⟨ad2, cap2, by rw [← hlw.out]; rfl, hfin.out⟩

set_option maxRecDepth 100000 in
set_option maxHeartbeats 16000000 in
theorem enc_f (k : Int) (ha : Option Addr) (hc : Nat) (da : Option Addr) (dn dc : Nat) (ba : Option Addr) (bc : Nat) (ds : List Dt) (w : World) (hbt : Bytes w ba bc []) (hD : DV w da dn dc ds) (hos : ∀ y, y ∈ ds → y.s = 0 ∨ y.s = 1) (hdl : dn ≤ 2000)
    (hck : ∀ w', Below w.heap.size w w' → Calls Tryd.prog 19 #[.int .i64 k, .agg #[.int .i64 0, .slice ha 0 hc, .bool false, .int .i64 0, .slice da dn dc, .int .i64 0, .int .i64 0, .int .i64 0, .int .i64 0, .int .i64 0, .slice ba 0 bc]] w' fun e w'' => e = .returned (.tuple #[.agg #[.int .i64 0, .bool false, .bool true, .bool false, .bool false, .bool false, .bool false, .bool false], .nilIface]) ∧ Below w'.heap.size w' w'') :
    Calls Tryd.prog 10 #[.int .i64 k, .agg #[.int .i64 0, .slice ha 0 hc, .bool false, .int .i64 0, .slice da dn dc, .int .i64 0, .int .i64 0, .int .i64 0, .int .i64 0, .int .i64 0, .slice ba 0 bc]] w fun e w' => ∃ ad' cap', e = .returned (.tuple #[.slice ad' (be 1 0 ++ (be 4 dn ++ ds.flatMap endt)).length cap', .nilIface]) ∧ Bytes w' ad' cap' (be 1 0 ++ (be 4 dn ++ ds.flatMap endt)) ∧ Below w.heap.size w w' := by
  have hbt := hid hbt
  have hdn := hid hD.len
  replace hD := hid hD
  replace hos := hid hos
  have hdl2 : Hid (∀ m, m ≤ dn → ((ds.take m).flatMap endt).length ≤ 20000) := fun m hm => by
    rw [ds_len, List.length_take]
    have : min m ds.length ≤ m := Nat.min_le_left _ _
    omega
  have b1 := balloc20 w (.cells #[.int .i64 0, .slice ha 0 hc, .bool false, .int .i64 0, .slice da dn dc, .int .i64 0, .int .i64 0, .int .i64 0, .int .i64 0, .int .i64 0, .slice ba 0 bc] 34)
  have nA := new_of20 w #[.int .i64 0, .slice ha 0 hc, .bool false, .int .i64 0, .slice da dn dc, .int .i64 0, .int .i64 0, .int .i64 0, .int .i64 0, .int .i64 0, .slice ba 0 bc] 34
  obtain ⟨w1, hw1⟩ : ∃ w1, w.alloc (.cells #[.int .i64 0, .slice ha 0 hc, .bool false, .int .i64 0, .slice da dn dc, .int .i64 0, .int .i64 0, .int .i64 0, .int .i64 0, .int .i64 0, .slice ba 0 bc] 34) = w1 := ⟨_, rfl⟩
  rw [hw1] at b1 nA
  have hc1 := hid (hck w1 b1)
  replace nA := hid nA
  have hB := hid b1
  clear b1 hck
  have a0 := cell_of20 nA.out (j := 0) rfl
  have a1 := cell_of20 nA.out (j := 1) rfl
  have a2 := cell_of20 nA.out (j := 2) rfl
  have a3 := cell_of20 nA.out (j := 3) rfl
  have a4 := cell_of20 nA.out (j := 4) rfl
  have a5 := cell_of20 nA.out (j := 5) rfl
  have a6 := cell_of20 nA.out (j := 6) rfl
  have a7 := cell_of20 nA.out (j := 7) rfl
  have a8 := cell_of20 nA.out (j := 8) rfl
  have a9 := cell_of20 nA.out (j := 9) rfl
  have a10 := cell_of20 nA.out (j := 10) rfl
  go_enter Tryd.func10, Tryd.ntmps10
  go_wp2_with fail
  try rw [hw1]
  clear hw1
  refine hc1.out.mono ?_
  rintro e w2 ⟨rfl, b2⟩
  clear a0 a1 a2 a3 a4 a5 a6 a7 a8 a9 a10
  replace nA := hid (kept20 nA.out b2)
  replace hB := hid (hB.out.trans (b2.mono hB.out.size))
  clear b2 hc1
  go_upto_region 4 with fail
  obtain ⟨w3, hw3⟩ : ∃ w3, w2.alloc (.cells #[.int .i64 0, .bool false, .bool true, .bool false, .bool false, .bool false, .bool false, .bool false] 67) = w3 := ⟨_, rfl⟩
  have nP := new_of20 w2 #[.int .i64 0, .bool false, .bool true, .bool false, .bool false, .bool false, .bool false, .bool false] 67
  have b3 := balloc20 w2 (.cells #[.int .i64 0, .bool false, .bool true, .bool false, .bool false, .bool false, .bool false, .bool false] 67)
  rw [hw3] at nP b3
  try rw [hw3]
  obtain ⟨Pb, hPq⟩ : ∃ Pb, w2.heap.size = Pb := ⟨_, rfl⟩
  replace nA := hid (kept20 nA.out b3)
  replace hB := hid (hB.out.trans (b3.mono hB.out.size))
  rw [hPq] at nP
  try rw [hPq]
  replace nP := hid nP
  clear hw3 hPq b3
  have z1 : IntKind.i64.wrap ((dn : Int) * 9) = ((dn * 9 : Nat) : Int) := by rw [IntKind.wrap_i64]; omega
  obtain ⟨L, hLq⟩ : ∃ L : Nat, 17 + dn * 9 = L := ⟨_, rfl⟩
  have z2 : IntKind.i64.wrap (17 + (dn : Int) * 9) = (L : Int) := by rw [IntKind.wrap_i64]; omega
  have z3 : (17 + (dn : Int) * 9) = (L : Int) := by omega
  have hLl : L ≤ 30000 := by omega
  have hmk2 := mk20 L (by omega)
  replace hLq := hid hLq
  have a0 := cell_of20 nA.out (j := 0) rfl
  have a1 := cell_of20 nA.out (j := 1) rfl
  have a2 := cell_of20 nA.out (j := 2) rfl
  have a3 := cell_of20 nA.out (j := 3) rfl
  have a4 := cell_of20 nA.out (j := 4) rfl
  have a5 := cell_of20 nA.out (j := 5) rfl
  have a6 := cell_of20 nA.out (j := 6) rfl
  have a7 := cell_of20 nA.out (j := 7) rfl
  have a8 := cell_of20 nA.out (j := 8) rfl
  have a9 := cell_of20 nA.out (j := 9) rfl
  have a10 := cell_of20 nA.out (j := 10) rfl
  have p0 := cell_of20 nP.out (j := 0) rfl
  have p1 := cell_of20 nP.out (j := 1) rfl
  have p2 := cell_of20 nP.out (j := 2) rfl
  have p3 := cell_of20 nP.out (j := 3) rfl
  have p4 := cell_of20 nP.out (j := 4) rfl
  have p5 := cell_of20 nP.out (j := 5) rfl
  have p6 := cell_of20 nP.out (j := 6) rfl
  have p7 := cell_of20 nP.out (j := 7) rfl
  go_upto_region 5 with fail
  obtain ⟨G, hGq⟩ : ∃ G, w3.heap.size = G := ⟨_, rfl⟩
  obtain ⟨w4, hw4⟩ : ∃ w4, w3.alloc (.cells (madeCells #[.int .u8 0] L) 5) = w4 := ⟨_, rfl⟩
  have hV0 := own_made20 w3 L (by omega)
  have b4 := balloc20 w3 (.cells (madeCells #[.int .u8 0] L) 5)
  rw [Nat.mul_one] at hV0
  rw [hGq, hw4] at hV0
  rw [hw4] at b4
  try rw [hw4]
  have hV : Hid (Bw G w4 (.slice (some ⟨G, 0, none⟩) 0 L) []) := hV0
  have hwb : Hid (w.heap.size ≤ G) := by show _ ≤ _; rw [← hGq]; exact hB.out.size
  have hG : Hid (G ≤ w4.heap.size) := by show _ ≤ _; rw [← hGq]; exact b4.size
  clear a0 a1 a2 a3 a4 a5 a6 a7 a8 a9 a10 p0 p1 p2 p3 p4 p5 p6 p7
  replace nA := hid (kept20 nA.out b4)
  replace nP := hid (kept20 nP.out b4)
  replace hB := hid (hB.out.trans (b4.mono hB.out.size))
  try rw [hGq]
  clear hV0 b4 hw4 hGq hmk2
  have a0 := cell_of20 nA.out (j := 0) rfl
  have a1 := cell_of20 nA.out (j := 1) rfl
  have a2 := cell_of20 nA.out (j := 2) rfl
  have a3 := cell_of20 nA.out (j := 3) rfl
  have a4 := cell_of20 nA.out (j := 4) rfl
  have a5 := cell_of20 nA.out (j := 5) rfl
  have a6 := cell_of20 nA.out (j := 6) rfl
  have a7 := cell_of20 nA.out (j := 7) rfl
  have a8 := cell_of20 nA.out (j := 8) rfl
  have a9 := cell_of20 nA.out (j := 9) rfl
  have a10 := cell_of20 nA.out (j := 10) rfl
  have p0 := cell_of20 nP.out (j := 0) rfl
  have p1 := cell_of20 nP.out (j := 1) rfl
  have p2 := cell_of20 nP.out (j := 2) rfl
  have p3 := cell_of20 nP.out (j := 3) rfl
  have p4 := cell_of20 nP.out (j := 4) rfl
  have p5 := cell_of20 nP.out (j := 5) rfl
  have p6 := cell_of20 nP.out (j := 6) rfl
  have p7 := cell_of20 nP.out (j := 7) rfl
  have hcall := hid (aput_ok (x := 0) (n := 1) 0 1 rfl rfl hV.out hG.out (by simp) (by omega) (by omega))
  go_wp2_with fail
  refine hcall.out.mono ?_
  rintro e wn ⟨vn, rfl, hx, k⟩
  replace hV := hid hx
  clear hx hcall
  clear a0 a1 a2 a3 a4 a5 a6 a7 a8 a9 a10 p0 p1 p2 p3 p4 p5 p6 p7
  replace nA := hid (k.2 _ _ _ _ nA.out (by decide))
  replace nP := hid (k.2 _ _ _ _ nP.out (by decide))
  replace hG := hid (Nat.le_trans hG.out k.1.size)
  replace hB := hid (hB.out.trans (k.1.mono hwb.out))
  clear k
  have a0 := cell_of20 nA.out (j := 0) rfl
  have a1 := cell_of20 nA.out (j := 1) rfl
  have a2 := cell_of20 nA.out (j := 2) rfl
  have a3 := cell_of20 nA.out (j := 3) rfl
  have a4 := cell_of20 nA.out (j := 4) rfl
  have a5 := cell_of20 nA.out (j := 5) rfl
  have a6 := cell_of20 nA.out (j := 6) rfl
  have a7 := cell_of20 nA.out (j := 7) rfl
  have a8 := cell_of20 nA.out (j := 8) rfl
  have a9 := cell_of20 nA.out (j := 9) rfl
  have a10 := cell_of20 nA.out (j := 10) rfl
  have p0 := cell_of20 nP.out (j := 0) rfl
  have p1 := cell_of20 nP.out (j := 1) rfl
  have p2 := cell_of20 nP.out (j := 2) rfl
  have p3 := cell_of20 nP.out (j := 3) rfl
  have p4 := cell_of20 nP.out (j := 4) rfl
  have p5 := cell_of20 nP.out (j := 5) rfl
  have p6 := cell_of20 nP.out (j := 6) rfl
  have p7 := cell_of20 nP.out (j := 7) rfl
  go_wp2_with fail
  refine wp_loop_rounds 1 ?_
  rw [rounds_succ]
  go_wp2_with fail
  have hcall := hid (aput_ok (x := (dn : Int)) (n := 4) dn 4 rfl rfl hV.out hG.out (by simp [be_length]) (by omega) (by omega))
  refine hcall.out.mono ?_
  rintro e wn ⟨vn, rfl, hx, k⟩
  replace hV := hid hx
  clear hx hcall
  clear a0 a1 a2 a3 a4 a5 a6 a7 a8 a9 a10 p0 p1 p2 p3 p4 p5 p6 p7
  replace nA := hid (k.2 _ _ _ _ nA.out (by decide))
  replace nP := hid (k.2 _ _ _ _ nP.out (by decide))
  replace hG := hid (Nat.le_trans hG.out k.1.size)
  replace hB := hid (hB.out.trans (k.1.mono hwb.out))
  clear k
  have a0 := cell_of20 nA.out (j := 0) rfl
  have a1 := cell_of20 nA.out (j := 1) rfl
  have a2 := cell_of20 nA.out (j := 2) rfl
  have a3 := cell_of20 nA.out (j := 3) rfl
  have a4 := cell_of20 nA.out (j := 4) rfl
  have a5 := cell_of20 nA.out (j := 5) rfl
  have a6 := cell_of20 nA.out (j := 6) rfl
  have a7 := cell_of20 nA.out (j := 7) rfl
  have a8 := cell_of20 nA.out (j := 8) rfl
  have a9 := cell_of20 nA.out (j := 9) rfl
  have a10 := cell_of20 nA.out (j := 10) rfl
  have p0 := cell_of20 nP.out (j := 0) rfl
  have p1 := cell_of20 nP.out (j := 1) rfl
  have p2 := cell_of20 nP.out (j := 2) rfl
  have p3 := cell_of20 nP.out (j := 3) rfl
  have p4 := cell_of20 nP.out (j := 4) rfl
  have p5 := cell_of20 nP.out (j := 5) rfl
  have p6 := cell_of20 nP.out (j := 6) rfl
  have p7 := cell_of20 nP.out (j := 7) rfl
  go_wp2_with fail
  have nA0 := nA
  have nP0 := nP
  have hG0 := hG
  have hB0 := hB
  have hst0 := hid (show Bw G wn vn ([] ++ be 1 0 ++ be 4 dn ++ (ds.take 0).flatMap endt) ∧ Kb G wn wn from ⟨by rw [List.take_zero, List.flatMap_nil, List.append_nil]; exact hV.out, Kb.refl G wn⟩)
  go_loopw [8, 71] (fun u8 u wr => ∃ j : Nat, j ≤ dn ∧ u = .int .i64 (j : Int) ∧ Hid (Bw G wr u8 ([] ++ be 1 0 ++ be 4 dn ++ (ds.take j).flatMap endt) ∧ Kb G wn wr))
    (fun _ u _ => dn - (intOf u).toNat)
  case atStart => exact ⟨0, by omega, by go_num, hst0.out⟩
  case round =>
    obtain ⟨j, hj, rfl, hs⟩ := hrel
    rcases Nat.lt_or_ge j dn with hlt | hge
    · obtain ⟨y, hq⟩ : ∃ y, ds[j]? = some y := ⟨_, List.getElem?_eq_getElem (by rw [hdn.out]; exact hlt)⟩
      obtain ⟨g0, o, rfl, c0, c1, c2⟩ := (hD.out.below (hB0.out.trans (hs.out.2.1.mono hwb.out))).cell j y hq
      have htk := hid (take_next20 hq)
      have hmem := List.mem_of_getElem? hq
      have hyn := hid (hD.out.num y hmem)
      have hys := hid (hos.out y hmem)
      have hpush : Hid (([] ++ be 1 0 ++ be 4 dn ++ (ds.take j).flatMap endt) ++ endt y = [] ++ be 1 0 ++ be 4 dn ++ (ds.take (j + 1)).flatMap endt) := by
        show _ = _
        rw [htk.out, List.flatMap_append, List.append_assoc]
        simp
      have i1 : (0 : Int) ≤ (j : Int) := by omega
      have i2 : (j : Int) < (dn : Int) := by omega
      have hj1 : IntKind.i64.wrap ((j : Int) + 1) = ((j + 1 : Nat) : Int) := by rw [IntKind.wrap_i64]; omega
      have hl := hid (hdl2.out j hj)
      have hGr := Nat.le_trans hG0.out hs.out.2.1.size
      have hcall := hid (putd_ok y hyn.out.1 hyn.out.2 hys.out (ownsRow_below hs.out.1 (balloc20 wr (.cells #[.int .u32 (y.a : Int), .int .u32 (y.p : Int), .int .i64 y.s] 65))) (Nat.le_trans hGr (balloc20 wr (.cells #[.int .u32 (y.a : Int), .int .u32 (y.p : Int), .int .i64 y.s] 65)).size) (by have := hl.out; simp only [List.length_append, List.length_nil, be_length]; omega))
      have k0 := hid (hs.out.2.trans (Kb.ofBelow (balloc20 wr (.cells #[.int .u32 (y.a : Int), .int .u32 (y.p : Int), .int .i64 y.s] 65)) hGr))
      clear hq hmem htk hs hGr
      go_wp2_with fail
      refine hcall.out.mono ?_
      rintro e wz ⟨vz, rfl, hx, k1⟩
      rw [hpush.out] at hx
      have hfin := hid (And.intro hx (k0.out.trans k1))
      clear hx k1 hcall
      go_wp2_with fail
      go_roundw
      case rel => exact ⟨j + 1, by omega, by go_num, hfin.out⟩
      case measure => simp [intOf]; omega
    · have hjn : j = dn := by omega
      have i2 : ¬ (j : Int) < (dn : Int) := by omega
      have hst := hs.out
      rw [List.take_of_length_le (by rw [hdn.out]; omega)] at hst
      have hV := hid hst.1
      have k := hst.2
      have hdl3 : Hid ((ds.flatMap endt).length ≤ 20000) := by
        have := hdl2.out dn (Nat.le_refl _)
        rw [List.take_of_length_le (by rw [hdn.out]; omega)] at this
        exact this
      clear hst hs hst0
      clear a0 a1 a2 a3 a4 a5 a6 a7 a8 a9 a10 p0 p1 p2 p3 p4 p5 p6 p7
      have nA := hid (k.2 _ _ _ _ nA0.out (by decide))
      have nP := hid (k.2 _ _ _ _ nP0.out (by decide))
      have hG := hid (Nat.le_trans hG0.out k.1.size)
      have hB := hid (hB0.out.trans (k.1.mono hwb.out))
      clear k nA0 nP0 hG0 hB0
      have a0 := cell_of20 nA.out (j := 0) rfl
      have a1 := cell_of20 nA.out (j := 1) rfl
      have a2 := cell_of20 nA.out (j := 2) rfl
      have a3 := cell_of20 nA.out (j := 3) rfl
      have a4 := cell_of20 nA.out (j := 4) rfl
      have a5 := cell_of20 nA.out (j := 5) rfl
      have a6 := cell_of20 nA.out (j := 6) rfl
      have a7 := cell_of20 nA.out (j := 7) rfl
      have a8 := cell_of20 nA.out (j := 8) rfl
      have a9 := cell_of20 nA.out (j := 9) rfl
      have a10 := cell_of20 nA.out (j := 10) rfl
      have p0 := cell_of20 nP.out (j := 0) rfl
      have p1 := cell_of20 nP.out (j := 1) rfl
      have p2 := cell_of20 nP.out (j := 2) rfl
      have p3 := cell_of20 nP.out (j := 3) rfl
      have p4 := cell_of20 nP.out (j := 4) rfl
      have p5 := cell_of20 nP.out (j := 5) rfl
      have p6 := cell_of20 nP.out (j := 6) rfl
      have p7 := cell_of20 nP.out (j := 7) rfl
      go_wp2_with fail
      have hlen : ([] ++ be 1 0 ++ be 4 dn ++ ds.flatMap endt).length ≤ 900000 := by have := hdl3.out; simp only [List.length_append, List.length_nil, be_length]; omega
      obtain ⟨g, cap, hvn, hcap, hLb⟩ := bw_row hV.out (by simp [be_ne]) (by omega)
      subst hvn
      obtain ⟨N, hN⟩ : ∃ N, ([] ++ be 1 0 ++ be 4 dn ++ ds.flatMap endt).length = N := ⟨_, rfl⟩
      have hend : Hid (([] ++ be 1 0 ++ be 4 dn ++ ds.flatMap endt) ++ ([]) = be 1 0 ++ (be 4 dn ++ ds.flatMap endt)) := by
        show _ = _
        simp only [List.nil_append, List.append_nil, List.append_assoc]
      have hlw : Hid (N + 0 = (be 1 0 ++ (be 4 dn ++ ds.flatMap endt)).length) := by
        show _ = _
        rw [← hend.out, List.length_append, hN]
        simp only [List.length_nil, Nat.add_zero]
      have hNl : N ≤ 900000 := by rw [← hN]; exact hlen
      rw [hN] at hcap hLb
      have i1 : (0 : Int) ≤ (N : Int) := by omega
      have i2 : (N : Int) ≤ (cap : Int) := by omega
      replace hN := hid hN
      have hLd := hid (hLb.below (Below.refl _ _).drew)
      have hDd := hid (hbt.out.below (hB.out.drew))
      have hBd := hid (hB.out.drew)
      try rw [hN.out]
      go_upto_region 30 with fail
      try rw [hN.out]
      have e10 := a10
      replace e10 : World.cell? (World.drew _) _ = some _ := a10
      go_region_law (refine step_app_cut (l := N) (m := 0) rfl (.tmp 104) (.tmp 106) rfl (by simp [Act.eval, Act.put]) (by simp [Act.eval, Act.put]) hLd.out hN.out hDd.out (by rfl) (by omega) ?_; intro ad2 cap2 w9 hb9 hbl9; refine Hid.out ?_; have hfin := hid (And.intro hb9 (hBd.out.trans (hbl9.mono hBd.out.size))); clear hb9 hbl9; refine hid ?_)
      all_goals
        rw [hend.out] at hfin
        go_wp2_with fail
        go_ret2
        exact ⟨ad2, cap2, by rw [← hlw.out]; rfl, hfin.out⟩

set_option maxRecDepth 100000 in
set_option maxHeartbeats 16000000 in
theorem enc_c (k : Int) (ha : Option Addr) (hc : Nat) (da : Option Addr) (dc : Nat) (ba : Option Addr) (bc : Nat) (c0 c1 c2 c3 : Nat) (h0 : c0 ≤ 4294967295) (h1 : c1 ≤ 4294967295) (h2 : c2 ≤ 4294967295) (h3 : c3 ≤ 4294967295) (w : World) (hbt : Bytes w ba bc [])
    (hck : ∀ w', Below w.heap.size w w' → Calls Tryd.prog 19 #[.int .i64 k, .agg #[.int .i64 0, .slice ha 0 hc, .bool false, .int .i64 0, .slice da 0 dc, .int .i64 (c0 : Int), .int .i64 (c1 : Int), .int .i64 (c2 : Int), .int .i64 (c3 : Int), .int .i64 0, .slice ba 0 bc]] w' fun e w'' => e = .returned (.tuple #[.agg #[.int .i64 0, .bool false, .bool false, .bool false, .bool false, .bool true, .bool false, .bool false], .nilIface]) ∧ Below w'.heap.size w' w'') :
    Calls Tryd.prog 10 #[.int .i64 k, .agg #[.int .i64 0, .slice ha 0 hc, .bool false, .int .i64 0, .slice da 0 dc, .int .i64 (c0 : Int), .int .i64 (c1 : Int), .int .i64 (c2 : Int), .int .i64 (c3 : Int), .int .i64 0, .slice ba 0 bc]] w fun e w' => ∃ ad' cap', e = .returned (.tuple #[.slice ad' (be 1 0 ++ (be 4 c0 ++ (be 4 c1 ++ (be 4 c2 ++ be 4 c3)))).length cap', .nilIface]) ∧ Bytes w' ad' cap' (be 1 0 ++ (be 4 c0 ++ (be 4 c1 ++ (be 4 c2 ++ be 4 c3)))) ∧ Below w.heap.size w w' := by
  have hbt := hid hbt
  have hw0 : IntKind.u64.wrap (c0 : Int) = (c0 : Int) := by rw [wrapU]; omega
  have hw1 : IntKind.u64.wrap (c1 : Int) = (c1 : Int) := by rw [wrapU]; omega
  have hw2 : IntKind.u64.wrap (c2 : Int) = (c2 : Int) := by rw [wrapU]; omega
  have hw3 : IntKind.u64.wrap (c3 : Int) = (c3 : Int) := by rw [wrapU]; omega
  have b1 := balloc20 w (.cells #[.int .i64 0, .slice ha 0 hc, .bool false, .int .i64 0, .slice da 0 dc, .int .i64 (c0 : Int), .int .i64 (c1 : Int), .int .i64 (c2 : Int), .int .i64 (c3 : Int), .int .i64 0, .slice ba 0 bc] 34)
  have nA := new_of20 w #[.int .i64 0, .slice ha 0 hc, .bool false, .int .i64 0, .slice da 0 dc, .int .i64 (c0 : Int), .int .i64 (c1 : Int), .int .i64 (c2 : Int), .int .i64 (c3 : Int), .int .i64 0, .slice ba 0 bc] 34
  obtain ⟨w1, hw1⟩ : ∃ w1, w.alloc (.cells #[.int .i64 0, .slice ha 0 hc, .bool false, .int .i64 0, .slice da 0 dc, .int .i64 (c0 : Int), .int .i64 (c1 : Int), .int .i64 (c2 : Int), .int .i64 (c3 : Int), .int .i64 0, .slice ba 0 bc] 34) = w1 := ⟨_, rfl⟩
  rw [hw1] at b1 nA
  have hc1 := hid (hck w1 b1)
  replace nA := hid nA
  have hB := hid b1
  clear b1 hck
  have a0 := cell_of20 nA.out (j := 0) rfl
  have a1 := cell_of20 nA.out (j := 1) rfl
  have a2 := cell_of20 nA.out (j := 2) rfl
  have a3 := cell_of20 nA.out (j := 3) rfl
  have a4 := cell_of20 nA.out (j := 4) rfl
  have a5 := cell_of20 nA.out (j := 5) rfl
  have a6 := cell_of20 nA.out (j := 6) rfl
  have a7 := cell_of20 nA.out (j := 7) rfl
  have a8 := cell_of20 nA.out (j := 8) rfl
  have a9 := cell_of20 nA.out (j := 9) rfl
  have a10 := cell_of20 nA.out (j := 10) rfl
  go_enter Tryd.func10, Tryd.ntmps10
  go_wp2_with fail
  try rw [hw1]
  clear hw1
  refine hc1.out.mono ?_
  rintro e w2 ⟨rfl, b2⟩
  clear a0 a1 a2 a3 a4 a5 a6 a7 a8 a9 a10
  replace nA := hid (kept20 nA.out b2)
  replace hB := hid (hB.out.trans (b2.mono hB.out.size))
  clear b2 hc1
  go_upto_region 4 with fail
  obtain ⟨w3, hw3⟩ : ∃ w3, w2.alloc (.cells #[.int .i64 0, .bool false, .bool false, .bool false, .bool false, .bool true, .bool false, .bool false] 67) = w3 := ⟨_, rfl⟩
  have nP := new_of20 w2 #[.int .i64 0, .bool false, .bool false, .bool false, .bool false, .bool true, .bool false, .bool false] 67
  have b3 := balloc20 w2 (.cells #[.int .i64 0, .bool false, .bool false, .bool false, .bool false, .bool true, .bool false, .bool false] 67)
  rw [hw3] at nP b3
  try rw [hw3]
  obtain ⟨Pb, hPq⟩ : ∃ Pb, w2.heap.size = Pb := ⟨_, rfl⟩
  replace nA := hid (kept20 nA.out b3)
  replace hB := hid (hB.out.trans (b3.mono hB.out.size))
  rw [hPq] at nP
  try rw [hPq]
  replace nP := hid nP
  clear hw3 hPq b3
  have hmk : ∀ w : World, (Instr.makeSlice 25 (.int .i64 0) (.int .i64 17)).run Tryd.prog w = .ok (.slice (some ⟨w.heap.size, 0, none⟩) 0 17) (w.alloc (.cells (madeCells #[.int .u8 0] (17 * 1)) 5)) := fun w => mk20 17 (by omega) w
  obtain ⟨L, hLq⟩ : ∃ L : Nat, L = 17 := ⟨17, rfl⟩
  have hmk2 : ∀ w : World, (Instr.makeSlice 25 (.int .i64 0) (.int .i64 17)).run Tryd.prog w = .ok (.slice (some ⟨w.heap.size, 0, none⟩) 0 L) (w.alloc (.cells (madeCells #[.int .u8 0] (L * 1)) 5)) := fun w => by subst hLq; exact mk20 17 (by omega) w
  have hLl : L ≤ 30000 := by omega
  clear hmk hLq
  have a0 := cell_of20 nA.out (j := 0) rfl
  have a1 := cell_of20 nA.out (j := 1) rfl
  have a2 := cell_of20 nA.out (j := 2) rfl
  have a3 := cell_of20 nA.out (j := 3) rfl
  have a4 := cell_of20 nA.out (j := 4) rfl
  have a5 := cell_of20 nA.out (j := 5) rfl
  have a6 := cell_of20 nA.out (j := 6) rfl
  have a7 := cell_of20 nA.out (j := 7) rfl
  have a8 := cell_of20 nA.out (j := 8) rfl
  have a9 := cell_of20 nA.out (j := 9) rfl
  have a10 := cell_of20 nA.out (j := 10) rfl
  have p0 := cell_of20 nP.out (j := 0) rfl
  have p1 := cell_of20 nP.out (j := 1) rfl
  have p2 := cell_of20 nP.out (j := 2) rfl
  have p3 := cell_of20 nP.out (j := 3) rfl
  have p4 := cell_of20 nP.out (j := 4) rfl
  have p5 := cell_of20 nP.out (j := 5) rfl
  have p6 := cell_of20 nP.out (j := 6) rfl
  have p7 := cell_of20 nP.out (j := 7) rfl
  go_upto_region 5 with fail
  obtain ⟨G, hGq⟩ : ∃ G, w3.heap.size = G := ⟨_, rfl⟩
  obtain ⟨w4, hw4⟩ : ∃ w4, w3.alloc (.cells (madeCells #[.int .u8 0] L) 5) = w4 := ⟨_, rfl⟩
  have hV0 := own_made20 w3 L (by omega)
  have b4 := balloc20 w3 (.cells (madeCells #[.int .u8 0] L) 5)
  rw [Nat.mul_one] at hV0
  rw [hGq, hw4] at hV0
  rw [hw4] at b4
  try rw [hw4]
  have hV : Hid (Bw G w4 (.slice (some ⟨G, 0, none⟩) 0 L) []) := hV0
  have hwb : Hid (w.heap.size ≤ G) := by show _ ≤ _; rw [← hGq]; exact hB.out.size
  have hG : Hid (G ≤ w4.heap.size) := by show _ ≤ _; rw [← hGq]; exact b4.size
  clear a0 a1 a2 a3 a4 a5 a6 a7 a8 a9 a10 p0 p1 p2 p3 p4 p5 p6 p7
  replace nA := hid (kept20 nA.out b4)
  replace nP := hid (kept20 nP.out b4)
  replace hB := hid (hB.out.trans (b4.mono hB.out.size))
  try rw [hGq]
  clear hV0 b4 hw4 hGq hmk2
  have a0 := cell_of20 nA.out (j := 0) rfl
  have a1 := cell_of20 nA.out (j := 1) rfl
  have a2 := cell_of20 nA.out (j := 2) rfl
  have a3 := cell_of20 nA.out (j := 3) rfl
  have a4 := cell_of20 nA.out (j := 4) rfl
  have a5 := cell_of20 nA.out (j := 5) rfl
  have a6 := cell_of20 nA.out (j := 6) rfl
  have a7 := cell_of20 nA.out (j := 7) rfl
  have a8 := cell_of20 nA.out (j := 8) rfl
  have a9 := cell_of20 nA.out (j := 9) rfl
  have a10 := cell_of20 nA.out (j := 10) rfl
  have p0 := cell_of20 nP.out (j := 0) rfl
  have p1 := cell_of20 nP.out (j := 1) rfl
  have p2 := cell_of20 nP.out (j := 2) rfl
  have p3 := cell_of20 nP.out (j := 3) rfl
  have p4 := cell_of20 nP.out (j := 4) rfl
  have p5 := cell_of20 nP.out (j := 5) rfl
  have p6 := cell_of20 nP.out (j := 6) rfl
  have p7 := cell_of20 nP.out (j := 7) rfl
  have hcall := hid (aput_ok (x := 0) (n := 1) 0 1 rfl rfl hV.out hG.out (by simp) (by omega) (by omega))
  go_wp2_with fail
  refine hcall.out.mono ?_
  rintro e wn ⟨vn, rfl, hx, k⟩
  replace hV := hid hx
  clear hx hcall
  clear a0 a1 a2 a3 a4 a5 a6 a7 a8 a9 a10 p0 p1 p2 p3 p4 p5 p6 p7
  replace nA := hid (k.2 _ _ _ _ nA.out (by decide))
  replace nP := hid (k.2 _ _ _ _ nP.out (by decide))
  replace hG := hid (Nat.le_trans hG.out k.1.size)
  replace hB := hid (hB.out.trans (k.1.mono hwb.out))
  clear k
  have a0 := cell_of20 nA.out (j := 0) rfl
  have a1 := cell_of20 nA.out (j := 1) rfl
  have a2 := cell_of20 nA.out (j := 2) rfl
  have a3 := cell_of20 nA.out (j := 3) rfl
  have a4 := cell_of20 nA.out (j := 4) rfl
  have a5 := cell_of20 nA.out (j := 5) rfl
  have a6 := cell_of20 nA.out (j := 6) rfl
  have a7 := cell_of20 nA.out (j := 7) rfl
  have a8 := cell_of20 nA.out (j := 8) rfl
  have a9 := cell_of20 nA.out (j := 9) rfl
  have a10 := cell_of20 nA.out (j := 10) rfl
  have p0 := cell_of20 nP.out (j := 0) rfl
  have p1 := cell_of20 nP.out (j := 1) rfl
  have p2 := cell_of20 nP.out (j := 2) rfl
  have p3 := cell_of20 nP.out (j := 3) rfl
  have p4 := cell_of20 nP.out (j := 4) rfl
  have p5 := cell_of20 nP.out (j := 5) rfl
  have p6 := cell_of20 nP.out (j := 6) rfl
  have p7 := cell_of20 nP.out (j := 7) rfl
  go_wp2_with fail
  refine wp_loop_rounds 1 ?_
  rw [rounds_succ]
  go_wp2_with fail
  refine wp_loop_rounds 1 ?_
  rw [rounds_succ]
  go_wp2_with fail
  refine (numbers_ok c0 c1 c2 c3 _).mono ?_
  rintro e wn ⟨rfl, bn⟩
  have k := Kb.ofBelow bn hG.out
  replace hV := hid (show Bw G _ _ _ from ownsRow_below hV.out bn)
  clear bn
  clear a0 a1 a2 a3 a4 a5 a6 a7 a8 a9 a10 p0 p1 p2 p3 p4 p5 p6 p7
  replace nA := hid (k.2 _ _ _ _ nA.out (by decide))
  replace nP := hid (k.2 _ _ _ _ nP.out (by decide))
  replace hG := hid (Nat.le_trans hG.out k.1.size)
  replace hB := hid (hB.out.trans (k.1.mono hwb.out))
  clear k
  have a0 := cell_of20 nA.out (j := 0) rfl
  have a1 := cell_of20 nA.out (j := 1) rfl
  have a2 := cell_of20 nA.out (j := 2) rfl
  have a3 := cell_of20 nA.out (j := 3) rfl
  have a4 := cell_of20 nA.out (j := 4) rfl
  have a5 := cell_of20 nA.out (j := 5) rfl
  have a6 := cell_of20 nA.out (j := 6) rfl
  have a7 := cell_of20 nA.out (j := 7) rfl
  have a8 := cell_of20 nA.out (j := 8) rfl
  have a9 := cell_of20 nA.out (j := 9) rfl
  have a10 := cell_of20 nA.out (j := 10) rfl
  have p0 := cell_of20 nP.out (j := 0) rfl
  have p1 := cell_of20 nP.out (j := 1) rfl
  have p2 := cell_of20 nP.out (j := 2) rfl
  have p3 := cell_of20 nP.out (j := 3) rfl
  have p4 := cell_of20 nP.out (j := 4) rfl
  have p5 := cell_of20 nP.out (j := 5) rfl
  have p6 := cell_of20 nP.out (j := 6) rfl
  have p7 := cell_of20 nP.out (j := 7) rfl
  go_wp2_with fail
  refine wp_loop_rounds 5 ?_
  rw [rounds_succ]
  have hcall := hid (aput_ok (x := (c0 : Int)) (n := 4) c0 4 rfl rfl hV.out hG.out (by simp [be_length]) (by omega) (by omega))
  go_wp2_with fail
  refine hcall.out.mono ?_
  rintro e wn ⟨vn, rfl, hx, k⟩
  replace hV := hid hx
  clear hx hcall
  clear a0 a1 a2 a3 a4 a5 a6 a7 a8 a9 a10 p0 p1 p2 p3 p4 p5 p6 p7
  replace nA := hid (k.2 _ _ _ _ nA.out (by decide))
  replace nP := hid (k.2 _ _ _ _ nP.out (by decide))
  replace hG := hid (Nat.le_trans hG.out k.1.size)
  replace hB := hid (hB.out.trans (k.1.mono hwb.out))
  clear k
  have a0 := cell_of20 nA.out (j := 0) rfl
  have a1 := cell_of20 nA.out (j := 1) rfl
  have a2 := cell_of20 nA.out (j := 2) rfl
  have a3 := cell_of20 nA.out (j := 3) rfl
  have a4 := cell_of20 nA.out (j := 4) rfl
  have a5 := cell_of20 nA.out (j := 5) rfl
  have a6 := cell_of20 nA.out (j := 6) rfl
  have a7 := cell_of20 nA.out (j := 7) rfl
  have a8 := cell_of20 nA.out (j := 8) rfl
  have a9 := cell_of20 nA.out (j := 9) rfl
  have a10 := cell_of20 nA.out (j := 10) rfl
  have p0 := cell_of20 nP.out (j := 0) rfl
  have p1 := cell_of20 nP.out (j := 1) rfl
  have p2 := cell_of20 nP.out (j := 2) rfl
  have p3 := cell_of20 nP.out (j := 3) rfl
  have p4 := cell_of20 nP.out (j := 4) rfl
  have p5 := cell_of20 nP.out (j := 5) rfl
  have p6 := cell_of20 nP.out (j := 6) rfl
  have p7 := cell_of20 nP.out (j := 7) rfl
  go_wp2_with fail
  rw [rounds_succ]
  have hcall := hid (aput_ok (x := (c1 : Int)) (n := 4) c1 4 rfl rfl hV.out hG.out (by simp [be_length]) (by omega) (by omega))
  go_wp2_with fail
  refine hcall.out.mono ?_
  rintro e wn ⟨vn, rfl, hx, k⟩
  replace hV := hid hx
  clear hx hcall
  clear a0 a1 a2 a3 a4 a5 a6 a7 a8 a9 a10 p0 p1 p2 p3 p4 p5 p6 p7
  replace nA := hid (k.2 _ _ _ _ nA.out (by decide))
  replace nP := hid (k.2 _ _ _ _ nP.out (by decide))
  replace hG := hid (Nat.le_trans hG.out k.1.size)
  replace hB := hid (hB.out.trans (k.1.mono hwb.out))
  clear k
  have a0 := cell_of20 nA.out (j := 0) rfl
  have a1 := cell_of20 nA.out (j := 1) rfl
  have a2 := cell_of20 nA.out (j := 2) rfl
  have a3 := cell_of20 nA.out (j := 3) rfl
  have a4 := cell_of20 nA.out (j := 4) rfl
  have a5 := cell_of20 nA.out (j := 5) rfl
  have a6 := cell_of20 nA.out (j := 6) rfl
  have a7 := cell_of20 nA.out (j := 7) rfl
  have a8 := cell_of20 nA.out (j := 8) rfl
  have a9 := cell_of20 nA.out (j := 9) rfl
  have a10 := cell_of20 nA.out (j := 10) rfl
  have p0 := cell_of20 nP.out (j := 0) rfl
  have p1 := cell_of20 nP.out (j := 1) rfl
  have p2 := cell_of20 nP.out (j := 2) rfl
  have p3 := cell_of20 nP.out (j := 3) rfl
  have p4 := cell_of20 nP.out (j := 4) rfl
  have p5 := cell_of20 nP.out (j := 5) rfl
  have p6 := cell_of20 nP.out (j := 6) rfl
  have p7 := cell_of20 nP.out (j := 7) rfl
  go_wp2_with fail
  rw [rounds_succ]
  have hcall := hid (aput_ok (x := (c2 : Int)) (n := 4) c2 4 rfl rfl hV.out hG.out (by simp [be_length]) (by omega) (by omega))
  go_wp2_with fail
  refine hcall.out.mono ?_
  rintro e wn ⟨vn, rfl, hx, k⟩
  replace hV := hid hx
  clear hx hcall
  clear a0 a1 a2 a3 a4 a5 a6 a7 a8 a9 a10 p0 p1 p2 p3 p4 p5 p6 p7
  replace nA := hid (k.2 _ _ _ _ nA.out (by decide))
  replace nP := hid (k.2 _ _ _ _ nP.out (by decide))
  replace hG := hid (Nat.le_trans hG.out k.1.size)
  replace hB := hid (hB.out.trans (k.1.mono hwb.out))
  clear k
  have a0 := cell_of20 nA.out (j := 0) rfl
  have a1 := cell_of20 nA.out (j := 1) rfl
  have a2 := cell_of20 nA.out (j := 2) rfl
  have a3 := cell_of20 nA.out (j := 3) rfl
  have a4 := cell_of20 nA.out (j := 4) rfl
  have a5 := cell_of20 nA.out (j := 5) rfl
  have a6 := cell_of20 nA.out (j := 6) rfl
  have a7 := cell_of20 nA.out (j := 7) rfl
  have a8 := cell_of20 nA.out (j := 8) rfl
  have a9 := cell_of20 nA.out (j := 9) rfl
  have a10 := cell_of20 nA.out (j := 10) rfl
  have p0 := cell_of20 nP.out (j := 0) rfl
  have p1 := cell_of20 nP.out (j := 1) rfl
  have p2 := cell_of20 nP.out (j := 2) rfl
  have p3 := cell_of20 nP.out (j := 3) rfl
  have p4 := cell_of20 nP.out (j := 4) rfl
  have p5 := cell_of20 nP.out (j := 5) rfl
  have p6 := cell_of20 nP.out (j := 6) rfl
  have p7 := cell_of20 nP.out (j := 7) rfl
  go_wp2_with fail
  rw [rounds_succ]
  have hcall := hid (aput_ok (x := (c3 : Int)) (n := 4) c3 4 rfl rfl hV.out hG.out (by simp [be_length]) (by omega) (by omega))
  go_wp2_with fail
  refine hcall.out.mono ?_
  rintro e wn ⟨vn, rfl, hx, k⟩
  replace hV := hid hx
  clear hx hcall
  clear a0 a1 a2 a3 a4 a5 a6 a7 a8 a9 a10 p0 p1 p2 p3 p4 p5 p6 p7
  replace nA := hid (k.2 _ _ _ _ nA.out (by decide))
  replace nP := hid (k.2 _ _ _ _ nP.out (by decide))
  replace hG := hid (Nat.le_trans hG.out k.1.size)
  replace hB := hid (hB.out.trans (k.1.mono hwb.out))
  clear k
  have a0 := cell_of20 nA.out (j := 0) rfl
  have a1 := cell_of20 nA.out (j := 1) rfl
  have a2 := cell_of20 nA.out (j := 2) rfl
  have a3 := cell_of20 nA.out (j := 3) rfl
  have a4 := cell_of20 nA.out (j := 4) rfl
  have a5 := cell_of20 nA.out (j := 5) rfl
  have a6 := cell_of20 nA.out (j := 6) rfl
  have a7 := cell_of20 nA.out (j := 7) rfl
  have a8 := cell_of20 nA.out (j := 8) rfl
  have a9 := cell_of20 nA.out (j := 9) rfl
  have a10 := cell_of20 nA.out (j := 10) rfl
  have p0 := cell_of20 nP.out (j := 0) rfl
  have p1 := cell_of20 nP.out (j := 1) rfl
  have p2 := cell_of20 nP.out (j := 2) rfl
  have p3 := cell_of20 nP.out (j := 3) rfl
  have p4 := cell_of20 nP.out (j := 4) rfl
  have p5 := cell_of20 nP.out (j := 5) rfl
  have p6 := cell_of20 nP.out (j := 6) rfl
  have p7 := cell_of20 nP.out (j := 7) rfl
  go_wp2_with fail
  rw [rounds_succ]
  go_wp2_with fail
  have hlen : ([] ++ be 1 0 ++ be 4 c0 ++ be 4 c1 ++ be 4 c2 ++ be 4 c3).length ≤ 900000 := by simp [be_length]
  obtain ⟨g, cap, hvn, hcap, hLb⟩ := bw_row hV.out (by simp [be_ne]) (by omega)
  subst hvn
  obtain ⟨N, hN⟩ : ∃ N, ([] ++ be 1 0 ++ be 4 c0 ++ be 4 c1 ++ be 4 c2 ++ be 4 c3).length = N := ⟨_, rfl⟩
  have hend : Hid (([] ++ be 1 0 ++ be 4 c0 ++ be 4 c1 ++ be 4 c2 ++ be 4 c3) ++ ([]) = be 1 0 ++ (be 4 c0 ++ (be 4 c1 ++ (be 4 c2 ++ be 4 c3)))) := by
    show _ = _
    simp only [List.nil_append, List.append_nil, List.append_assoc]
  have hlw : Hid (N + 0 = (be 1 0 ++ (be 4 c0 ++ (be 4 c1 ++ (be 4 c2 ++ be 4 c3)))).length) := by
    show _ = _
    rw [← hend.out, List.length_append, hN]
    simp only [List.length_nil, Nat.add_zero]
  have hNl : N ≤ 900000 := by rw [← hN]; exact hlen
  rw [hN] at hcap hLb
  have i1 : (0 : Int) ≤ (N : Int) := by omega
  have i2 : (N : Int) ≤ (cap : Int) := by omega
  replace hN := hid hN
  have hLd := hid (hLb.below (Below.refl _ _).drew)
  have hDd := hid (hbt.out.below (hB.out.drew))
  have hBd := hid (hB.out.drew)
  try rw [hN.out]
  go_upto_region 30 with fail
  try rw [hN.out]
  have e10 := a10
  replace e10 : World.cell? (World.drew _) _ = some _ := a10
  go_region_law (refine step_app_cut (l := N) (m := 0) rfl (.tmp 104) (.tmp 106) rfl (by simp [Act.eval, Act.put]) (by simp [Act.eval, Act.put]) hLd.out hN.out hDd.out (by rfl) (by omega) ?_; intro ad2 cap2 w9 hb9 hbl9; refine Hid.out ?_; have hfin := hid (And.intro hb9 (hBd.out.trans (hbl9.mono hBd.out.size))); clear hb9 hbl9; refine hid ?_)
  all_goals
    rw [hend.out] at hfin
    go_wp2_with fail
    go_ret2
    exact ⟨ad2, cap2, by rw [← hlw.out]; rfl, hfin.out⟩

set_option maxRecDepth 100000 in
set_option maxHeartbeats 16000000 in
theorem enc_d (k : Int) (ha : Option Addr) (hc : Nat) (da : Option Addr) (dc : Nat) (ba : Option Addr) (bn bc : Nat) (d : List UInt8) (w : World) (hbt : Bytes w ba bc d) (hbl : d.length = bn) (hb3 : bn ≤ 3000)
    (hck : ∀ w', Below w.heap.size w w' → Calls Tryd.prog 19 #[.int .i64 k, .agg #[.int .i64 0, .slice ha 0 hc, .bool false, .int .i64 0, .slice da 0 dc, .int .i64 0, .int .i64 0, .int .i64 0, .int .i64 0, .int .i64 0, .slice ba bn bc]] w' fun e w'' => e = .returned (.tuple #[.agg #[.int .i64 0, .bool false, .bool false, .bool false, .bool false, .bool false, .bool false, .bool true], .nilIface]) ∧ Below w'.heap.size w' w'') :
    Calls Tryd.prog 10 #[.int .i64 k, .agg #[.int .i64 0, .slice ha 0 hc, .bool false, .int .i64 0, .slice da 0 dc, .int .i64 0, .int .i64 0, .int .i64 0, .int .i64 0, .int .i64 0, .slice ba bn bc]] w fun e w' => ∃ ad' cap', e = .returned (.tuple #[.slice ad' (be 1 0 ++ d).length cap', .nilIface]) ∧ Bytes w' ad' cap' (be 1 0 ++ d) ∧ Below w.heap.size w w' := by
  have hbt := hid hbt
  replace hbl := hid hbl
  have b1 := balloc20 w (.cells #[.int .i64 0, .slice ha 0 hc, .bool false, .int .i64 0, .slice da 0 dc, .int .i64 0, .int .i64 0, .int .i64 0, .int .i64 0, .int .i64 0, .slice ba bn bc] 34)
  have nA := new_of20 w #[.int .i64 0, .slice ha 0 hc, .bool false, .int .i64 0, .slice da 0 dc, .int .i64 0, .int .i64 0, .int .i64 0, .int .i64 0, .int .i64 0, .slice ba bn bc] 34
  obtain ⟨w1, hw1⟩ : ∃ w1, w.alloc (.cells #[.int .i64 0, .slice ha 0 hc, .bool false, .int .i64 0, .slice da 0 dc, .int .i64 0, .int .i64 0, .int .i64 0, .int .i64 0, .int .i64 0, .slice ba bn bc] 34) = w1 := ⟨_, rfl⟩
  rw [hw1] at b1 nA
  have hc1 := hid (hck w1 b1)
  replace nA := hid nA
  have hB := hid b1
  clear b1 hck
  have a0 := cell_of20 nA.out (j := 0) rfl
  have a1 := cell_of20 nA.out (j := 1) rfl
  have a2 := cell_of20 nA.out (j := 2) rfl
  have a3 := cell_of20 nA.out (j := 3) rfl
  have a4 := cell_of20 nA.out (j := 4) rfl
  have a5 := cell_of20 nA.out (j := 5) rfl
  have a6 := cell_of20 nA.out (j := 6) rfl
  have a7 := cell_of20 nA.out (j := 7) rfl
  have a8 := cell_of20 nA.out (j := 8) rfl
  have a9 := cell_of20 nA.out (j := 9) rfl
  have a10 := cell_of20 nA.out (j := 10) rfl
  go_enter Tryd.func10, Tryd.ntmps10
  go_wp2_with fail
  try rw [hw1]
  clear hw1
  refine hc1.out.mono ?_
  rintro e w2 ⟨rfl, b2⟩
  clear a0 a1 a2 a3 a4 a5 a6 a7 a8 a9 a10
  replace nA := hid (kept20 nA.out b2)
  replace hB := hid (hB.out.trans (b2.mono hB.out.size))
  clear b2 hc1
  go_upto_region 4 with fail
  obtain ⟨w3, hw3⟩ : ∃ w3, w2.alloc (.cells #[.int .i64 0, .bool false, .bool false, .bool false, .bool false, .bool false, .bool false, .bool true] 67) = w3 := ⟨_, rfl⟩
  have nP := new_of20 w2 #[.int .i64 0, .bool false, .bool false, .bool false, .bool false, .bool false, .bool false, .bool true] 67
  have b3 := balloc20 w2 (.cells #[.int .i64 0, .bool false, .bool false, .bool false, .bool false, .bool false, .bool false, .bool true] 67)
  rw [hw3] at nP b3
  try rw [hw3]
  obtain ⟨Pb, hPq⟩ : ∃ Pb, w2.heap.size = Pb := ⟨_, rfl⟩
  replace nA := hid (kept20 nA.out b3)
  replace hB := hid (hB.out.trans (b3.mono hB.out.size))
  rw [hPq] at nP
  try rw [hPq]
  replace nP := hid nP
  clear hw3 hPq b3
  have hmk : ∀ w : World, (Instr.makeSlice 25 (.int .i64 0) (.int .i64 17)).run Tryd.prog w = .ok (.slice (some ⟨w.heap.size, 0, none⟩) 0 17) (w.alloc (.cells (madeCells #[.int .u8 0] (17 * 1)) 5)) := fun w => mk20 17 (by omega) w
  obtain ⟨L, hLq⟩ : ∃ L : Nat, L = 17 := ⟨17, rfl⟩
  have hmk2 : ∀ w : World, (Instr.makeSlice 25 (.int .i64 0) (.int .i64 17)).run Tryd.prog w = .ok (.slice (some ⟨w.heap.size, 0, none⟩) 0 L) (w.alloc (.cells (madeCells #[.int .u8 0] (L * 1)) 5)) := fun w => by subst hLq; exact mk20 17 (by omega) w
  have hLl : L ≤ 30000 := by omega
  clear hmk hLq
  have a0 := cell_of20 nA.out (j := 0) rfl
  have a1 := cell_of20 nA.out (j := 1) rfl
  have a2 := cell_of20 nA.out (j := 2) rfl
  have a3 := cell_of20 nA.out (j := 3) rfl
  have a4 := cell_of20 nA.out (j := 4) rfl
  have a5 := cell_of20 nA.out (j := 5) rfl
  have a6 := cell_of20 nA.out (j := 6) rfl
  have a7 := cell_of20 nA.out (j := 7) rfl
  have a8 := cell_of20 nA.out (j := 8) rfl
  have a9 := cell_of20 nA.out (j := 9) rfl
  have a10 := cell_of20 nA.out (j := 10) rfl
  have p0 := cell_of20 nP.out (j := 0) rfl
  have p1 := cell_of20 nP.out (j := 1) rfl
  have p2 := cell_of20 nP.out (j := 2) rfl
  have p3 := cell_of20 nP.out (j := 3) rfl
  have p4 := cell_of20 nP.out (j := 4) rfl
  have p5 := cell_of20 nP.out (j := 5) rfl
  have p6 := cell_of20 nP.out (j := 6) rfl
  have p7 := cell_of20 nP.out (j := 7) rfl
  go_upto_region 5 with fail
  obtain ⟨G, hGq⟩ : ∃ G, w3.heap.size = G := ⟨_, rfl⟩
  obtain ⟨w4, hw4⟩ : ∃ w4, w3.alloc (.cells (madeCells #[.int .u8 0] L) 5) = w4 := ⟨_, rfl⟩
  have hV0 := own_made20 w3 L (by omega)
  have b4 := balloc20 w3 (.cells (madeCells #[.int .u8 0] L) 5)
  rw [Nat.mul_one] at hV0
  rw [hGq, hw4] at hV0
  rw [hw4] at b4
  try rw [hw4]
  have hV : Hid (Bw G w4 (.slice (some ⟨G, 0, none⟩) 0 L) []) := hV0
  have hwb : Hid (w.heap.size ≤ G) := by show _ ≤ _; rw [← hGq]; exact hB.out.size
  have hG : Hid (G ≤ w4.heap.size) := by show _ ≤ _; rw [← hGq]; exact b4.size
  clear a0 a1 a2 a3 a4 a5 a6 a7 a8 a9 a10 p0 p1 p2 p3 p4 p5 p6 p7
  replace nA := hid (kept20 nA.out b4)
  replace nP := hid (kept20 nP.out b4)
  replace hB := hid (hB.out.trans (b4.mono hB.out.size))
  try rw [hGq]
  clear hV0 b4 hw4 hGq hmk2
  have a0 := cell_of20 nA.out (j := 0) rfl
  have a1 := cell_of20 nA.out (j := 1) rfl
  have a2 := cell_of20 nA.out (j := 2) rfl
  have a3 := cell_of20 nA.out (j := 3) rfl
  have a4 := cell_of20 nA.out (j := 4) rfl
  have a5 := cell_of20 nA.out (j := 5) rfl
  have a6 := cell_of20 nA.out (j := 6) rfl
  have a7 := cell_of20 nA.out (j := 7) rfl
  have a8 := cell_of20 nA.out (j := 8) rfl
  have a9 := cell_of20 nA.out (j := 9) rfl
  have a10 := cell_of20 nA.out (j := 10) rfl
  have p0 := cell_of20 nP.out (j := 0) rfl
  have p1 := cell_of20 nP.out (j := 1) rfl
  have p2 := cell_of20 nP.out (j := 2) rfl
  have p3 := cell_of20 nP.out (j := 3) rfl
  have p4 := cell_of20 nP.out (j := 4) rfl
  have p5 := cell_of20 nP.out (j := 5) rfl
  have p6 := cell_of20 nP.out (j := 6) rfl
  have p7 := cell_of20 nP.out (j := 7) rfl
  have hcall := hid (aput_ok (x := 0) (n := 1) 0 1 rfl rfl hV.out hG.out (by simp) (by omega) (by omega))
  go_wp2_with fail
  refine hcall.out.mono ?_
  rintro e wn ⟨vn, rfl, hx, k⟩
  replace hV := hid hx
  clear hx hcall
  clear a0 a1 a2 a3 a4 a5 a6 a7 a8 a9 a10 p0 p1 p2 p3 p4 p5 p6 p7
  replace nA := hid (k.2 _ _ _ _ nA.out (by decide))
  replace nP := hid (k.2 _ _ _ _ nP.out (by decide))
  replace hG := hid (Nat.le_trans hG.out k.1.size)
  replace hB := hid (hB.out.trans (k.1.mono hwb.out))
  clear k
  have a0 := cell_of20 nA.out (j := 0) rfl
  have a1 := cell_of20 nA.out (j := 1) rfl
  have a2 := cell_of20 nA.out (j := 2) rfl
  have a3 := cell_of20 nA.out (j := 3) rfl
  have a4 := cell_of20 nA.out (j := 4) rfl
  have a5 := cell_of20 nA.out (j := 5) rfl
  have a6 := cell_of20 nA.out (j := 6) rfl
  have a7 := cell_of20 nA.out (j := 7) rfl
  have a8 := cell_of20 nA.out (j := 8) rfl
  have a9 := cell_of20 nA.out (j := 9) rfl
  have a10 := cell_of20 nA.out (j := 10) rfl
  have p0 := cell_of20 nP.out (j := 0) rfl
  have p1 := cell_of20 nP.out (j := 1) rfl
  have p2 := cell_of20 nP.out (j := 2) rfl
  have p3 := cell_of20 nP.out (j := 3) rfl
  have p4 := cell_of20 nP.out (j := 4) rfl
  have p5 := cell_of20 nP.out (j := 5) rfl
  have p6 := cell_of20 nP.out (j := 6) rfl
  have p7 := cell_of20 nP.out (j := 7) rfl
  go_wp2_with fail
  refine wp_loop_rounds 1 ?_
  rw [rounds_succ]
  go_wp2_with fail
  refine wp_loop_rounds 1 ?_
  rw [rounds_succ]
  go_wp2_with fail
  have hlen : ([] ++ be 1 0).length ≤ 900000 := by simp [be_length]
  obtain ⟨g, cap, hvn, hcap, hLb⟩ := bw_row hV.out (by simp [be_ne]) (by omega)
  subst hvn
  obtain ⟨N, hN⟩ : ∃ N, ([] ++ be 1 0).length = N := ⟨_, rfl⟩
  have hend : Hid (([] ++ be 1 0) ++ (d) = be 1 0 ++ d) := by
    show _ = _
    simp only [List.nil_append]
  have hlw : Hid (N + bn = (be 1 0 ++ d).length) := by
    show _ = _
    rw [← hend.out, List.length_append, hN]
    simp only [List.length_nil, hbl.out]
  have hNl : N ≤ 900000 := by rw [← hN]; exact hlen
  rw [hN] at hcap hLb
  have i1 : (0 : Int) ≤ (N : Int) := by omega
  have i2 : (N : Int) ≤ (cap : Int) := by omega
  replace hN := hid hN
  have hLd := hid (hLb.below (Below.refl _ _).drew)
  have hDd := hid (hbt.out.below (hB.out.drew))
  have hBd := hid (hB.out.drew)
  try rw [hN.out]
  go_upto_region 30 with fail
  try rw [hN.out]
  have e10 := a10
  replace e10 : World.cell? (World.drew _) _ = some _ := a10
  go_region_law (refine step_app_cut (l := N) (m := bn) rfl (.tmp 104) (.tmp 106) rfl (by simp [Act.eval, Act.put]) (by simp [Act.eval, Act.put]) hLd.out hN.out hDd.out hbl.out (by omega) ?_; intro ad2 cap2 w9 hb9 hbl9; refine Hid.out ?_; have hfin := hid (And.intro hb9 (hBd.out.trans (hbl9.mono hBd.out.size))); clear hb9 hbl9; refine hid ?_)
  all_goals
    rw [hend.out] at hfin
    go_wp2_with fail
    go_ret2
    exact ⟨ad2, cap2, by rw [← hlw.out]; rfl, hfin.out⟩

end Go.Proofs.YtkopcfpghklbbaaDoor
