/- answer's Encode, walked: one theorem a kind of answer (first part). -/
import Derived.Test.YtkopcfpghklbbaaDoorCut20
namespace Go.Proofs.YtkopcfpghklbbaaDoor
open Go.RowKit
set_option linter.unusedVariables false
set_option linter.unusedSimpArgs false
attribute [local go_sem] idx40 idx41 idx42 idx43

theorem bw_row {base : Nat} {w : World} {v : Value} {l : List UInt8} (h : Bw base w v l) (h0 : l ≠ []) (hl : l.length ≤ 1000000) : ∃ g cap, v = .slice (some ⟨g, 0, none⟩) l.length cap ∧ l.length ≤ cap ∧ Bytes w (some ⟨g, 0, none⟩) l.length l := by
  obtain ⟨ad, cap, e, hb⟩ := Bw.bytes h (by omega)
  rcases h.2 with ⟨_, h1⟩ | ⟨g, c, cur, e2, _⟩
  · exact absurd (List.eq_nil_of_length_eq_zero h1) h0
  · rw [e2] at e
    injection e with q1 q2 q3
    subst q1 q3
    exact ⟨g, c, e2, hb.le, Nat.le_refl _, hb.bound, by simp, hb.cell⟩

theorem own_made20 (w : World) (L : Nat) (h : L ≤ 1000000) : Bw w.heap.size (w.alloc (.cells (madeCells #[.int .u8 0] (L * 1)) 5)) (.slice (some ⟨w.heap.size, 0, none⟩) 0 L) [] := 
  World.ownsRow_made w _ L (Nat.le_refl _) (by unfold maxLen; omega) (size_madeCells _ _)

theorem be_ne (n v : Nat) : be (n + 1) v ≠ [] := by simp [be]

set_option maxRecDepth 100000 in
set_option maxHeartbeats 16000000 in
theorem enc_z (k : Int) (ha : Option Addr) (hc : Nat) (da : Option Addr) (dc : Nat) (ba : Option Addr) (bc : Nat) (w : World) (hbt : Bytes w ba bc [])
    (hck : ∀ w', Below w.heap.size w w' → Calls Tryd.prog 19 #[.int .i64 k, .agg #[.int .i64 0, .slice ha 0 hc, .bool false, .int .i64 0, .slice da 0 dc, .int .i64 0, .int .i64 0, .int .i64 0, .int .i64 0, .int .i64 0, .slice ba 0 bc]] w' fun e w'' => e = .returned (.tuple #[.agg #[.int .i64 0, .bool false, .bool false, .bool false, .bool false, .bool false, .bool false, .bool false], .nilIface]) ∧ Below w'.heap.size w' w'') :
    Calls Tryd.prog 10 #[.int .i64 k, .agg #[.int .i64 0, .slice ha 0 hc, .bool false, .int .i64 0, .slice da 0 dc, .int .i64 0, .int .i64 0, .int .i64 0, .int .i64 0, .int .i64 0, .slice ba 0 bc]] w fun e w' => ∃ ad' cap', e = .returned (.tuple #[.slice ad' (be 1 0).length cap', .nilIface]) ∧ Bytes w' ad' cap' (be 1 0) ∧ Below w.heap.size w w' := by
  have hbt := hid hbt
  have b1 := balloc20 w (.cells #[.int .i64 0, .slice ha 0 hc, .bool false, .int .i64 0, .slice da 0 dc, .int .i64 0, .int .i64 0, .int .i64 0, .int .i64 0, .int .i64 0, .slice ba 0 bc] 34)
  have nA := new_of20 w #[.int .i64 0, .slice ha 0 hc, .bool false, .int .i64 0, .slice da 0 dc, .int .i64 0, .int .i64 0, .int .i64 0, .int .i64 0, .int .i64 0, .slice ba 0 bc] 34
  obtain ⟨w1, hw1⟩ : ∃ w1, w.alloc (.cells #[.int .i64 0, .slice ha 0 hc, .bool false, .int .i64 0, .slice da 0 dc, .int .i64 0, .int .i64 0, .int .i64 0, .int .i64 0, .int .i64 0, .slice ba 0 bc] 34) = w1 := ⟨_, rfl⟩
  rw [hw1] at b1 nA
  have hc1 := hid (hck w1 b1)
  replace nA := hid nA
  have hB := hid b1
  clear b1 hck
  have a0 := cell_of20 nA.out (j := 0) rfl
  have a1 := cell_of20 nA.out (j := 1) rfl
  have a2 := cell_of20 nA.out (j := 2) rfl
  have a3 := cell_of20 nA.out (j := 3) rfl
  have a4 := cell_of20 nA.out (j := 4) rfl
  have a5 := cell_of20 nA.out (j := 5) rfl
  have a6 := cell_of20 nA.out (j := 6) rfl
  have a7 := cell_of20 nA.out (j := 7) rfl
  have a8 := cell_of20 nA.out (j := 8) rfl
  have a9 := cell_of20 nA.out (j := 9) rfl
  have a10 := cell_of20 nA.out (j := 10) rfl
  go_enter Tryd.func10, Tryd.ntmps10
  go_wp2_with fail
  try rw [hw1]
  clear hw1
  refine hc1.out.mono ?_
  rintro e w2 ⟨rfl, b2⟩
  clear a0 a1 a2 a3 a4 a5 a6 a7 a8 a9 a10
  replace nA := hid (kept20 nA.out b2)
  replace hB := hid (hB.out.trans (b2.mono hB.out.size))
  clear b2 hc1
  go_upto_region 4 with fail
  obtain ⟨w3, hw3⟩ : ∃ w3, w2.alloc (.cells #[.int .i64 0, .bool false, .bool false, .bool false, .bool false, .bool false, .bool false, .bool false] 67) = w3 := ⟨_, rfl⟩
  have nP := new_of20 w2 #[.int .i64 0, .bool false, .bool false, .bool false, .bool false, .bool false, .bool false, .bool false] 67
  have b3 := balloc20 w2 (.cells #[.int .i64 0, .bool false, .bool false, .bool false, .bool false, .bool false, .bool false, .bool false] 67)
  rw [hw3] at nP b3
  try rw [hw3]
  obtain ⟨Pb, hPq⟩ : ∃ Pb, w2.heap.size = Pb := ⟨_, rfl⟩
  replace nA := hid (kept20 nA.out b3)
  replace hB := hid (hB.out.trans (b3.mono hB.out.size))
  rw [hPq] at nP
  try rw [hPq]
  replace nP := hid nP
  clear hw3 hPq b3
  have hmk : ∀ w : World, (Instr.makeSlice 25 (.int .i64 0) (.int .i64 17)).run Tryd.prog w = .ok (.slice (some ⟨w.heap.size, 0, none⟩) 0 17) (w.alloc (.cells (madeCells #[.int .u8 0] (17 * 1)) 5)) := fun w => mk20 17 (by omega) w
  obtain ⟨L, hLq⟩ : ∃ L : Nat, L = 17 := ⟨17, rfl⟩
  have hmk2 : ∀ w : World, (Instr.makeSlice 25 (.int .i64 0) (.int .i64 17)).run Tryd.prog w = .ok (.slice (some ⟨w.heap.size, 0, none⟩) 0 L) (w.alloc (.cells (madeCells #[.int .u8 0] (L * 1)) 5)) := fun w => by subst hLq; exact mk20 17 (by omega) w
  have hLl : L ≤ 30000 := by omega
  clear hmk hLq
  have a0 := cell_of20 nA.out (j := 0) rfl
  have a1 := cell_of20 nA.out (j := 1) rfl
  have a2 := cell_of20 nA.out (j := 2) rfl
  have a3 := cell_of20 nA.out (j := 3) rfl
  have a4 := cell_of20 nA.out (j := 4) rfl
  have a5 := cell_of20 nA.out (j := 5) rfl
  have a6 := cell_of20 nA.out (j := 6) rfl
  have a7 := cell_of20 nA.out (j := 7) rfl
  have a8 := cell_of20 nA.out (j := 8) rfl
  have a9 := cell_of20 nA.out (j := 9) rfl
  have a10 := cell_of20 nA.out (j := 10) rfl
  have p0 := cell_of20 nP.out (j := 0) rfl
  have p1 := cell_of20 nP.out (j := 1) rfl
  have p2 := cell_of20 nP.out (j := 2) rfl
  have p3 := cell_of20 nP.out (j := 3) rfl
  have p4 := cell_of20 nP.out (j := 4) rfl
  have p5 := cell_of20 nP.out (j := 5) rfl
  have p6 := cell_of20 nP.out (j := 6) rfl
  have p7 := cell_of20 nP.out (j := 7) rfl
  go_upto_region 5 with fail
  obtain ⟨G, hGq⟩ : ∃ G, w3.heap.size = G := ⟨_, rfl⟩
  obtain ⟨w4, hw4⟩ : ∃ w4, w3.alloc (.cells (madeCells #[.int .u8 0] L) 5) = w4 := ⟨_, rfl⟩
  have hV0 := own_made20 w3 L (by omega)
  have b4 := balloc20 w3 (.cells (madeCells #[.int .u8 0] L) 5)
  rw [Nat.mul_one] at hV0
  rw [hGq, hw4] at hV0
  rw [hw4] at b4
  try rw [hw4]
  have hV : Hid (Bw G w4 (.slice (some ⟨G, 0, none⟩) 0 L) []) := hV0
  have hwb : Hid (w.heap.size ≤ G) := by show _ ≤ _; rw [← hGq]; exact hB.out.size
  have hG : Hid (G ≤ w4.heap.size) := by show _ ≤ _; rw [← hGq]; exact b4.size
  clear a0 a1 a2 a3 a4 a5 a6 a7 a8 a9 a10 p0 p1 p2 p3 p4 p5 p6 p7
  replace nA := hid (kept20 nA.out b4)
  replace nP := hid (kept20 nP.out b4)
  replace hB := hid (hB.out.trans (b4.mono hB.out.size))
  try rw [hGq]
  clear hV0 b4 hw4 hGq hmk2
  have a0 := cell_of20 nA.out (j := 0) rfl
  have a1 := cell_of20 nA.out (j := 1) rfl
  have a2 := cell_of20 nA.out (j := 2) rfl
  have a3 := cell_of20 nA.out (j := 3) rfl
  have a4 := cell_of20 nA.out (j := 4) rfl
  have a5 := cell_of20 nA.out (j := 5) rfl
  have a6 := cell_of20 nA.out (j := 6) rfl
  have a7 := cell_of20 nA.out (j := 7) rfl
  have a8 := cell_of20 nA.out (j := 8) rfl
  have a9 := cell_of20 nA.out (j := 9) rfl
  have a10 := cell_of20 nA.out (j := 10) rfl
  have p0 := cell_of20 nP.out (j := 0) rfl
  have p1 := cell_of20 nP.out (j := 1) rfl
  have p2 := cell_of20 nP.out (j := 2) rfl
  have p3 := cell_of20 nP.out (j := 3) rfl
  have p4 := cell_of20 nP.out (j := 4) rfl
  have p5 := cell_of20 nP.out (j := 5) rfl
  have p6 := cell_of20 nP.out (j := 6) rfl
  have p7 := cell_of20 nP.out (j := 7) rfl
  have hcall := hid (aput_ok (x := 0) (n := 1) 0 1 rfl rfl hV.out hG.out (by simp) (by omega) (by omega))
  go_wp2_with fail
  refine hcall.out.mono ?_
  rintro e wn ⟨vn, rfl, hx, k⟩
  replace hV := hid hx
  clear hx hcall
  clear a0 a1 a2 a3 a4 a5 a6 a7 a8 a9 a10 p0 p1 p2 p3 p4 p5 p6 p7
  replace nA := hid (k.2 _ _ _ _ nA.out (by decide))
  replace nP := hid (k.2 _ _ _ _ nP.out (by decide))
  replace hG := hid (Nat.le_trans hG.out k.1.size)
  replace hB := hid (hB.out.trans (k.1.mono hwb.out))
  clear k
  have a0 := cell_of20 nA.out (j := 0) rfl
  have a1 := cell_of20 nA.out (j := 1) rfl
  have a2 := cell_of20 nA.out (j := 2) rfl
  have a3 := cell_of20 nA.out (j := 3) rfl
  have a4 := cell_of20 nA.out (j := 4) rfl
  have a5 := cell_of20 nA.out (j := 5) rfl
  have a6 := cell_of20 nA.out (j := 6) rfl
  have a7 := cell_of20 nA.out (j := 7) rfl
  have a8 := cell_of20 nA.out (j := 8) rfl
  have a9 := cell_of20 nA.out (j := 9) rfl
  have a10 := cell_of20 nA.out (j := 10) rfl
  have p0 := cell_of20 nP.out (j := 0) rfl
  have p1 := cell_of20 nP.out (j := 1) rfl
  have p2 := cell_of20 nP.out (j := 2) rfl
  have p3 := cell_of20 nP.out (j := 3) rfl
  have p4 := cell_of20 nP.out (j := 4) rfl
  have p5 := cell_of20 nP.out (j := 5) rfl
  have p6 := cell_of20 nP.out (j := 6) rfl
  have p7 := cell_of20 nP.out (j := 7) rfl
  go_wp2_with fail
  refine wp_loop_rounds 1 ?_
  rw [rounds_succ]
  go_wp2_with fail
  refine wp_loop_rounds 1 ?_
  rw [rounds_succ]
  go_wp2_with fail
  have hlen : ([] ++ be 1 0).length ≤ 900000 := by simp [be_length]
  obtain ⟨g, cap, hvn, hcap, hLb⟩ := bw_row hV.out (by simp [be_ne]) (by omega)
  subst hvn
  obtain ⟨N, hN⟩ : ∃ N, ([] ++ be 1 0).length = N := ⟨_, rfl⟩
  have hend : Hid (([] ++ be 1 0) ++ ([]) = be 1 0) := by
    show _ = _
    simp only [List.nil_append, List.append_nil, List.append_assoc]
  have hlw : Hid (N + 0 = (be 1 0).length) := by
    show _ = _
    rw [← hend.out, List.length_append, hN]
    simp only [List.length_nil, Nat.add_zero]
  have hNl : N ≤ 900000 := by rw [← hN]; exact hlen
  rw [hN] at hcap hLb
  have i1 : (0 : Int) ≤ (N : Int) := by omega
  have i2 : (N : Int) ≤ (cap : Int) := by omega
  replace hN := hid hN
  have hLd := hid (hLb.below (Below.refl _ _).drew)
  have hDd := hid (hbt.out.below (hB.out.drew))
  have hBd := hid (hB.out.drew)
  try rw [hN.out]
  go_upto_region 30 with fail
  try rw [hN.out]
  have e10 := a10
  replace e10 : World.cell? (World.drew _) _ = some _ := a10
  go_region_law (refine step_app_cut (l := N) (m := 0) rfl (.tmp 104) (.tmp 106) rfl (by simp [Act.eval, Act.put]) (by simp [Act.eval, Act.put]) hLd.out hN.out hDd.out (by rfl) (by omega) ?_; intro ad2 cap2 w9 hb9 hbl9; refine Hid.out ?_; have hfin := hid (And.intro hb9 (hBd.out.trans (hbl9.mono hBd.out.size))); clear hb9 hbl9; refine hid ?_)
  all_goals
    rw [hend.out] at hfin
    go_wp2_with fail
    go_ret2
    exact ⟨ad2, cap2, by rw [← hlw.out]; rfl, hfin.out⟩

set_option maxRecDepth 100000 in
set_option maxHeartbeats 16000000 in
theorem enc_e (k : Int) (ha : Option Addr) (hc : Nat) (da : Option Addr) (dc : Nat) (ba : Option Addr) (bc : Nat) (z : Nat) (hz : z ≤ 255) (w : World) (hbt : Bytes w ba bc [])
    (hck : ∀ w', Below w.heap.size w w' → Calls Tryd.prog 19 #[.int .i64 k, .agg #[.int .i64 (z : Int), .slice ha 0 hc, .bool false, .int .i64 0, .slice da 0 dc, .int .i64 0, .int .i64 0, .int .i64 0, .int .i64 0, .int .i64 0, .slice ba 0 bc]] w' fun e w'' => e = .returned (.tuple #[.agg #[.int .i64 0, .bool false, .bool false, .bool false, .bool false, .bool false, .bool false, .bool false], .nilIface]) ∧ Below w'.heap.size w' w'') :
    Calls Tryd.prog 10 #[.int .i64 k, .agg #[.int .i64 (z : Int), .slice ha 0 hc, .bool false, .int .i64 0, .slice da 0 dc, .int .i64 0, .int .i64 0, .int .i64 0, .int .i64 0, .int .i64 0, .slice ba 0 bc]] w fun e w' => ∃ ad' cap', e = .returned (.tuple #[.slice ad' (be 1 z).length cap', .nilIface]) ∧ Bytes w' ad' cap' (be 1 z) ∧ Below w.heap.size w w' := by
  have hbt := hid hbt
  have hwz : IntKind.u64.wrap (z : Int) = (z : Int) := by rw [wrapU]; omega
  have b1 := balloc20 w (.cells #[.int .i64 (z : Int), .slice ha 0 hc, .bool false, .int .i64 0, .slice da 0 dc, .int .i64 0, .int .i64 0, .int .i64 0, .int .i64 0, .int .i64 0, .slice ba 0 bc] 34)
  have nA := new_of20 w #[.int .i64 (z : Int), .slice ha 0 hc, .bool false, .int .i64 0, .slice da 0 dc, .int .i64 0, .int .i64 0, .int .i64 0, .int .i64 0, .int .i64 0, .slice ba 0 bc] 34
  obtain ⟨w1, hw1⟩ : ∃ w1, w.alloc (.cells #[.int .i64 (z : Int), .slice ha 0 hc, .bool false, .int .i64 0, .slice da 0 dc, .int .i64 0, .int .i64 0, .int .i64 0, .int .i64 0, .int .i64 0, .slice ba 0 bc] 34) = w1 := ⟨_, rfl⟩
  rw [hw1] at b1 nA
  have hc1 := hid (hck w1 b1)
  replace nA := hid nA
  have hB := hid b1
  clear b1 hck
  have a0 := cell_of20 nA.out (j := 0) rfl
  have a1 := cell_of20 nA.out (j := 1) rfl
  have a2 := cell_of20 nA.out (j := 2) rfl
  have a3 := cell_of20 nA.out (j := 3) rfl
  have a4 := cell_of20 nA.out (j := 4) rfl
  have a5 := cell_of20 nA.out (j := 5) rfl
  have a6 := cell_of20 nA.out (j := 6) rfl
  have a7 := cell_of20 nA.out (j := 7) rfl
  have a8 := cell_of20 nA.out (j := 8) rfl
  have a9 := cell_of20 nA.out (j := 9) rfl
  have a10 := cell_of20 nA.out (j := 10) rfl
  go_enter Tryd.func10, Tryd.ntmps10
  go_wp2_with fail
  try rw [hw1]
  clear hw1
  refine hc1.out.mono ?_
  rintro e w2 ⟨rfl, b2⟩
  clear a0 a1 a2 a3 a4 a5 a6 a7 a8 a9 a10
  replace nA := hid (kept20 nA.out b2)
  replace hB := hid (hB.out.trans (b2.mono hB.out.size))
  clear b2 hc1
  go_upto_region 4 with fail
  obtain ⟨w3, hw3⟩ : ∃ w3, w2.alloc (.cells #[.int .i64 0, .bool false, .bool false, .bool false, .bool false, .bool false, .bool false, .bool false] 67) = w3 := ⟨_, rfl⟩
  have nP := new_of20 w2 #[.int .i64 0, .bool false, .bool false, .bool false, .bool false, .bool false, .bool false, .bool false] 67
  have b3 := balloc20 w2 (.cells #[.int .i64 0, .bool false, .bool false, .bool false, .bool false, .bool false, .bool false, .bool false] 67)
  rw [hw3] at nP b3
  try rw [hw3]
  obtain ⟨Pb, hPq⟩ : ∃ Pb, w2.heap.size = Pb := ⟨_, rfl⟩
  replace nA := hid (kept20 nA.out b3)
  replace hB := hid (hB.out.trans (b3.mono hB.out.size))
  rw [hPq] at nP
  try rw [hPq]
  replace nP := hid nP
  clear hw3 hPq b3
  have hmk : ∀ w : World, (Instr.makeSlice 25 (.int .i64 0) (.int .i64 17)).run Tryd.prog w = .ok (.slice (some ⟨w.heap.size, 0, none⟩) 0 17) (w.alloc (.cells (madeCells #[.int .u8 0] (17 * 1)) 5)) := fun w => mk20 17 (by omega) w
  obtain ⟨L, hLq⟩ : ∃ L : Nat, L = 17 := ⟨17, rfl⟩
  have hmk2 : ∀ w : World, (Instr.makeSlice 25 (.int .i64 0) (.int .i64 17)).run Tryd.prog w = .ok (.slice (some ⟨w.heap.size, 0, none⟩) 0 L) (w.alloc (.cells (madeCells #[.int .u8 0] (L * 1)) 5)) := fun w => by subst hLq; exact mk20 17 (by omega) w
  have hLl : L ≤ 30000 := by omega
  clear hmk hLq
  have a0 := cell_of20 nA.out (j := 0) rfl
  have a1 := cell_of20 nA.out (j := 1) rfl
  have a2 := cell_of20 nA.out (j := 2) rfl
  have a3 := cell_of20 nA.out (j := 3) rfl
  have a4 := cell_of20 nA.out (j := 4) rfl
  have a5 := cell_of20 nA.out (j := 5) rfl
  have a6 := cell_of20 nA.out (j := 6) rfl
  have a7 := cell_of20 nA.out (j := 7) rfl
  have a8 := cell_of20 nA.out (j := 8) rfl
  have a9 := cell_of20 nA.out (j := 9) rfl
  have a10 := cell_of20 nA.out (j := 10) rfl
  have p0 := cell_of20 nP.out (j := 0) rfl
  have p1 := cell_of20 nP.out (j := 1) rfl
  have p2 := cell_of20 nP.out (j := 2) rfl
  have p3 := cell_of20 nP.out (j := 3) rfl
  have p4 := cell_of20 nP.out (j := 4) rfl
  have p5 := cell_of20 nP.out (j := 5) rfl
  have p6 := cell_of20 nP.out (j := 6) rfl
  have p7 := cell_of20 nP.out (j := 7) rfl
  go_upto_region 5 with fail
  obtain ⟨G, hGq⟩ : ∃ G, w3.heap.size = G := ⟨_, rfl⟩
  obtain ⟨w4, hw4⟩ : ∃ w4, w3.alloc (.cells (madeCells #[.int .u8 0] L) 5) = w4 := ⟨_, rfl⟩
  have hV0 := own_made20 w3 L (by omega)
  have b4 := balloc20 w3 (.cells (madeCells #[.int .u8 0] L) 5)
  rw [Nat.mul_one] at hV0
  rw [hGq, hw4] at hV0
  rw [hw4] at b4
  try rw [hw4]
  have hV : Hid (Bw G w4 (.slice (some ⟨G, 0, none⟩) 0 L) []) := hV0
  have hwb : Hid (w.heap.size ≤ G) := by show _ ≤ _; rw [← hGq]; exact hB.out.size
  have hG : Hid (G ≤ w4.heap.size) := by show _ ≤ _; rw [← hGq]; exact b4.size
  clear a0 a1 a2 a3 a4 a5 a6 a7 a8 a9 a10 p0 p1 p2 p3 p4 p5 p6 p7
  replace nA := hid (kept20 nA.out b4)
  replace nP := hid (kept20 nP.out b4)
  replace hB := hid (hB.out.trans (b4.mono hB.out.size))
  try rw [hGq]
  clear hV0 b4 hw4 hGq hmk2
  have a0 := cell_of20 nA.out (j := 0) rfl
  have a1 := cell_of20 nA.out (j := 1) rfl
  have a2 := cell_of20 nA.out (j := 2) rfl
  have a3 := cell_of20 nA.out (j := 3) rfl
  have a4 := cell_of20 nA.out (j := 4) rfl
  have a5 := cell_of20 nA.out (j := 5) rfl
  have a6 := cell_of20 nA.out (j := 6) rfl
  have a7 := cell_of20 nA.out (j := 7) rfl
  have a8 := cell_of20 nA.out (j := 8) rfl
  have a9 := cell_of20 nA.out (j := 9) rfl
  have a10 := cell_of20 nA.out (j := 10) rfl
  have p0 := cell_of20 nP.out (j := 0) rfl
  have p1 := cell_of20 nP.out (j := 1) rfl
  have p2 := cell_of20 nP.out (j := 2) rfl
  have p3 := cell_of20 nP.out (j := 3) rfl
  have p4 := cell_of20 nP.out (j := 4) rfl
  have p5 := cell_of20 nP.out (j := 5) rfl
  have p6 := cell_of20 nP.out (j := 6) rfl
  have p7 := cell_of20 nP.out (j := 7) rfl
  have hcall := hid (aput_ok (x := (z : Int)) (n := 1) z 1 rfl rfl hV.out hG.out (by simp) (by omega) (by omega))
  go_wp2_with fail
  refine hcall.out.mono ?_
  rintro e wn ⟨vn, rfl, hx, k⟩
  replace hV := hid hx
  clear hx hcall
  clear a0 a1 a2 a3 a4 a5 a6 a7 a8 a9 a10 p0 p1 p2 p3 p4 p5 p6 p7
  replace nA := hid (k.2 _ _ _ _ nA.out (by decide))
  replace nP := hid (k.2 _ _ _ _ nP.out (by decide))
  replace hG := hid (Nat.le_trans hG.out k.1.size)
  replace hB := hid (hB.out.trans (k.1.mono hwb.out))
  clear k
  have a0 := cell_of20 nA.out (j := 0) rfl
  have a1 := cell_of20 nA.out (j := 1) rfl
  have a2 := cell_of20 nA.out (j := 2) rfl
  have a3 := cell_of20 nA.out (j := 3) rfl
  have a4 := cell_of20 nA.out (j := 4) rfl
  have a5 := cell_of20 nA.out (j := 5) rfl
  have a6 := cell_of20 nA.out (j := 6) rfl
  have a7 := cell_of20 nA.out (j := 7) rfl
  have a8 := cell_of20 nA.out (j := 8) rfl
  have a9 := cell_of20 nA.out (j := 9) rfl
  have a10 := cell_of20 nA.out (j := 10) rfl
  have p0 := cell_of20 nP.out (j := 0) rfl
  have p1 := cell_of20 nP.out (j := 1) rfl
  have p2 := cell_of20 nP.out (j := 2) rfl
  have p3 := cell_of20 nP.out (j := 3) rfl
  have p4 := cell_of20 nP.out (j := 4) rfl
  have p5 := cell_of20 nP.out (j := 5) rfl
  have p6 := cell_of20 nP.out (j := 6) rfl
  have p7 := cell_of20 nP.out (j := 7) rfl
  go_wp2_with fail
  refine wp_loop_rounds 1 ?_
  rw [rounds_succ]
  go_wp2_with fail
  refine wp_loop_rounds 1 ?_
  rw [rounds_succ]
  go_wp2_with fail
  have hlen : ([] ++ be 1 z).length ≤ 900000 := by simp [be_length]
  obtain ⟨g, cap, hvn, hcap, hLb⟩ := bw_row hV.out (by simp [be_ne]) (by omega)
  subst hvn
  obtain ⟨N, hN⟩ : ∃ N, ([] ++ be 1 z).length = N := ⟨_, rfl⟩
  have hend : Hid (([] ++ be 1 z) ++ ([]) = be 1 z) := by
    show _ = _
    simp only [List.nil_append, List.append_nil, List.append_assoc]
  have hlw : Hid (N + 0 = (be 1 z).length) := by
    show _ = _
    rw [← hend.out, List.length_append, hN]
    simp only [List.length_nil, Nat.add_zero]
  have hNl : N ≤ 900000 := by rw [← hN]; exact hlen
  rw [hN] at hcap hLb
  have i1 : (0 : Int) ≤ (N : Int) := by omega
  have i2 : (N : Int) ≤ (cap : Int) := by omega
  replace hN := hid hN
  have hLd := hid (hLb.below (Below.refl _ _).drew)
  have hDd := hid (hbt.out.below (hB.out.drew))
  have hBd := hid (hB.out.drew)
  try rw [hN.out]
  go_upto_region 30 with fail
  try rw [hN.out]
  have e10 := a10
  replace e10 : World.cell? (World.drew _) _ = some _ := a10
  go_region_law (refine step_app_cut (l := N) (m := 0) rfl (.tmp 104) (.tmp 106) rfl (by simp [Act.eval, Act.put]) (by simp [Act.eval, Act.put]) hLd.out hN.out hDd.out (by rfl) (by omega) ?_; intro ad2 cap2 w9 hb9 hbl9; refine Hid.out ?_; have hfin := hid (And.intro hb9 (hBd.out.trans (hbl9.mono hBd.out.size))); clear hb9 hbl9; refine hid ?_)
  all_goals
    rw [hend.out] at hfin
    go_wp2_with fail
    go_ret2
    exact ⟨ad2, cap2, by rw [← hlw.out]; rfl, hfin.out⟩

set_option maxRecDepth 100000 in
set_option maxHeartbeats 16000000 in
theorem enc_i (k : Int) (ha : Option Addr) (hc : Nat) (da : Option Addr) (dc : Nat) (ba : Option Addr) (bc : Nat) (v : Bool) (z : Nat) (hz : (if v then 1 else 0) = z) (w : World) (hbt : Bytes w ba bc [])
    (hck : ∀ w', Below w.heap.size w w' → Calls Tryd.prog 19 #[.int .i64 k, .agg #[.int .i64 0, .slice ha 0 hc, .bool v, .int .i64 0, .slice da 0 dc, .int .i64 0, .int .i64 0, .int .i64 0, .int .i64 0, .int .i64 0, .slice ba 0 bc]] w' fun e w'' => e = .returned (.tuple #[.agg #[.int .i64 0, .bool false, .bool false, .bool true, .bool false, .bool false, .bool false, .bool false], .nilIface]) ∧ Below w'.heap.size w' w'') :
    Calls Tryd.prog 10 #[.int .i64 k, .agg #[.int .i64 0, .slice ha 0 hc, .bool v, .int .i64 0, .slice da 0 dc, .int .i64 0, .int .i64 0, .int .i64 0, .int .i64 0, .int .i64 0, .slice ba 0 bc]] w fun e w' => ∃ ad' cap', e = .returned (.tuple #[.slice ad' (be 1 0 ++ be 1 z).length cap', .nilIface]) ∧ Bytes w' ad' cap' (be 1 0 ++ be 1 z) ∧ Below w.heap.size w w' := by
  have hbt := hid hbt
  have hbi : Hid (∀ w, Calls Tryd.prog 22 #[.bool v] w fun e w' => e = .returned (.int .u64 (z : Int)) ∧ w' = w) := fun w => by
    have := bit_ok v w
    have e : (if v then 1 else 0 : Int) = (z : Int) := by rw [← hz]; cases v <;> rfl
    rw [e] at this
    exact this
  clear hz
  have b1 := balloc20 w (.cells #[.int .i64 0, .slice ha 0 hc, .bool v, .int .i64 0, .slice da 0 dc, .int .i64 0, .int .i64 0, .int .i64 0, .int .i64 0, .int .i64 0, .slice ba 0 bc] 34)
  have nA := new_of20 w #[.int .i64 0, .slice ha 0 hc, .bool v, .int .i64 0, .slice da 0 dc, .int .i64 0, .int .i64 0, .int .i64 0, .int .i64 0, .int .i64 0, .slice ba 0 bc] 34
  obtain ⟨w1, hw1⟩ : ∃ w1, w.alloc (.cells #[.int .i64 0, .slice ha 0 hc, .bool v, .int .i64 0, .slice da 0 dc, .int .i64 0, .int .i64 0, .int .i64 0, .int .i64 0, .int .i64 0, .slice ba 0 bc] 34) = w1 := ⟨_, rfl⟩
  rw [hw1] at b1 nA
  have hc1 := hid (hck w1 b1)
  replace nA := hid nA
  have hB := hid b1
  clear b1 hck
  have a0 := cell_of20 nA.out (j := 0) rfl
  have a1 := cell_of20 nA.out (j := 1) rfl
  have a2 := cell_of20 nA.out (j := 2) rfl
  have a3 := cell_of20 nA.out (j := 3) rfl
  have a4 := cell_of20 nA.out (j := 4) rfl
  have a5 := cell_of20 nA.out (j := 5) rfl
  have a6 := cell_of20 nA.out (j := 6) rfl
  have a7 := cell_of20 nA.out (j := 7) rfl
  have a8 := cell_of20 nA.out (j := 8) rfl
  have a9 := cell_of20 nA.out (j := 9) rfl
  have a10 := cell_of20 nA.out (j := 10) rfl
  go_enter Tryd.func10, Tryd.ntmps10
  go_wp2_with fail
  try rw [hw1]
  clear hw1
  refine hc1.out.mono ?_
  rintro e w2 ⟨rfl, b2⟩
  clear a0 a1 a2 a3 a4 a5 a6 a7 a8 a9 a10
  replace nA := hid (kept20 nA.out b2)
  replace hB := hid (hB.out.trans (b2.mono hB.out.size))
  clear b2 hc1
  go_upto_region 4 with fail
  obtain ⟨w3, hw3⟩ : ∃ w3, w2.alloc (.cells #[.int .i64 0, .bool false, .bool false, .bool true, .bool false, .bool false, .bool false, .bool false] 67) = w3 := ⟨_, rfl⟩
  have nP := new_of20 w2 #[.int .i64 0, .bool false, .bool false, .bool true, .bool false, .bool false, .bool false, .bool false] 67
  have b3 := balloc20 w2 (.cells #[.int .i64 0, .bool false, .bool false, .bool true, .bool false, .bool false, .bool false, .bool false] 67)
  rw [hw3] at nP b3
  try rw [hw3]
  obtain ⟨Pb, hPq⟩ : ∃ Pb, w2.heap.size = Pb := ⟨_, rfl⟩
  replace nA := hid (kept20 nA.out b3)
  replace hB := hid (hB.out.trans (b3.mono hB.out.size))
  rw [hPq] at nP
  try rw [hPq]
  replace nP := hid nP
  clear hw3 hPq b3
  have hmk : ∀ w : World, (Instr.makeSlice 25 (.int .i64 0) (.int .i64 17)).run Tryd.prog w = .ok (.slice (some ⟨w.heap.size, 0, none⟩) 0 17) (w.alloc (.cells (madeCells #[.int .u8 0] (17 * 1)) 5)) := fun w => mk20 17 (by omega) w
  obtain ⟨L, hLq⟩ : ∃ L : Nat, L = 17 := ⟨17, rfl⟩
  have hmk2 : ∀ w : World, (Instr.makeSlice 25 (.int .i64 0) (.int .i64 17)).run Tryd.prog w = .ok (.slice (some ⟨w.heap.size, 0, none⟩) 0 L) (w.alloc (.cells (madeCells #[.int .u8 0] (L * 1)) 5)) := fun w => by subst hLq; exact mk20 17 (by omega) w
  have hLl : L ≤ 30000 := by omega
  clear hmk hLq
  have a0 := cell_of20 nA.out (j := 0) rfl
  have a1 := cell_of20 nA.out (j := 1) rfl
  have a2 := cell_of20 nA.out (j := 2) rfl
  have a3 := cell_of20 nA.out (j := 3) rfl
  have a4 := cell_of20 nA.out (j := 4) rfl
  have a5 := cell_of20 nA.out (j := 5) rfl
  have a6 := cell_of20 nA.out (j := 6) rfl
  have a7 := cell_of20 nA.out (j := 7) rfl
  have a8 := cell_of20 nA.out (j := 8) rfl
  have a9 := cell_of20 nA.out (j := 9) rfl
  have a10 := cell_of20 nA.out (j := 10) rfl
  have p0 := cell_of20 nP.out (j := 0) rfl
  have p1 := cell_of20 nP.out (j := 1) rfl
  have p2 := cell_of20 nP.out (j := 2) rfl
  have p3 := cell_of20 nP.out (j := 3) rfl
  have p4 := cell_of20 nP.out (j := 4) rfl
  have p5 := cell_of20 nP.out (j := 5) rfl
  have p6 := cell_of20 nP.out (j := 6) rfl
  have p7 := cell_of20 nP.out (j := 7) rfl
  go_upto_region 5 with fail
  obtain ⟨G, hGq⟩ : ∃ G, w3.heap.size = G := ⟨_, rfl⟩
  obtain ⟨w4, hw4⟩ : ∃ w4, w3.alloc (.cells (madeCells #[.int .u8 0] L) 5) = w4 := ⟨_, rfl⟩
  have hV0 := own_made20 w3 L (by omega)
  have b4 := balloc20 w3 (.cells (madeCells #[.int .u8 0] L) 5)
  rw [Nat.mul_one] at hV0
  rw [hGq, hw4] at hV0
  rw [hw4] at b4
  try rw [hw4]
  have hV : Hid (Bw G w4 (.slice (some ⟨G, 0, none⟩) 0 L) []) := hV0
  have hwb : Hid (w.heap.size ≤ G) := by show _ ≤ _; rw [← hGq]; exact hB.out.size
  have hG : Hid (G ≤ w4.heap.size) := by show _ ≤ _; rw [← hGq]; exact b4.size
  clear a0 a1 a2 a3 a4 a5 a6 a7 a8 a9 a10 p0 p1 p2 p3 p4 p5 p6 p7
  replace nA := hid (kept20 nA.out b4)
  replace nP := hid (kept20 nP.out b4)
  replace hB := hid (hB.out.trans (b4.mono hB.out.size))
  try rw [hGq]
  clear hV0 b4 hw4 hGq hmk2
  have a0 := cell_of20 nA.out (j := 0) rfl
  have a1 := cell_of20 nA.out (j := 1) rfl
  have a2 := cell_of20 nA.out (j := 2) rfl
  have a3 := cell_of20 nA.out (j := 3) rfl
  have a4 := cell_of20 nA.out (j := 4) rfl
  have a5 := cell_of20 nA.out (j := 5) rfl
  have a6 := cell_of20 nA.out (j := 6) rfl
  have a7 := cell_of20 nA.out (j := 7) rfl
  have a8 := cell_of20 nA.out (j := 8) rfl
  have a9 := cell_of20 nA.out (j := 9) rfl
  have a10 := cell_of20 nA.out (j := 10) rfl
  have p0 := cell_of20 nP.out (j := 0) rfl
  have p1 := cell_of20 nP.out (j := 1) rfl
  have p2 := cell_of20 nP.out (j := 2) rfl
  have p3 := cell_of20 nP.out (j := 3) rfl
  have p4 := cell_of20 nP.out (j := 4) rfl
  have p5 := cell_of20 nP.out (j := 5) rfl
  have p6 := cell_of20 nP.out (j := 6) rfl
  have p7 := cell_of20 nP.out (j := 7) rfl
  have hcall := hid (aput_ok (x := 0) (n := 1) 0 1 rfl rfl hV.out hG.out (by simp) (by omega) (by omega))
  go_wp2_with fail
  refine hcall.out.mono ?_
  rintro e wn ⟨vn, rfl, hx, k⟩
  replace hV := hid hx
  clear hx hcall
  clear a0 a1 a2 a3 a4 a5 a6 a7 a8 a9 a10 p0 p1 p2 p3 p4 p5 p6 p7
  replace nA := hid (k.2 _ _ _ _ nA.out (by decide))
  replace nP := hid (k.2 _ _ _ _ nP.out (by decide))
  replace hG := hid (Nat.le_trans hG.out k.1.size)
  replace hB := hid (hB.out.trans (k.1.mono hwb.out))
  clear k
  have a0 := cell_of20 nA.out (j := 0) rfl
  have a1 := cell_of20 nA.out (j := 1) rfl
  have a2 := cell_of20 nA.out (j := 2) rfl
  have a3 := cell_of20 nA.out (j := 3) rfl
  have a4 := cell_of20 nA.out (j := 4) rfl
  have a5 := cell_of20 nA.out (j := 5) rfl
  have a6 := cell_of20 nA.out (j := 6) rfl
  have a7 := cell_of20 nA.out (j := 7) rfl
  have a8 := cell_of20 nA.out (j := 8) rfl
  have a9 := cell_of20 nA.out (j := 9) rfl
  have a10 := cell_of20 nA.out (j := 10) rfl
  have p0 := cell_of20 nP.out (j := 0) rfl
  have p1 := cell_of20 nP.out (j := 1) rfl
  have p2 := cell_of20 nP.out (j := 2) rfl
  have p3 := cell_of20 nP.out (j := 3) rfl
  have p4 := cell_of20 nP.out (j := 4) rfl
  have p5 := cell_of20 nP.out (j := 5) rfl
  have p6 := cell_of20 nP.out (j := 6) rfl
  have p7 := cell_of20 nP.out (j := 7) rfl
  go_wp2_with fail
  refine wp_loop_rounds 1 ?_
  rw [rounds_succ]
  go_wp2_with fail
  refine (hbi.out _).mono ?_
  rintro e wn ⟨rfl, rfl⟩
  have hcall := hid (aput_ok (x := (z : Int)) (n := 1) z 1 rfl rfl hV.out hG.out (by simp [be_length]) (by omega) (by omega))
  go_wp2_with fail
  refine hcall.out.mono ?_
  rintro e wn ⟨vn, rfl, hx, k⟩
  replace hV := hid hx
  clear hx hcall
  clear a0 a1 a2 a3 a4 a5 a6 a7 a8 a9 a10 p0 p1 p2 p3 p4 p5 p6 p7
  replace nA := hid (k.2 _ _ _ _ nA.out (by decide))
  replace nP := hid (k.2 _ _ _ _ nP.out (by decide))
  replace hG := hid (Nat.le_trans hG.out k.1.size)
  replace hB := hid (hB.out.trans (k.1.mono hwb.out))
  clear k
  have a0 := cell_of20 nA.out (j := 0) rfl
  have a1 := cell_of20 nA.out (j := 1) rfl
  have a2 := cell_of20 nA.out (j := 2) rfl
  have a3 := cell_of20 nA.out (j := 3) rfl
  have a4 := cell_of20 nA.out (j := 4) rfl
  have a5 := cell_of20 nA.out (j := 5) rfl
  have a6 := cell_of20 nA.out (j := 6) rfl
  have a7 := cell_of20 nA.out (j := 7) rfl
  have a8 := cell_of20 nA.out (j := 8) rfl
  have a9 := cell_of20 nA.out (j := 9) rfl
  have a10 := cell_of20 nA.out (j := 10) rfl
  have p0 := cell_of20 nP.out (j := 0) rfl
  have p1 := cell_of20 nP.out (j := 1) rfl
  have p2 := cell_of20 nP.out (j := 2) rfl
  have p3 := cell_of20 nP.out (j := 3) rfl
  have p4 := cell_of20 nP.out (j := 4) rfl
  have p5 := cell_of20 nP.out (j := 5) rfl
  have p6 := cell_of20 nP.out (j := 6) rfl
  have p7 := cell_of20 nP.out (j := 7) rfl
  go_wp2_with fail
  refine wp_loop_rounds 1 ?_
  rw [rounds_succ]
  go_wp2_with fail
  have hlen : ([] ++ be 1 0 ++ be 1 z).length ≤ 900000 := by simp [be_length]
  obtain ⟨g, cap, hvn, hcap, hLb⟩ := bw_row hV.out (by simp [be_ne]) (by omega)
  subst hvn
  obtain ⟨N, hN⟩ : ∃ N, ([] ++ be 1 0 ++ be 1 z).length = N := ⟨_, rfl⟩
  have hend : Hid (([] ++ be 1 0 ++ be 1 z) ++ ([]) = be 1 0 ++ be 1 z) := by
    show _ = _
    simp only [List.nil_append, List.append_nil, List.append_assoc]
  have hlw : Hid (N + 0 = (be 1 0 ++ be 1 z).length) := by
    show _ = _
    rw [← hend.out, List.length_append, hN]
    simp only [List.length_nil, Nat.add_zero]
  have hNl : N ≤ 900000 := by rw [← hN]; exact hlen
  rw [hN] at hcap hLb
  have i1 : (0 : Int) ≤ (N : Int) := by omega
  have i2 : (N : Int) ≤ (cap : Int) := by omega
  replace hN := hid hN
  have hLd := hid (hLb.below (Below.refl _ _).drew)
  have hDd := hid (hbt.out.below (hB.out.drew))
  have hBd := hid (hB.out.drew)
  try rw [hN.out]
  go_upto_region 30 with fail
  try rw [hN.out]
  have e10 := a10
  replace e10 : World.cell? (World.drew _) _ = some _ := a10
  go_region_law (refine step_app_cut (l := N) (m := 0) rfl (.tmp 104) (.tmp 106) rfl (by simp [Act.eval, Act.put]) (by simp [Act.eval, Act.put]) hLd.out hN.out hDd.out (by rfl) (by omega) ?_; intro ad2 cap2 w9 hb9 hbl9; refine Hid.out ?_; have hfin := hid (And.intro hb9 (hBd.out.trans (hbl9.mono hBd.out.size))); clear hb9 hbl9; refine hid ?_)
  all_goals
    rw [hend.out] at hfin
    go_wp2_with fail
    go_ret2
    exact ⟨ad2, cap2, by rw [← hlw.out]; rfl, hfin.out⟩

set_option maxRecDepth 100000 in
set_option maxHeartbeats 16000000 in
theorem enc_n (k : Int) (ha : Option Addr) (hc : Nat) (da : Option Addr) (dc : Nat) (ba : Option Addr) (bc : Nat) (n : Nat) (hn : n ≤ 4294967295) (w : World) (hbt : Bytes w ba bc [])
    (hck : ∀ w', Below w.heap.size w w' → Calls Tryd.prog 19 #[.int .i64 k, .agg #[.int .i64 0, .slice ha 0 hc, .bool false, .int .i64 (n : Int), .slice da 0 dc, .int .i64 0, .int .i64 0, .int .i64 0, .int .i64 0, .int .i64 0, .slice ba 0 bc]] w' fun e w'' => e = .returned (.tuple #[.agg #[.int .i64 0, .bool false, .bool false, .bool false, .bool true, .bool false, .bool false, .bool false], .nilIface]) ∧ Below w'.heap.size w' w'') :
    Calls Tryd.prog 10 #[.int .i64 k, .agg #[.int .i64 0, .slice ha 0 hc, .bool false, .int .i64 (n : Int), .slice da 0 dc, .int .i64 0, .int .i64 0, .int .i64 0, .int .i64 0, .int .i64 0, .slice ba 0 bc]] w fun e w' => ∃ ad' cap', e = .returned (.tuple #[.slice ad' (be 1 0 ++ be 4 n).length cap', .nilIface]) ∧ Bytes w' ad' cap' (be 1 0 ++ be 4 n) ∧ Below w.heap.size w w' := by
  have hbt := hid hbt
  have hwn : IntKind.u64.wrap (n : Int) = (n : Int) := by rw [wrapU]; omega
  have b1 := balloc20 w (.cells #[.int .i64 0, .slice ha 0 hc, .bool false, .int .i64 (n : Int), .slice da 0 dc, .int .i64 0, .int .i64 0, .int .i64 0, .int .i64 0, .int .i64 0, .slice ba 0 bc] 34)
  have nA := new_of20 w #[.int .i64 0, .slice ha 0 hc, .bool false, .int .i64 (n : Int), .slice da 0 dc, .int .i64 0, .int .i64 0, .int .i64 0, .int .i64 0, .int .i64 0, .slice ba 0 bc] 34
  obtain ⟨w1, hw1⟩ : ∃ w1, w.alloc (.cells #[.int .i64 0, .slice ha 0 hc, .bool false, .int .i64 (n : Int), .slice da 0 dc, .int .i64 0, .int .i64 0, .int .i64 0, .int .i64 0, .int .i64 0, .slice ba 0 bc] 34) = w1 := ⟨_, rfl⟩
  rw [hw1] at b1 nA
  have hc1 := hid (hck w1 b1)
  replace nA := hid nA
  have hB := hid b1
  clear b1 hck
  have a0 := cell_of20 nA.out (j := 0) rfl
  have a1 := cell_of20 nA.out (j := 1) rfl
  have a2 := cell_of20 nA.out (j := 2) rfl
  have a3 := cell_of20 nA.out (j := 3) rfl
  have a4 := cell_of20 nA.out (j := 4) rfl
  have a5 := cell_of20 nA.out (j := 5) rfl
  have a6 := cell_of20 nA.out (j := 6) rfl
  have a7 := cell_of20 nA.out (j := 7) rfl
  have a8 := cell_of20 nA.out (j := 8) rfl
  have a9 := cell_of20 nA.out (j := 9) rfl
  have a10 := cell_of20 nA.out (j := 10) rfl
  go_enter Tryd.func10, Tryd.ntmps10
  go_wp2_with fail
  try rw [hw1]
  clear hw1
  refine hc1.out.mono ?_
  rintro e w2 ⟨rfl, b2⟩
  clear a0 a1 a2 a3 a4 a5 a6 a7 a8 a9 a10
  replace nA := hid (kept20 nA.out b2)
  replace hB := hid (hB.out.trans (b2.mono hB.out.size))
  clear b2 hc1
  go_upto_region 4 with fail
  obtain ⟨w3, hw3⟩ : ∃ w3, w2.alloc (.cells #[.int .i64 0, .bool false, .bool false, .bool false, .bool true, .bool false, .bool false, .bool false] 67) = w3 := ⟨_, rfl⟩
  have nP := new_of20 w2 #[.int .i64 0, .bool false, .bool false, .bool false, .bool true, .bool false, .bool false, .bool false] 67
  have b3 := balloc20 w2 (.cells #[.int .i64 0, .bool false, .bool false, .bool false, .bool true, .bool false, .bool false, .bool false] 67)
  rw [hw3] at nP b3
  try rw [hw3]
  obtain ⟨Pb, hPq⟩ : ∃ Pb, w2.heap.size = Pb := ⟨_, rfl⟩
  replace nA := hid (kept20 nA.out b3)
  replace hB := hid (hB.out.trans (b3.mono hB.out.size))
  rw [hPq] at nP
  try rw [hPq]
  replace nP := hid nP
  clear hw3 hPq b3
  have hmk : ∀ w : World, (Instr.makeSlice 25 (.int .i64 0) (.int .i64 17)).run Tryd.prog w = .ok (.slice (some ⟨w.heap.size, 0, none⟩) 0 17) (w.alloc (.cells (madeCells #[.int .u8 0] (17 * 1)) 5)) := fun w => mk20 17 (by omega) w
  obtain ⟨L, hLq⟩ : ∃ L : Nat, L = 17 := ⟨17, rfl⟩
  have hmk2 : ∀ w : World, (Instr.makeSlice 25 (.int .i64 0) (.int .i64 17)).run Tryd.prog w = .ok (.slice (some ⟨w.heap.size, 0, none⟩) 0 L) (w.alloc (.cells (madeCells #[.int .u8 0] (L * 1)) 5)) := fun w => by subst hLq; exact mk20 17 (by omega) w
  have hLl : L ≤ 30000 := by omega
  clear hmk hLq
  have a0 := cell_of20 nA.out (j := 0) rfl
  have a1 := cell_of20 nA.out (j := 1) rfl
  have a2 := cell_of20 nA.out (j := 2) rfl
  have a3 := cell_of20 nA.out (j := 3) rfl
  have a4 := cell_of20 nA.out (j := 4) rfl
  have a5 := cell_of20 nA.out (j := 5) rfl
  have a6 := cell_of20 nA.out (j := 6) rfl
  have a7 := cell_of20 nA.out (j := 7) rfl
  have a8 := cell_of20 nA.out (j := 8) rfl
  have a9 := cell_of20 nA.out (j := 9) rfl
  have a10 := cell_of20 nA.out (j := 10) rfl
  have p0 := cell_of20 nP.out (j := 0) rfl
  have p1 := cell_of20 nP.out (j := 1) rfl
  have p2 := cell_of20 nP.out (j := 2) rfl
  have p3 := cell_of20 nP.out (j := 3) rfl
  have p4 := cell_of20 nP.out (j := 4) rfl
  have p5 := cell_of20 nP.out (j := 5) rfl
  have p6 := cell_of20 nP.out (j := 6) rfl
  have p7 := cell_of20 nP.out (j := 7) rfl
  go_upto_region 5 with fail
  obtain ⟨G, hGq⟩ : ∃ G, w3.heap.size = G := ⟨_, rfl⟩
  obtain ⟨w4, hw4⟩ : ∃ w4, w3.alloc (.cells (madeCells #[.int .u8 0] L) 5) = w4 := ⟨_, rfl⟩
  have hV0 := own_made20 w3 L (by omega)
  have b4 := balloc20 w3 (.cells (madeCells #[.int .u8 0] L) 5)
  rw [Nat.mul_one] at hV0
  rw [hGq, hw4] at hV0
  rw [hw4] at b4
  try rw [hw4]
  have hV : Hid (Bw G w4 (.slice (some ⟨G, 0, none⟩) 0 L) []) := hV0
  have hwb : Hid (w.heap.size ≤ G) := by show _ ≤ _; rw [← hGq]; exact hB.out.size
  have hG : Hid (G ≤ w4.heap.size) := by show _ ≤ _; rw [← hGq]; exact b4.size
  clear a0 a1 a2 a3 a4 a5 a6 a7 a8 a9 a10 p0 p1 p2 p3 p4 p5 p6 p7
  replace nA := hid (kept20 nA.out b4)
  replace nP := hid (kept20 nP.out b4)
  replace hB := hid (hB.out.trans (b4.mono hB.out.size))
  try rw [hGq]
  clear hV0 b4 hw4 hGq hmk2
  have a0 := cell_of20 nA.out (j := 0) rfl
  have a1 := cell_of20 nA.out (j := 1) rfl
  have a2 := cell_of20 nA.out (j := 2) rfl
  have a3 := cell_of20 nA.out (j := 3) rfl
  have a4 := cell_of20 nA.out (j := 4) rfl
  have a5 := cell_of20 nA.out (j := 5) rfl
  have a6 := cell_of20 nA.out (j := 6) rfl
  have a7 := cell_of20 nA.out (j := 7) rfl
  have a8 := cell_of20 nA.out (j := 8) rfl
  have a9 := cell_of20 nA.out (j := 9) rfl
  have a10 := cell_of20 nA.out (j := 10) rfl
  have p0 := cell_of20 nP.out (j := 0) rfl
  have p1 := cell_of20 nP.out (j := 1) rfl
  have p2 := cell_of20 nP.out (j := 2) rfl
  have p3 := cell_of20 nP.out (j := 3) rfl
  have p4 := cell_of20 nP.out (j := 4) rfl
  have p5 := cell_of20 nP.out (j := 5) rfl
  have p6 := cell_of20 nP.out (j := 6) rfl
  have p7 := cell_of20 nP.out (j := 7) rfl
  have hcall := hid (aput_ok (x := 0) (n := 1) 0 1 rfl rfl hV.out hG.out (by simp) (by omega) (by omega))
  go_wp2_with fail
  refine hcall.out.mono ?_
  rintro e wn ⟨vn, rfl, hx, k⟩
  replace hV := hid hx
  clear hx hcall
  clear a0 a1 a2 a3 a4 a5 a6 a7 a8 a9 a10 p0 p1 p2 p3 p4 p5 p6 p7
  replace nA := hid (k.2 _ _ _ _ nA.out (by decide))
  replace nP := hid (k.2 _ _ _ _ nP.out (by decide))
  replace hG := hid (Nat.le_trans hG.out k.1.size)
  replace hB := hid (hB.out.trans (k.1.mono hwb.out))
  clear k
  have a0 := cell_of20 nA.out (j := 0) rfl
  have a1 := cell_of20 nA.out (j := 1) rfl
  have a2 := cell_of20 nA.out (j := 2) rfl
  have a3 := cell_of20 nA.out (j := 3) rfl
  have a4 := cell_of20 nA.out (j := 4) rfl
  have a5 := cell_of20 nA.out (j := 5) rfl
  have a6 := cell_of20 nA.out (j := 6) rfl
  have a7 := cell_of20 nA.out (j := 7) rfl
  have a8 := cell_of20 nA.out (j := 8) rfl
  have a9 := cell_of20 nA.out (j := 9) rfl
  have a10 := cell_of20 nA.out (j := 10) rfl
  have p0 := cell_of20 nP.out (j := 0) rfl
  have p1 := cell_of20 nP.out (j := 1) rfl
  have p2 := cell_of20 nP.out (j := 2) rfl
  have p3 := cell_of20 nP.out (j := 3) rfl
  have p4 := cell_of20 nP.out (j := 4) rfl
  have p5 := cell_of20 nP.out (j := 5) rfl
  have p6 := cell_of20 nP.out (j := 6) rfl
  have p7 := cell_of20 nP.out (j := 7) rfl
  go_wp2_with fail
  refine wp_loop_rounds 1 ?_
  rw [rounds_succ]
  go_wp2_with fail
  have hcall := hid (aput_ok (x := (n : Int)) (n := 4) n 4 rfl rfl hV.out hG.out (by simp [be_length]) (by omega) (by omega))
  refine hcall.out.mono ?_
  rintro e wn ⟨vn, rfl, hx, k⟩
  replace hV := hid hx
  clear hx hcall
  clear a0 a1 a2 a3 a4 a5 a6 a7 a8 a9 a10 p0 p1 p2 p3 p4 p5 p6 p7
  replace nA := hid (k.2 _ _ _ _ nA.out (by decide))
  replace nP := hid (k.2 _ _ _ _ nP.out (by decide))
  replace hG := hid (Nat.le_trans hG.out k.1.size)
  replace hB := hid (hB.out.trans (k.1.mono hwb.out))
  clear k
  have a0 := cell_of20 nA.out (j := 0) rfl
  have a1 := cell_of20 nA.out (j := 1) rfl
  have a2 := cell_of20 nA.out (j := 2) rfl
  have a3 := cell_of20 nA.out (j := 3) rfl
  have a4 := cell_of20 nA.out (j := 4) rfl
  have a5 := cell_of20 nA.out (j := 5) rfl
  have a6 := cell_of20 nA.out (j := 6) rfl
  have a7 := cell_of20 nA.out (j := 7) rfl
  have a8 := cell_of20 nA.out (j := 8) rfl
  have a9 := cell_of20 nA.out (j := 9) rfl
  have a10 := cell_of20 nA.out (j := 10) rfl
  have p0 := cell_of20 nP.out (j := 0) rfl
  have p1 := cell_of20 nP.out (j := 1) rfl
  have p2 := cell_of20 nP.out (j := 2) rfl
  have p3 := cell_of20 nP.out (j := 3) rfl
  have p4 := cell_of20 nP.out (j := 4) rfl
  have p5 := cell_of20 nP.out (j := 5) rfl
  have p6 := cell_of20 nP.out (j := 6) rfl
  have p7 := cell_of20 nP.out (j := 7) rfl
  go_wp2_with fail
  refine wp_loop_rounds 1 ?_
  rw [rounds_succ]
  go_wp2_with fail
  have hlen : ([] ++ be 1 0 ++ be 4 n).length ≤ 900000 := by simp [be_length]
  obtain ⟨g, cap, hvn, hcap, hLb⟩ := bw_row hV.out (by simp [be_ne]) (by omega)
  subst hvn
  obtain ⟨N, hN⟩ : ∃ N, ([] ++ be 1 0 ++ be 4 n).length = N := ⟨_, rfl⟩
  have hend : Hid (([] ++ be 1 0 ++ be 4 n) ++ ([]) = be 1 0 ++ be 4 n) := by
    show _ = _
    simp only [List.nil_append, List.append_nil, List.append_assoc]
  have hlw : Hid (N + 0 = (be 1 0 ++ be 4 n).length) := by
    show _ = _
    rw [← hend.out, List.length_append, hN]
    simp only [List.length_nil, Nat.add_zero]
  have hNl : N ≤ 900000 := by rw [← hN]; exact hlen
  rw [hN] at hcap hLb
  have i1 : (0 : Int) ≤ (N : Int) := by omega
  have i2 : (N : Int) ≤ (cap : Int) := by omega
  replace hN := hid hN
  have hLd := hid (hLb.below (Below.refl _ _).drew)
  have hDd := hid (hbt.out.below (hB.out.drew))
  have hBd := hid (hB.out.drew)
  try rw [hN.out]
  go_upto_region 30 with fail
  try rw [hN.out]
  have e10 := a10
  replace e10 : World.cell? (World.drew _) _ = some _ := a10
  go_region_law (refine step_app_cut (l := N) (m := 0) rfl (.tmp 104) (.tmp 106) rfl (by simp [Act.eval, Act.put]) (by simp [Act.eval, Act.put]) hLd.out hN.out hDd.out (by rfl) (by omega) ?_; intro ad2 cap2 w9 hb9 hbl9; refine Hid.out ?_; have hfin := hid (And.intro hb9 (hBd.out.trans (hbl9.mono hBd.out.size))); clear hb9 hbl9; refine hid ?_)
  all_goals
    rw [hend.out] at hfin
    go_wp2_with fail
    go_ret2
    exact ⟨ad2, cap2, by rw [← hlw.out]; rfl, hfin.out⟩

set_option maxRecDepth 100000 in
set_option maxHeartbeats 16000000 in
theorem enc_s (k : Int) (ha : Option Addr) (hc : Nat) (da : Option Addr) (dc : Nat) (ba : Option Addr) (bc : Nat) (z : Int) (n : Nat) (hn : IntKind.u64.wrap z = (n : Int)) (hn8 : n < 18446744073709551616) (w : World) (hbt : Bytes w ba bc [])
    (hck : ∀ w', Below w.heap.size w w' → Calls Tryd.prog 19 #[.int .i64 k, .agg #[.int .i64 0, .slice ha 0 hc, .bool false, .int .i64 0, .slice da 0 dc, .int .i64 0, .int .i64 0, .int .i64 0, .int .i64 0, .int .i64 z, .slice ba 0 bc]] w' fun e w'' => e = .returned (.tuple #[.agg #[.int .i64 0, .bool false, .bool false, .bool false, .bool false, .bool false, .bool true, .bool false], .nilIface]) ∧ Below w'.heap.size w' w'') :
    Calls Tryd.prog 10 #[.int .i64 k, .agg #[.int .i64 0, .slice ha 0 hc, .bool false, .int .i64 0, .slice da 0 dc, .int .i64 0, .int .i64 0, .int .i64 0, .int .i64 0, .int .i64 z, .slice ba 0 bc]] w fun e w' => ∃ ad' cap', e = .returned (.tuple #[.slice ad' (be 1 0 ++ be 8 n).length cap', .nilIface]) ∧ Bytes w' ad' cap' (be 1 0 ++ be 8 n) ∧ Below w.heap.size w w' := by
  have hbt := hid hbt
  have b1 := balloc20 w (.cells #[.int .i64 0, .slice ha 0 hc, .bool false, .int .i64 0, .slice da 0 dc, .int .i64 0, .int .i64 0, .int .i64 0, .int .i64 0, .int .i64 z, .slice ba 0 bc] 34)
  have nA := new_of20 w #[.int .i64 0, .slice ha 0 hc, .bool false, .int .i64 0, .slice da 0 dc, .int .i64 0, .int .i64 0, .int .i64 0, .int .i64 0, .int .i64 z, .slice ba 0 bc] 34
  obtain ⟨w1, hw1⟩ : ∃ w1, w.alloc (.cells #[.int .i64 0, .slice ha 0 hc, .bool false, .int .i64 0, .slice da 0 dc, .int .i64 0, .int .i64 0, .int .i64 0, .int .i64 0, .int .i64 z, .slice ba 0 bc] 34) = w1 := ⟨_, rfl⟩
  rw [hw1] at b1 nA
  have hc1 := hid (hck w1 b1)
  replace nA := hid nA
  have hB := hid b1
  clear b1 hck
  have a0 := cell_of20 nA.out (j := 0) rfl
  have a1 := cell_of20 nA.out (j := 1) rfl
  have a2 := cell_of20 nA.out (j := 2) rfl
  have a3 := cell_of20 nA.out (j := 3) rfl
  have a4 := cell_of20 nA.out (j := 4) rfl
  have a5 := cell_of20 nA.out (j := 5) rfl
  have a6 := cell_of20 nA.out (j := 6) rfl
  have a7 := cell_of20 nA.out (j := 7) rfl
  have a8 := cell_of20 nA.out (j := 8) rfl
  have a9 := cell_of20 nA.out (j := 9) rfl
  have a10 := cell_of20 nA.out (j := 10) rfl
  go_enter Tryd.func10, Tryd.ntmps10
  go_wp2_with fail
  try rw [hw1]
  clear hw1
  refine hc1.out.mono ?_
  rintro e w2 ⟨rfl, b2⟩
  clear a0 a1 a2 a3 a4 a5 a6 a7 a8 a9 a10
  replace nA := hid (kept20 nA.out b2)
  replace hB := hid (hB.out.trans (b2.mono hB.out.size))
  clear b2 hc1
  go_upto_region 4 with fail
  obtain ⟨w3, hw3⟩ : ∃ w3, w2.alloc (.cells #[.int .i64 0, .bool false, .bool false, .bool false, .bool false, .bool false, .bool true, .bool false] 67) = w3 := ⟨_, rfl⟩
  have nP := new_of20 w2 #[.int .i64 0, .bool false, .bool false, .bool false, .bool false, .bool false, .bool true, .bool false] 67
  have b3 := balloc20 w2 (.cells #[.int .i64 0, .bool false, .bool false, .bool false, .bool false, .bool false, .bool true, .bool false] 67)
  rw [hw3] at nP b3
  try rw [hw3]
  obtain ⟨Pb, hPq⟩ : ∃ Pb, w2.heap.size = Pb := ⟨_, rfl⟩
  replace nA := hid (kept20 nA.out b3)
  replace hB := hid (hB.out.trans (b3.mono hB.out.size))
  rw [hPq] at nP
  try rw [hPq]
  replace nP := hid nP
  clear hw3 hPq b3
  have hmk : ∀ w : World, (Instr.makeSlice 25 (.int .i64 0) (.int .i64 17)).run Tryd.prog w = .ok (.slice (some ⟨w.heap.size, 0, none⟩) 0 17) (w.alloc (.cells (madeCells #[.int .u8 0] (17 * 1)) 5)) := fun w => mk20 17 (by omega) w
  obtain ⟨L, hLq⟩ : ∃ L : Nat, L = 17 := ⟨17, rfl⟩
  have hmk2 : ∀ w : World, (Instr.makeSlice 25 (.int .i64 0) (.int .i64 17)).run Tryd.prog w = .ok (.slice (some ⟨w.heap.size, 0, none⟩) 0 L) (w.alloc (.cells (madeCells #[.int .u8 0] (L * 1)) 5)) := fun w => by subst hLq; exact mk20 17 (by omega) w
  have hLl : L ≤ 30000 := by omega
  clear hmk hLq
  have a0 := cell_of20 nA.out (j := 0) rfl
  have a1 := cell_of20 nA.out (j := 1) rfl
  have a2 := cell_of20 nA.out (j := 2) rfl
  have a3 := cell_of20 nA.out (j := 3) rfl
  have a4 := cell_of20 nA.out (j := 4) rfl
  have a5 := cell_of20 nA.out (j := 5) rfl
  have a6 := cell_of20 nA.out (j := 6) rfl
  have a7 := cell_of20 nA.out (j := 7) rfl
  have a8 := cell_of20 nA.out (j := 8) rfl
  have a9 := cell_of20 nA.out (j := 9) rfl
  have a10 := cell_of20 nA.out (j := 10) rfl
  have p0 := cell_of20 nP.out (j := 0) rfl
  have p1 := cell_of20 nP.out (j := 1) rfl
  have p2 := cell_of20 nP.out (j := 2) rfl
  have p3 := cell_of20 nP.out (j := 3) rfl
  have p4 := cell_of20 nP.out (j := 4) rfl
  have p5 := cell_of20 nP.out (j := 5) rfl
  have p6 := cell_of20 nP.out (j := 6) rfl
  have p7 := cell_of20 nP.out (j := 7) rfl
  go_upto_region 5 with fail
  obtain ⟨G, hGq⟩ : ∃ G, w3.heap.size = G := ⟨_, rfl⟩
  obtain ⟨w4, hw4⟩ : ∃ w4, w3.alloc (.cells (madeCells #[.int .u8 0] L) 5) = w4 := ⟨_, rfl⟩
  have hV0 := own_made20 w3 L (by omega)
  have b4 := balloc20 w3 (.cells (madeCells #[.int .u8 0] L) 5)
  rw [Nat.mul_one] at hV0
  rw [hGq, hw4] at hV0
  rw [hw4] at b4
  try rw [hw4]
  have hV : Hid (Bw G w4 (.slice (some ⟨G, 0, none⟩) 0 L) []) := hV0
  have hwb : Hid (w.heap.size ≤ G) := by show _ ≤ _; rw [← hGq]; exact hB.out.size
  have hG : Hid (G ≤ w4.heap.size) := by show _ ≤ _; rw [← hGq]; exact b4.size
  clear a0 a1 a2 a3 a4 a5 a6 a7 a8 a9 a10 p0 p1 p2 p3 p4 p5 p6 p7
  replace nA := hid (kept20 nA.out b4)
  replace nP := hid (kept20 nP.out b4)
  replace hB := hid (hB.out.trans (b4.mono hB.out.size))
  try rw [hGq]
  clear hV0 b4 hw4 hGq hmk2
  have a0 := cell_of20 nA.out (j := 0) rfl
  have a1 := cell_of20 nA.out (j := 1) rfl
  have a2 := cell_of20 nA.out (j := 2) rfl
  have a3 := cell_of20 nA.out (j := 3) rfl
  have a4 := cell_of20 nA.out (j := 4) rfl
  have a5 := cell_of20 nA.out (j := 5) rfl
  have a6 := cell_of20 nA.out (j := 6) rfl
  have a7 := cell_of20 nA.out (j := 7) rfl
  have a8 := cell_of20 nA.out (j := 8) rfl
  have a9 := cell_of20 nA.out (j := 9) rfl
  have a10 := cell_of20 nA.out (j := 10) rfl
  have p0 := cell_of20 nP.out (j := 0) rfl
  have p1 := cell_of20 nP.out (j := 1) rfl
  have p2 := cell_of20 nP.out (j := 2) rfl
  have p3 := cell_of20 nP.out (j := 3) rfl
  have p4 := cell_of20 nP.out (j := 4) rfl
  have p5 := cell_of20 nP.out (j := 5) rfl
  have p6 := cell_of20 nP.out (j := 6) rfl
  have p7 := cell_of20 nP.out (j := 7) rfl
  have hcall := hid (aput_ok (x := 0) (n := 1) 0 1 rfl rfl hV.out hG.out (by simp) (by omega) (by omega))
  go_wp2_with fail
  refine hcall.out.mono ?_
  rintro e wn ⟨vn, rfl, hx, k⟩
  replace hV := hid hx
  clear hx hcall
  clear a0 a1 a2 a3 a4 a5 a6 a7 a8 a9 a10 p0 p1 p2 p3 p4 p5 p6 p7
  replace nA := hid (k.2 _ _ _ _ nA.out (by decide))
  replace nP := hid (k.2 _ _ _ _ nP.out (by decide))
  replace hG := hid (Nat.le_trans hG.out k.1.size)
  replace hB := hid (hB.out.trans (k.1.mono hwb.out))
  clear k
  have a0 := cell_of20 nA.out (j := 0) rfl
  have a1 := cell_of20 nA.out (j := 1) rfl
  have a2 := cell_of20 nA.out (j := 2) rfl
  have a3 := cell_of20 nA.out (j := 3) rfl
  have a4 := cell_of20 nA.out (j := 4) rfl
  have a5 := cell_of20 nA.out (j := 5) rfl
  have a6 := cell_of20 nA.out (j := 6) rfl
  have a7 := cell_of20 nA.out (j := 7) rfl
  have a8 := cell_of20 nA.out (j := 8) rfl
  have a9 := cell_of20 nA.out (j := 9) rfl
  have a10 := cell_of20 nA.out (j := 10) rfl
  have p0 := cell_of20 nP.out (j := 0) rfl
  have p1 := cell_of20 nP.out (j := 1) rfl
  have p2 := cell_of20 nP.out (j := 2) rfl
  have p3 := cell_of20 nP.out (j := 3) rfl
  have p4 := cell_of20 nP.out (j := 4) rfl
  have p5 := cell_of20 nP.out (j := 5) rfl
  have p6 := cell_of20 nP.out (j := 6) rfl
  have p7 := cell_of20 nP.out (j := 7) rfl
  go_wp2_with fail
  refine wp_loop_rounds 1 ?_
  rw [rounds_succ]
  go_wp2_with fail
  refine wp_loop_rounds 1 ?_
  rw [rounds_succ]
  go_wp2_with fail
  have hcall := hid (aput_ok (x := (n : Int)) (n := 8) n 8 rfl rfl hV.out hG.out (by simp [be_length]) (by omega) (by omega))
  refine hcall.out.mono ?_
  rintro e wn ⟨vn, rfl, hx, k⟩
  replace hV := hid hx
  clear hx hcall
  clear a0 a1 a2 a3 a4 a5 a6 a7 a8 a9 a10 p0 p1 p2 p3 p4 p5 p6 p7
  replace nA := hid (k.2 _ _ _ _ nA.out (by decide))
  replace nP := hid (k.2 _ _ _ _ nP.out (by decide))
  replace hG := hid (Nat.le_trans hG.out k.1.size)
  replace hB := hid (hB.out.trans (k.1.mono hwb.out))
  clear k
  have a0 := cell_of20 nA.out (j := 0) rfl
  have a1 := cell_of20 nA.out (j := 1) rfl
  have a2 := cell_of20 nA.out (j := 2) rfl
  have a3 := cell_of20 nA.out (j := 3) rfl
  have a4 := cell_of20 nA.out (j := 4) rfl
  have a5 := cell_of20 nA.out (j := 5) rfl
  have a6 := cell_of20 nA.out (j := 6) rfl
  have a7 := cell_of20 nA.out (j := 7) rfl
  have a8 := cell_of20 nA.out (j := 8) rfl
  have a9 := cell_of20 nA.out (j := 9) rfl
  have a10 := cell_of20 nA.out (j := 10) rfl
  have p0 := cell_of20 nP.out (j := 0) rfl
  have p1 := cell_of20 nP.out (j := 1) rfl
  have p2 := cell_of20 nP.out (j := 2) rfl
  have p3 := cell_of20 nP.out (j := 3) rfl
  have p4 := cell_of20 nP.out (j := 4) rfl
  have p5 := cell_of20 nP.out (j := 5) rfl
  have p6 := cell_of20 nP.out (j := 6) rfl
  have p7 := cell_of20 nP.out (j := 7) rfl
  go_wp2_with fail
  have hlen : ([] ++ be 1 0 ++ be 8 n).length ≤ 900000 := by simp [be_length]
  obtain ⟨g, cap, hvn, hcap, hLb⟩ := bw_row hV.out (by simp [be_ne]) (by omega)
  subst hvn
  obtain ⟨N, hN⟩ : ∃ N, ([] ++ be 1 0 ++ be 8 n).length = N := ⟨_, rfl⟩
  have hend : Hid (([] ++ be 1 0 ++ be 8 n) ++ ([]) = be 1 0 ++ be 8 n) := by
    show _ = _
    simp only [List.nil_append, List.append_nil, List.append_assoc]
  have hlw : Hid (N + 0 = (be 1 0 ++ be 8 n).length) := by
    show _ = _
    rw [← hend.out, List.length_append, hN]
    simp only [List.length_nil, Nat.add_zero]
  have hNl : N ≤ 900000 := by rw [← hN]; exact hlen
  rw [hN] at hcap hLb
  have i1 : (0 : Int) ≤ (N : Int) := by omega
  have i2 : (N : Int) ≤ (cap : Int) := by omega
  replace hN := hid hN
  have hLd := hid (hLb.below (Below.refl _ _).drew)
  have hDd := hid (hbt.out.below (hB.out.drew))
  have hBd := hid (hB.out.drew)
  try rw [hN.out]
  go_upto_region 30 with fail
  try rw [hN.out]
  have e10 := a10
  replace e10 : World.cell? (World.drew _) _ = some _ := a10
  go_region_law (refine step_app_cut (l := N) (m := 0) rfl (.tmp 104) (.tmp 106) rfl (by simp [Act.eval, Act.put]) (by simp [Act.eval, Act.put]) hLd.out hN.out hDd.out (by rfl) (by omega) ?_; intro ad2 cap2 w9 hb9 hbl9; refine Hid.out ?_; have hfin := hid (And.intro hb9 (hBd.out.trans (hbl9.mono hBd.out.size))); clear hb9 hbl9; refine hid ?_)
  all_goals
    rw [hend.out] at hfin
    go_wp2_with fail
    go_ret2
    exact ⟨ad2, cap2, by rw [← hlw.out]; rfl, hfin.out⟩

end Go.Proofs.YtkopcfpghklbbaaDoor
