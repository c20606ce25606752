/- answer's Text, walked: one theorem a kind of answer (second part). -/
import Derived.Test.YtkopcfpghklbbaaDoorDart20
namespace Go.Proofs.YtkopcfpghklbbaaDoor
open Go.RowKit
set_option linter.unusedVariables false
attribute [local go_sem] idx40 idx41 idx42 idx43

set_option maxRecDepth 100000 in
set_option maxHeartbeats 16000000 in
theorem text_h1 (k : Int) (ha : Option Addr) (hc : Nat) (da : Option Addr) (dc : Nat) (ba : Option Addr) (bc : Nat) (y : Nat × Nat) (w : World) (ht : Tab w.heap.size w) (hH : HV w ha 1 hc [y])
    (hck : ∀ w', Below w.heap.size w w' → Calls Tryd.prog 19 #[.int .i64 k, .agg #[.int .i64 0, .slice ha 1 hc, .bool false, .int .i64 0, .slice da 0 dc, .int .i64 0, .int .i64 0, .int .i64 0, .int .i64 0, .int .i64 0, .slice ba 0 bc]] w' fun e w'' => e = .returned (.tuple #[.agg #[.int .i64 1, .bool false, .bool false, .bool false, .bool false, .bool false, .bool false, .bool false], .nilIface]) ∧ Below w'.heap.size w' w'') :
    Calls Tryd.prog 11 #[.int .i64 k, .agg #[.int .i64 0, .slice ha 1 hc, .bool false, .int .i64 0, .slice da 0 dc, .int .i64 0, .int .i64 0, .int .i64 0, .int .i64 0, .int .i64 0, .slice ba 0 bc]] w fun e w' => e = .returned (.tuple #[.string ⟨(nmh y).toArray⟩, .nilIface]) ∧ Below w.heap.size w w' := by
  obtain ⟨g, o, hae, c0, c1⟩ := hH.cell 0 y rfl
  have hyn := hid (hH.num y (by simp))
  rw [Nat.zero_mul, Nat.add_zero] at c0 c1
  replace c0 := hid c0
  replace c1 := hid c1
  have hnl : (nmh y).length ≤ 43 := by
    have := Lib.itoa_length_le (y.1 : Int) (by have := hyn.out; omega) (by have := hyn.out; omega)
    have := Lib.itoa_length_le (y.2 : Int) (by have := hyn.out; omega) (by have := hyn.out; omega)
    unfold nmh; simp only [List.length_append, List.length_cons]; omega
  clear hH
  replace hae := hid hae
  have b1 := balloc20 w (.cells #[.int .i64 0, .slice ha 1 hc, .bool false, .int .i64 0, .slice da 0 dc, .int .i64 0, .int .i64 0, .int .i64 0, .int .i64 0, .int .i64 0, .slice ba 0 bc] 34)
  have nA := new_of20 w #[.int .i64 0, .slice ha 1 hc, .bool false, .int .i64 0, .slice da 0 dc, .int .i64 0, .int .i64 0, .int .i64 0, .int .i64 0, .int .i64 0, .slice ba 0 bc] 34
  obtain ⟨w1, hw1⟩ : ∃ w1, w.alloc (.cells #[.int .i64 0, .slice ha 1 hc, .bool false, .int .i64 0, .slice da 0 dc, .int .i64 0, .int .i64 0, .int .i64 0, .int .i64 0, .int .i64 0, .slice ba 0 bc] 34) = w1 := ⟨_, rfl⟩
  rw [hw1] at b1 nA
  have hc1 := hid (hck w1 b1)
  have hT := hid (ht.more b1)
  replace nA := hid nA
  have hB := hid b1
  have hlA : Hid (w.heap.size < w1.heap.size) := (Array.getElem?_eq_some_iff.1 nA.out).1
  clear b1 hck ht
  have a0 := cell_of20 nA.out (j := 0) rfl
  have a1 := cell_of20 nA.out (j := 1) rfl
  have a2 := cell_of20 nA.out (j := 2) rfl
  have a3 := cell_of20 nA.out (j := 3) rfl
  have a4 := cell_of20 nA.out (j := 4) rfl
  have a5 := cell_of20 nA.out (j := 5) rfl
  have a6 := cell_of20 nA.out (j := 6) rfl
  have a7 := cell_of20 nA.out (j := 7) rfl
  have a8 := cell_of20 nA.out (j := 8) rfl
  have a9 := cell_of20 nA.out (j := 9) rfl
  have a10 := cell_of20 nA.out (j := 10) rfl
  go_enter Tryd.func11, Tryd.ntmps11
  go_wp2_with fail
  try rw [hw1]
  clear hw1
  refine hc1.out.mono ?_
  rintro e w2 ⟨rfl, b2⟩
  clear a0 a1 a2 a3 a4 a5 a6 a7 a8 a9 a10
  replace nA := hid (kept20 nA.out b2)
  replace hT := hid (hT.out.more (b2.mono hB.out.size))
  replace hB := hid (hB.out.trans (b2.mono hB.out.size))
  have hlA2 : Hid (w.heap.size < w2.heap.size) := Nat.lt_of_lt_of_le hlA.out b2.size
  clear b2 hc1 hlA
  go_upto_region 4 with fail
  obtain ⟨w3, hw3⟩ : ∃ w3, w2.alloc (.cells #[.int .i64 1, .bool false, .bool false, .bool false, .bool false, .bool false, .bool false, .bool false] 67) = w3 := ⟨_, rfl⟩
  have nP := new_of20 w2 #[.int .i64 1, .bool false, .bool false, .bool false, .bool false, .bool false, .bool false, .bool false] 67
  have b3 := balloc20 w2 (.cells #[.int .i64 1, .bool false, .bool false, .bool false, .bool false, .bool false, .bool false, .bool false] 67)
  rw [hw3] at nP b3
  try rw [hw3]
  obtain ⟨Pb, hPq⟩ : ∃ Pb, w2.heap.size = Pb := ⟨_, rfl⟩
  replace nA := hid (kept20 nA.out b3)
  replace hT := hid (hT.out.more (b3.mono hB.out.size))
  replace hB := hid (hB.out.trans (b3.mono hB.out.size))
  rw [hPq] at nP hlA2
  try rw [hPq]
  have hlP : Hid (Pb < w3.heap.size) := (Array.getElem?_eq_some_iff.1 nP).1
  replace nP := hid nP
  clear hw3 hPq b3
  have a0 := cell_of20 nA.out (j := 0) rfl
  have a1 := cell_of20 nA.out (j := 1) rfl
  have a2 := cell_of20 nA.out (j := 2) rfl
  have a3 := cell_of20 nA.out (j := 3) rfl
  have a4 := cell_of20 nA.out (j := 4) rfl
  have a5 := cell_of20 nA.out (j := 5) rfl
  have a6 := cell_of20 nA.out (j := 6) rfl
  have a7 := cell_of20 nA.out (j := 7) rfl
  have a8 := cell_of20 nA.out (j := 8) rfl
  have a9 := cell_of20 nA.out (j := 9) rfl
  have a10 := cell_of20 nA.out (j := 10) rfl
  have p0 := cell_of20 nP.out (j := 0) rfl
  have p1 := cell_of20 nP.out (j := 1) rfl
  have p2 := cell_of20 nP.out (j := 2) rfl
  have p3 := cell_of20 nP.out (j := 3) rfl
  have p4 := cell_of20 nP.out (j := 4) rfl
  have p5 := cell_of20 nP.out (j := 5) rfl
  have p6 := cell_of20 nP.out (j := 6) rfl
  have p7 := cell_of20 nP.out (j := 7) rfl
  go_upto_region 7 with fail
  obtain ⟨b, hb⟩ : ∃ b, w3.heap.size = b := ⟨_, rfl⟩
  obtain ⟨w4, hw4⟩ : ∃ w4, w3.alloc (.cells #[.pointer none, .slice none 0 0] 81) = w4 := ⟨_, rfl⟩
  have hX0 := Lib.fresh_isBuilder 81 5 w3
  have nB := new_of20 w3 #[.pointer none, .slice none 0 0] 81
  have b4 := balloc20 w3 (.cells #[.pointer none, .slice none 0 0] 81)
  rw [hb, hw4] at hX0 nB
  rw [hw4] at b4
  try rw [hw4]
  have hX : Hid (Tx b [] w4) := hX0
  have hwb : Hid (w.heap.size ≤ b) := by show _ ≤ _; rw [← hb]; exact hB.out.size
  have hAb : Hid (w.heap.size ≠ b) := by show _ ≠ _; have h1 := hlA2.out; have h2 := hlP.out; omega
  have hPb : Hid (Pb ≠ b) := by show _ ≠ _; have h2 := hlP.out; omega
  clear a0 a1 a2 a3 a4 a5 a6 a7 a8 a9 a10 p0 p1 p2 p3 p4 p5 p6 p7
  replace nA := hid (kept20 nA.out b4)
  replace nP := hid (kept20 nP.out b4)
  replace hT : Hid (Tab b w4) := (hT.out.more (b4.mono hB.out.size)).up hwb.out
  replace hB := hid (hB.out.trans (b4.mono hB.out.size))
  replace nB := hid nB
  try rw [hb]
  clear hX0 b4 hw4 hb hlP hlA2
  have a0 := cell_of20 nA.out (j := 0) rfl
  have a1 := cell_of20 nA.out (j := 1) rfl
  have a2 := cell_of20 nA.out (j := 2) rfl
  have a3 := cell_of20 nA.out (j := 3) rfl
  have a4 := cell_of20 nA.out (j := 4) rfl
  have a5 := cell_of20 nA.out (j := 5) rfl
  have a6 := cell_of20 nA.out (j := 6) rfl
  have a7 := cell_of20 nA.out (j := 7) rfl
  have a8 := cell_of20 nA.out (j := 8) rfl
  have a9 := cell_of20 nA.out (j := 9) rfl
  have a10 := cell_of20 nA.out (j := 10) rfl
  have p0 := cell_of20 nP.out (j := 0) rfl
  have p1 := cell_of20 nP.out (j := 1) rfl
  have p2 := cell_of20 nP.out (j := 2) rfl
  have p3 := cell_of20 nP.out (j := 3) rfl
  have p4 := cell_of20 nP.out (j := 4) rfl
  have p5 := cell_of20 nP.out (j := 5) rfl
  have p6 := cell_of20 nP.out (j := 6) rfl
  have p7 := cell_of20 nP.out (j := 7) rfl
  have hae2 := hae.out
  subst hae2
  go_wp2_with fail
  refine wp_loop_rounds 2 ?_
  rw [rounds_succ]
  have q0 := (hB.out.cell (World.block_lt_of_cell? w _ c0.out)).trans c0.out
  have q1 := (hB.out.cell (World.block_lt_of_cell? w _ c1.out)).trans c1.out
  have hcall := hid (handle_ok (b := b) (l := []) y.1 y.2 hyn.out.1 hyn.out.2 (hT.out.more ((balloc20 _ (.cells #[.int .u32 (y.1 : Int), .int .u32 (y.2 : Int)] 61)).mono (Nat.le_of_lt hX.out.lt))) (hX.out.more (balloc20 _ (.cells #[.int .u32 (y.1 : Int), .int .u32 (y.2 : Int)] 61))) (by simp))
  have k0 := hid (Ok2.ofBelow (balloc20 _ (.cells #[.int .u32 (y.1 : Int), .int .u32 (y.2 : Int)] 61)) (Nat.le_of_lt hX.out.lt))
  go_wp2_with fail
  refine hcall.out.mono ?_
  rintro e wn ⟨rfl, hx, k1⟩
  have k := k0.out.trans k1
  replace hX := hid hx
  clear hx hcall k0 k1 q0 q1
  clear a0 a1 a2 a3 a4 a5 a6 a7 a8 a9 a10 p0 p1 p2 p3 p4 p5 p6 p7
  replace nA := hid (k.cells nA.out hAb.out (by decide))
  replace nP := hid (k.cells nP.out hPb.out (by decide))
  replace hT := hid (hT.out.more k.1)
  replace hB := hid (hB.out.trans (k.1.mono hwb.out))
  clear k
  have a0 := cell_of20 nA.out (j := 0) rfl
  have a1 := cell_of20 nA.out (j := 1) rfl
  have a2 := cell_of20 nA.out (j := 2) rfl
  have a3 := cell_of20 nA.out (j := 3) rfl
  have a4 := cell_of20 nA.out (j := 4) rfl
  have a5 := cell_of20 nA.out (j := 5) rfl
  have a6 := cell_of20 nA.out (j := 6) rfl
  have a7 := cell_of20 nA.out (j := 7) rfl
  have a8 := cell_of20 nA.out (j := 8) rfl
  have a9 := cell_of20 nA.out (j := 9) rfl
  have a10 := cell_of20 nA.out (j := 10) rfl
  have p0 := cell_of20 nP.out (j := 0) rfl
  have p1 := cell_of20 nP.out (j := 1) rfl
  have p2 := cell_of20 nP.out (j := 2) rfl
  have p3 := cell_of20 nP.out (j := 3) rfl
  have p4 := cell_of20 nP.out (j := 4) rfl
  have p5 := cell_of20 nP.out (j := 5) rfl
  have p6 := cell_of20 nP.out (j := 6) rfl
  have p7 := cell_of20 nP.out (j := 7) rfl
  go_wp2_with fail
  rw [rounds_succ]
  go_wp2_with fail
  refine wp_loop_rounds 1 ?_
  rw [rounds_succ]
  go_wp2_with fail
  have hcall := hid (data0_ok (b := b) (l := pw [] (nmh y)) ba bc hX.out)
  refine hcall.out.mono ?_
  rintro e wn ⟨rfl, hx, k⟩
  replace hX := hid hx
  clear hx hcall
  clear a0 a1 a2 a3 a4 a5 a6 a7 a8 a9 a10 p0 p1 p2 p3 p4 p5 p6 p7
  replace nA := hid (k.cells nA.out hAb.out (by decide))
  replace nP := hid (k.cells nP.out hPb.out (by decide))
  replace hT := hid (hT.out.more k.1)
  replace hB := hid (hB.out.trans (k.1.mono hwb.out))
  clear k
  have a0 := cell_of20 nA.out (j := 0) rfl
  have a1 := cell_of20 nA.out (j := 1) rfl
  have a2 := cell_of20 nA.out (j := 2) rfl
  have a3 := cell_of20 nA.out (j := 3) rfl
  have a4 := cell_of20 nA.out (j := 4) rfl
  have a5 := cell_of20 nA.out (j := 5) rfl
  have a6 := cell_of20 nA.out (j := 6) rfl
  have a7 := cell_of20 nA.out (j := 7) rfl
  have a8 := cell_of20 nA.out (j := 8) rfl
  have a9 := cell_of20 nA.out (j := 9) rfl
  have a10 := cell_of20 nA.out (j := 10) rfl
  have p0 := cell_of20 nP.out (j := 0) rfl
  have p1 := cell_of20 nP.out (j := 1) rfl
  have p2 := cell_of20 nP.out (j := 2) rfl
  have p3 := cell_of20 nP.out (j := 3) rfl
  have p4 := cell_of20 nP.out (j := 4) rfl
  have p5 := cell_of20 nP.out (j := 5) rfl
  have p6 := cell_of20 nP.out (j := 6) rfl
  have p7 := cell_of20 nP.out (j := 7) rfl
  go_wp2_with fail
  refine (bl_ok (b := b) (l := pw [] (nmh y)) hX.out).mono ?_
  rintro e wn ⟨rfl, rfl⟩
  have hne : (pw [] (nmh y)) ≠ [] := by simp [pw, nmh_ne]
  have hz : ¬ ((pw [] (nmh y)).length : Int) = 0 := by
    have := List.length_pos_iff.2 hne
    omega
  have hst := hid (bstr_ok b (pw [] (nmh y)) _ hX.out hne)
  clear hne
  have hend : Hid (pw [] (nmh y) = nmh y) := by show _ = _; simp [pw]
  obtain ⟨L, hL⟩ : ∃ L, (pw [] (nmh y)).length = L := ⟨_, rfl⟩
  rw [hL] at hz
  try rw [hL]
  clear hL
  go_wp2_with fail
  refine hst.out.mono ?_
  rintro e wn ⟨rfl, bz⟩
  have hbz := hid (hB.out.trans (bz.mono hwb.out))
  clear bz hst
  go_wp2_with fail
  go_ret2
  try rw [hend.out]
  exact ⟨rfl, hbz.out⟩

set_option maxRecDepth 100000 in
set_option maxHeartbeats 16000000 in
theorem text_h2 (k : Int) (ha : Option Addr) (hc : Nat) (da : Option Addr) (dc : Nat) (ba : Option Addr) (bc : Nat) (y z : Nat × Nat) (w : World) (ht : Tab w.heap.size w) (hH : HV w ha 2 hc [y, z])
    (hck : ∀ w', Below w.heap.size w w' → Calls Tryd.prog 19 #[.int .i64 k, .agg #[.int .i64 0, .slice ha 2 hc, .bool false, .int .i64 0, .slice da 0 dc, .int .i64 0, .int .i64 0, .int .i64 0, .int .i64 0, .int .i64 0, .slice ba 0 bc]] w' fun e w'' => e = .returned (.tuple #[.agg #[.int .i64 2, .bool false, .bool false, .bool false, .bool false, .bool false, .bool false, .bool false], .nilIface]) ∧ Below w'.heap.size w' w'') :
    Calls Tryd.prog 11 #[.int .i64 k, .agg #[.int .i64 0, .slice ha 2 hc, .bool false, .int .i64 0, .slice da 0 dc, .int .i64 0, .int .i64 0, .int .i64 0, .int .i64 0, .int .i64 0, .slice ba 0 bc]] w fun e w' => e = .returned (.tuple #[.string ⟨(jw [nmh y, nmh z]).toArray⟩, .nilIface]) ∧ Below w.heap.size w w' := by
  obtain ⟨g, o, hae, c0, c1⟩ := hH.cell 0 y rfl
  obtain ⟨g', o', he, c2, c3⟩ := hH.cell 1 z rfl
  rw [hae] at he
  simp only [Option.some.injEq, Addr.mk.injEq, and_true] at he
  obtain ⟨rfl, rfl⟩ := he
  have hyn := hid (hH.num y (by simp))
  have hzn := hid (hH.num z (by simp))
  rw [Nat.zero_mul, Nat.add_zero] at c0 c1
  rw [Nat.one_mul] at c2 c3
  replace c0 := hid c0
  replace c1 := hid c1
  replace c2 := hid c2
  replace c3 := hid c3
  have hnl : (nmh y).length ≤ 43 := by
    have := Lib.itoa_length_le (y.1 : Int) (by have := hyn.out; omega) (by have := hyn.out; omega)
    have := Lib.itoa_length_le (y.2 : Int) (by have := hyn.out; omega) (by have := hyn.out; omega)
    unfold nmh; simp only [List.length_append, List.length_cons]; omega
  clear hH
  replace hae := hid hae
  have b1 := balloc20 w (.cells #[.int .i64 0, .slice ha 2 hc, .bool false, .int .i64 0, .slice da 0 dc, .int .i64 0, .int .i64 0, .int .i64 0, .int .i64 0, .int .i64 0, .slice ba 0 bc] 34)
  have nA := new_of20 w #[.int .i64 0, .slice ha 2 hc, .bool false, .int .i64 0, .slice da 0 dc, .int .i64 0, .int .i64 0, .int .i64 0, .int .i64 0, .int .i64 0, .slice ba 0 bc] 34
  obtain ⟨w1, hw1⟩ : ∃ w1, w.alloc (.cells #[.int .i64 0, .slice ha 2 hc, .bool false, .int .i64 0, .slice da 0 dc, .int .i64 0, .int .i64 0, .int .i64 0, .int .i64 0, .int .i64 0, .slice ba 0 bc] 34) = w1 := ⟨_, rfl⟩
  rw [hw1] at b1 nA
  have hc1 := hid (hck w1 b1)
  have hT := hid (ht.more b1)
  replace nA := hid nA
  have hB := hid b1
  have hlA : Hid (w.heap.size < w1.heap.size) := (Array.getElem?_eq_some_iff.1 nA.out).1
  clear b1 hck ht
  have a0 := cell_of20 nA.out (j := 0) rfl
  have a1 := cell_of20 nA.out (j := 1) rfl
  have a2 := cell_of20 nA.out (j := 2) rfl
  have a3 := cell_of20 nA.out (j := 3) rfl
  have a4 := cell_of20 nA.out (j := 4) rfl
  have a5 := cell_of20 nA.out (j := 5) rfl
  have a6 := cell_of20 nA.out (j := 6) rfl
  have a7 := cell_of20 nA.out (j := 7) rfl
  have a8 := cell_of20 nA.out (j := 8) rfl
  have a9 := cell_of20 nA.out (j := 9) rfl
  have a10 := cell_of20 nA.out (j := 10) rfl
  go_enter Tryd.func11, Tryd.ntmps11
  go_wp2_with fail
  try rw [hw1]
  clear hw1
  refine hc1.out.mono ?_
  rintro e w2 ⟨rfl, b2⟩
  clear a0 a1 a2 a3 a4 a5 a6 a7 a8 a9 a10
  replace nA := hid (kept20 nA.out b2)
  replace hT := hid (hT.out.more (b2.mono hB.out.size))
  replace hB := hid (hB.out.trans (b2.mono hB.out.size))
  have hlA2 : Hid (w.heap.size < w2.heap.size) := Nat.lt_of_lt_of_le hlA.out b2.size
  clear b2 hc1 hlA
  go_upto_region 4 with fail
  obtain ⟨w3, hw3⟩ : ∃ w3, w2.alloc (.cells #[.int .i64 2, .bool false, .bool false, .bool false, .bool false, .bool false, .bool false, .bool false] 67) = w3 := ⟨_, rfl⟩
  have nP := new_of20 w2 #[.int .i64 2, .bool false, .bool false, .bool false, .bool false, .bool false, .bool false, .bool false] 67
  have b3 := balloc20 w2 (.cells #[.int .i64 2, .bool false, .bool false, .bool false, .bool false, .bool false, .bool false, .bool false] 67)
  rw [hw3] at nP b3
  try rw [hw3]
  obtain ⟨Pb, hPq⟩ : ∃ Pb, w2.heap.size = Pb := ⟨_, rfl⟩
  replace nA := hid (kept20 nA.out b3)
  replace hT := hid (hT.out.more (b3.mono hB.out.size))
  replace hB := hid (hB.out.trans (b3.mono hB.out.size))
  rw [hPq] at nP hlA2
  try rw [hPq]
  have hlP : Hid (Pb < w3.heap.size) := (Array.getElem?_eq_some_iff.1 nP).1
  replace nP := hid nP
  clear hw3 hPq b3
  have a0 := cell_of20 nA.out (j := 0) rfl
  have a1 := cell_of20 nA.out (j := 1) rfl
  have a2 := cell_of20 nA.out (j := 2) rfl
  have a3 := cell_of20 nA.out (j := 3) rfl
  have a4 := cell_of20 nA.out (j := 4) rfl
  have a5 := cell_of20 nA.out (j := 5) rfl
  have a6 := cell_of20 nA.out (j := 6) rfl
  have a7 := cell_of20 nA.out (j := 7) rfl
  have a8 := cell_of20 nA.out (j := 8) rfl
  have a9 := cell_of20 nA.out (j := 9) rfl
  have a10 := cell_of20 nA.out (j := 10) rfl
  have p0 := cell_of20 nP.out (j := 0) rfl
  have p1 := cell_of20 nP.out (j := 1) rfl
  have p2 := cell_of20 nP.out (j := 2) rfl
  have p3 := cell_of20 nP.out (j := 3) rfl
  have p4 := cell_of20 nP.out (j := 4) rfl
  have p5 := cell_of20 nP.out (j := 5) rfl
  have p6 := cell_of20 nP.out (j := 6) rfl
  have p7 := cell_of20 nP.out (j := 7) rfl
  go_upto_region 7 with fail
  obtain ⟨b, hb⟩ : ∃ b, w3.heap.size = b := ⟨_, rfl⟩
  obtain ⟨w4, hw4⟩ : ∃ w4, w3.alloc (.cells #[.pointer none, .slice none 0 0] 81) = w4 := ⟨_, rfl⟩
  have hX0 := Lib.fresh_isBuilder 81 5 w3
  have nB := new_of20 w3 #[.pointer none, .slice none 0 0] 81
  have b4 := balloc20 w3 (.cells #[.pointer none, .slice none 0 0] 81)
  rw [hb, hw4] at hX0 nB
  rw [hw4] at b4
  try rw [hw4]
  have hX : Hid (Tx b [] w4) := hX0
  have hwb : Hid (w.heap.size ≤ b) := by show _ ≤ _; rw [← hb]; exact hB.out.size
  have hAb : Hid (w.heap.size ≠ b) := by show _ ≠ _; have h1 := hlA2.out; have h2 := hlP.out; omega
  have hPb : Hid (Pb ≠ b) := by show _ ≠ _; have h2 := hlP.out; omega
  clear a0 a1 a2 a3 a4 a5 a6 a7 a8 a9 a10 p0 p1 p2 p3 p4 p5 p6 p7
  replace nA := hid (kept20 nA.out b4)
  replace nP := hid (kept20 nP.out b4)
  replace hT : Hid (Tab b w4) := (hT.out.more (b4.mono hB.out.size)).up hwb.out
  replace hB := hid (hB.out.trans (b4.mono hB.out.size))
  replace nB := hid nB
  try rw [hb]
  clear hX0 b4 hw4 hb hlP hlA2
  have a0 := cell_of20 nA.out (j := 0) rfl
  have a1 := cell_of20 nA.out (j := 1) rfl
  have a2 := cell_of20 nA.out (j := 2) rfl
  have a3 := cell_of20 nA.out (j := 3) rfl
  have a4 := cell_of20 nA.out (j := 4) rfl
  have a5 := cell_of20 nA.out (j := 5) rfl
  have a6 := cell_of20 nA.out (j := 6) rfl
  have a7 := cell_of20 nA.out (j := 7) rfl
  have a8 := cell_of20 nA.out (j := 8) rfl
  have a9 := cell_of20 nA.out (j := 9) rfl
  have a10 := cell_of20 nA.out (j := 10) rfl
  have p0 := cell_of20 nP.out (j := 0) rfl
  have p1 := cell_of20 nP.out (j := 1) rfl
  have p2 := cell_of20 nP.out (j := 2) rfl
  have p3 := cell_of20 nP.out (j := 3) rfl
  have p4 := cell_of20 nP.out (j := 4) rfl
  have p5 := cell_of20 nP.out (j := 5) rfl
  have p6 := cell_of20 nP.out (j := 6) rfl
  have p7 := cell_of20 nP.out (j := 7) rfl
  have hae2 := hae.out
  subst hae2
  go_wp2_with fail
  refine wp_loop_rounds 3 ?_
  rw [rounds_succ]
  have q0 := (hB.out.cell (World.block_lt_of_cell? w _ c0.out)).trans c0.out
  have q1 := (hB.out.cell (World.block_lt_of_cell? w _ c1.out)).trans c1.out
  have hcall := hid (handle_ok (b := b) (l := []) y.1 y.2 hyn.out.1 hyn.out.2 (hT.out.more ((balloc20 _ (.cells #[.int .u32 (y.1 : Int), .int .u32 (y.2 : Int)] 61)).mono (Nat.le_of_lt hX.out.lt))) (hX.out.more (balloc20 _ (.cells #[.int .u32 (y.1 : Int), .int .u32 (y.2 : Int)] 61))) (by simp))
  have k0 := hid (Ok2.ofBelow (balloc20 _ (.cells #[.int .u32 (y.1 : Int), .int .u32 (y.2 : Int)] 61)) (Nat.le_of_lt hX.out.lt))
  go_wp2_with fail
  refine hcall.out.mono ?_
  rintro e wn ⟨rfl, hx, k1⟩
  have k := k0.out.trans k1
  replace hX := hid hx
  clear hx hcall k0 k1 q0 q1
  clear a0 a1 a2 a3 a4 a5 a6 a7 a8 a9 a10 p0 p1 p2 p3 p4 p5 p6 p7
  replace nA := hid (k.cells nA.out hAb.out (by decide))
  replace nP := hid (k.cells nP.out hPb.out (by decide))
  replace hT := hid (hT.out.more k.1)
  replace hB := hid (hB.out.trans (k.1.mono hwb.out))
  clear k
  have a0 := cell_of20 nA.out (j := 0) rfl
  have a1 := cell_of20 nA.out (j := 1) rfl
  have a2 := cell_of20 nA.out (j := 2) rfl
  have a3 := cell_of20 nA.out (j := 3) rfl
  have a4 := cell_of20 nA.out (j := 4) rfl
  have a5 := cell_of20 nA.out (j := 5) rfl
  have a6 := cell_of20 nA.out (j := 6) rfl
  have a7 := cell_of20 nA.out (j := 7) rfl
  have a8 := cell_of20 nA.out (j := 8) rfl
  have a9 := cell_of20 nA.out (j := 9) rfl
  have a10 := cell_of20 nA.out (j := 10) rfl
  have p0 := cell_of20 nP.out (j := 0) rfl
  have p1 := cell_of20 nP.out (j := 1) rfl
  have p2 := cell_of20 nP.out (j := 2) rfl
  have p3 := cell_of20 nP.out (j := 3) rfl
  have p4 := cell_of20 nP.out (j := 4) rfl
  have p5 := cell_of20 nP.out (j := 5) rfl
  have p6 := cell_of20 nP.out (j := 6) rfl
  have p7 := cell_of20 nP.out (j := 7) rfl
  go_wp2_with fail
  rw [rounds_succ]
  have q0 := (hB.out.cell (World.block_lt_of_cell? w _ c2.out)).trans c2.out
  have q1 := (hB.out.cell (World.block_lt_of_cell? w _ c3.out)).trans c3.out
  have hcall := hid (handle_ok (b := b) (l := pw [] (nmh y)) z.1 z.2 hzn.out.1 hzn.out.2 (hT.out.more ((balloc20 _ (.cells #[.int .u32 (z.1 : Int), .int .u32 (z.2 : Int)] 61)).mono (Nat.le_of_lt hX.out.lt))) (hX.out.more (balloc20 _ (.cells #[.int .u32 (z.1 : Int), .int .u32 (z.2 : Int)] 61))) (by have := pw_len [] (nmh y); simp only [List.length_nil] at this; omega))
  have k0 := hid (Ok2.ofBelow (balloc20 _ (.cells #[.int .u32 (z.1 : Int), .int .u32 (z.2 : Int)] 61)) (Nat.le_of_lt hX.out.lt))
  go_wp2_with fail
  refine hcall.out.mono ?_
  rintro e wn ⟨rfl, hx, k1⟩
  have k := k0.out.trans k1
  replace hX := hid hx
  clear hx hcall k0 k1 q0 q1
  clear a0 a1 a2 a3 a4 a5 a6 a7 a8 a9 a10 p0 p1 p2 p3 p4 p5 p6 p7
  replace nA := hid (k.cells nA.out hAb.out (by decide))
  replace nP := hid (k.cells nP.out hPb.out (by decide))
  replace hT := hid (hT.out.more k.1)
  replace hB := hid (hB.out.trans (k.1.mono hwb.out))
  clear k
  have a0 := cell_of20 nA.out (j := 0) rfl
  have a1 := cell_of20 nA.out (j := 1) rfl
  have a2 := cell_of20 nA.out (j := 2) rfl
  have a3 := cell_of20 nA.out (j := 3) rfl
  have a4 := cell_of20 nA.out (j := 4) rfl
  have a5 := cell_of20 nA.out (j := 5) rfl
  have a6 := cell_of20 nA.out (j := 6) rfl
  have a7 := cell_of20 nA.out (j := 7) rfl
  have a8 := cell_of20 nA.out (j := 8) rfl
  have a9 := cell_of20 nA.out (j := 9) rfl
  have a10 := cell_of20 nA.out (j := 10) rfl
  have p0 := cell_of20 nP.out (j := 0) rfl
  have p1 := cell_of20 nP.out (j := 1) rfl
  have p2 := cell_of20 nP.out (j := 2) rfl
  have p3 := cell_of20 nP.out (j := 3) rfl
  have p4 := cell_of20 nP.out (j := 4) rfl
  have p5 := cell_of20 nP.out (j := 5) rfl
  have p6 := cell_of20 nP.out (j := 6) rfl
  have p7 := cell_of20 nP.out (j := 7) rfl
  go_wp2_with fail
  rw [rounds_succ]
  go_wp2_with fail
  refine wp_loop_rounds 1 ?_
  rw [rounds_succ]
  go_wp2_with fail
  have hcall := hid (data0_ok (b := b) (l := pw (pw [] (nmh y)) (nmh z)) ba bc hX.out)
  refine hcall.out.mono ?_
  rintro e wn ⟨rfl, hx, k⟩
  replace hX := hid hx
  clear hx hcall
  clear a0 a1 a2 a3 a4 a5 a6 a7 a8 a9 a10 p0 p1 p2 p3 p4 p5 p6 p7
  replace nA := hid (k.cells nA.out hAb.out (by decide))
  replace nP := hid (k.cells nP.out hPb.out (by decide))
  replace hT := hid (hT.out.more k.1)
  replace hB := hid (hB.out.trans (k.1.mono hwb.out))
  clear k
  have a0 := cell_of20 nA.out (j := 0) rfl
  have a1 := cell_of20 nA.out (j := 1) rfl
  have a2 := cell_of20 nA.out (j := 2) rfl
  have a3 := cell_of20 nA.out (j := 3) rfl
  have a4 := cell_of20 nA.out (j := 4) rfl
  have a5 := cell_of20 nA.out (j := 5) rfl
  have a6 := cell_of20 nA.out (j := 6) rfl
  have a7 := cell_of20 nA.out (j := 7) rfl
  have a8 := cell_of20 nA.out (j := 8) rfl
  have a9 := cell_of20 nA.out (j := 9) rfl
  have a10 := cell_of20 nA.out (j := 10) rfl
  have p0 := cell_of20 nP.out (j := 0) rfl
  have p1 := cell_of20 nP.out (j := 1) rfl
  have p2 := cell_of20 nP.out (j := 2) rfl
  have p3 := cell_of20 nP.out (j := 3) rfl
  have p4 := cell_of20 nP.out (j := 4) rfl
  have p5 := cell_of20 nP.out (j := 5) rfl
  have p6 := cell_of20 nP.out (j := 6) rfl
  have p7 := cell_of20 nP.out (j := 7) rfl
  go_wp2_with fail
  refine (bl_ok (b := b) (l := pw (pw [] (nmh y)) (nmh z)) hX.out).mono ?_
  rintro e wn ⟨rfl, rfl⟩
  have hne : (pw (pw [] (nmh y)) (nmh z)) ≠ [] := by simp [pw, nmh_ne]
  have hz : ¬ ((pw (pw [] (nmh y)) (nmh z)).length : Int) = 0 := by
    have := List.length_pos_iff.2 hne
    omega
  have hst := hid (bstr_ok b (pw (pw [] (nmh y)) (nmh z)) _ hX.out hne)
  clear hne
  have hend : Hid (pw (pw [] (nmh y)) (nmh z) = jw [nmh y, nmh z]) := by show _ = _; simp [jw, pw, nmh_ne]
  obtain ⟨L, hL⟩ : ∃ L, (pw (pw [] (nmh y)) (nmh z)).length = L := ⟨_, rfl⟩
  rw [hL] at hz
  try rw [hL]
  clear hL
  go_wp2_with fail
  refine hst.out.mono ?_
  rintro e wn ⟨rfl, bz⟩
  have hbz := hid (hB.out.trans (bz.mono hwb.out))
  clear bz hst
  go_wp2_with fail
  go_ret2
  try rw [hend.out]
  exact ⟨rfl, hbz.out⟩

set_option maxRecDepth 100000 in
set_option maxHeartbeats 16000000 in
theorem text_t (k : Int) (ha : Option Addr) (hc : Nat) (da : Option Addr) (dn dc : Nat) (ba : Option Addr) (bc : Nat) (ds : List Dt) (w : World) (ht : Tab w.heap.size w) (hD : DV w da dn dc ds) (hds : ds ≠ []) (hos : ∀ y, y ∈ ds → y.s = 0 ∨ y.s = 1) (hdl : dn ≤ 2000)
    (hck : ∀ w', Below w.heap.size w w' → Calls Tryd.prog 19 #[.int .i64 k, .agg #[.int .i64 0, .slice ha 0 hc, .bool false, .int .i64 0, .slice da dn dc, .int .i64 0, .int .i64 0, .int .i64 0, .int .i64 0, .int .i64 0, .slice ba 0 bc]] w' fun e w'' => e = .returned (.tuple #[.agg #[.int .i64 0, .bool true, .bool false, .bool false, .bool false, .bool false, .bool false, .bool false], .nilIface]) ∧ Below w'.heap.size w' w'') :
    Calls Tryd.prog 11 #[.int .i64 k, .agg #[.int .i64 0, .slice ha 0 hc, .bool false, .int .i64 0, .slice da dn dc, .int .i64 0, .int .i64 0, .int .i64 0, .int .i64 0, .int .i64 0, .slice ba 0 bc]] w fun e w' => e = .returned (.tuple #[.string ⟨(jw (ds.map nmd)).toArray⟩, .nilIface]) ∧ Below w.heap.size w w' := by
  have hne := hid hds
  have hdn := hid hD.len
  replace hD := hid hD
  replace hos := hid hos
  have hlen : Hid (∀ m, m ≤ dn → (jw ((ds.take m).map nmd)).length ≤ 500000) := fun m hm => by
    have e1 : ∀ l : List Dt, (∀ y, y ∈ l → y ∈ ds) → ((l.map nmd).flatMap (fun w => 32 :: w)).length ≤ 100 * l.length := fun l => by
      induction l with
      | nil => intro _; simp
      | cons y ys ih =>
        intro hy
        have hy1 := hos.out y (hy y List.mem_cons_self)
        have hyn := hD.out.num y (hy y List.mem_cons_self)
        have q1 := Lib.itoa_length_le (y.a : Int) (by omega) (by omega)
        have q2 := Lib.itoa_length_le (y.p : Int) (by omega) (by omega)
        have q3 := Lib.itoa_length_le y.s (by omega) (by omega)
        have := ih (fun z hz => hy z (List.mem_cons_of_mem _ hz))
        rw [List.map_cons, List.flatMap_cons, List.length_append, List.length_cons, List.length_cons]
        have q4 : (nmd y).length ≤ 65 := by unfold nmd nmh; simp only [List.length_append, List.length_cons]; omega
        omega
    have h2 := e1 (ds.take m) (fun y hy => List.mem_of_mem_take hy)
    unfold jw
    rw [List.length_drop]
    have h3 : (ds.take m).length ≤ m := by rw [List.length_take]; omega
    omega
  have b1 := balloc20 w (.cells #[.int .i64 0, .slice ha 0 hc, .bool false, .int .i64 0, .slice da dn dc, .int .i64 0, .int .i64 0, .int .i64 0, .int .i64 0, .int .i64 0, .slice ba 0 bc] 34)
  have nA := new_of20 w #[.int .i64 0, .slice ha 0 hc, .bool false, .int .i64 0, .slice da dn dc, .int .i64 0, .int .i64 0, .int .i64 0, .int .i64 0, .int .i64 0, .slice ba 0 bc] 34
  obtain ⟨w1, hw1⟩ : ∃ w1, w.alloc (.cells #[.int .i64 0, .slice ha 0 hc, .bool false, .int .i64 0, .slice da dn dc, .int .i64 0, .int .i64 0, .int .i64 0, .int .i64 0, .int .i64 0, .slice ba 0 bc] 34) = w1 := ⟨_, rfl⟩
  rw [hw1] at b1 nA
  have hc1 := hid (hck w1 b1)
  have hT := hid (ht.more b1)
  replace nA := hid nA
  have hB := hid b1
  have hlA : Hid (w.heap.size < w1.heap.size) := (Array.getElem?_eq_some_iff.1 nA.out).1
  clear b1 hck ht
  have a0 := cell_of20 nA.out (j := 0) rfl
  have a1 := cell_of20 nA.out (j := 1) rfl
  have a2 := cell_of20 nA.out (j := 2) rfl
  have a3 := cell_of20 nA.out (j := 3) rfl
  have a4 := cell_of20 nA.out (j := 4) rfl
  have a5 := cell_of20 nA.out (j := 5) rfl
  have a6 := cell_of20 nA.out (j := 6) rfl
  have a7 := cell_of20 nA.out (j := 7) rfl
  have a8 := cell_of20 nA.out (j := 8) rfl
  have a9 := cell_of20 nA.out (j := 9) rfl
  have a10 := cell_of20 nA.out (j := 10) rfl
  go_enter Tryd.func11, Tryd.ntmps11
  go_wp2_with fail
  try rw [hw1]
  clear hw1
  refine hc1.out.mono ?_
  rintro e w2 ⟨rfl, b2⟩
  clear a0 a1 a2 a3 a4 a5 a6 a7 a8 a9 a10
  replace nA := hid (kept20 nA.out b2)
  replace hT := hid (hT.out.more (b2.mono hB.out.size))
  replace hB := hid (hB.out.trans (b2.mono hB.out.size))
  have hlA2 : Hid (w.heap.size < w2.heap.size) := Nat.lt_of_lt_of_le hlA.out b2.size
  clear b2 hc1 hlA
  go_upto_region 4 with fail
  obtain ⟨w3, hw3⟩ : ∃ w3, w2.alloc (.cells #[.int .i64 0, .bool true, .bool false, .bool false, .bool false, .bool false, .bool false, .bool false] 67) = w3 := ⟨_, rfl⟩
  have nP := new_of20 w2 #[.int .i64 0, .bool true, .bool false, .bool false, .bool false, .bool false, .bool false, .bool false] 67
  have b3 := balloc20 w2 (.cells #[.int .i64 0, .bool true, .bool false, .bool false, .bool false, .bool false, .bool false, .bool false] 67)
  rw [hw3] at nP b3
  try rw [hw3]
  obtain ⟨Pb, hPq⟩ : ∃ Pb, w2.heap.size = Pb := ⟨_, rfl⟩
  replace nA := hid (kept20 nA.out b3)
  replace hT := hid (hT.out.more (b3.mono hB.out.size))
  replace hB := hid (hB.out.trans (b3.mono hB.out.size))
  rw [hPq] at nP hlA2
  try rw [hPq]
  have hlP : Hid (Pb < w3.heap.size) := (Array.getElem?_eq_some_iff.1 nP).1
  replace nP := hid nP
  clear hw3 hPq b3
  have a0 := cell_of20 nA.out (j := 0) rfl
  have a1 := cell_of20 nA.out (j := 1) rfl
  have a2 := cell_of20 nA.out (j := 2) rfl
  have a3 := cell_of20 nA.out (j := 3) rfl
  have a4 := cell_of20 nA.out (j := 4) rfl
  have a5 := cell_of20 nA.out (j := 5) rfl
  have a6 := cell_of20 nA.out (j := 6) rfl
  have a7 := cell_of20 nA.out (j := 7) rfl
  have a8 := cell_of20 nA.out (j := 8) rfl
  have a9 := cell_of20 nA.out (j := 9) rfl
  have a10 := cell_of20 nA.out (j := 10) rfl
  have p0 := cell_of20 nP.out (j := 0) rfl
  have p1 := cell_of20 nP.out (j := 1) rfl
  have p2 := cell_of20 nP.out (j := 2) rfl
  have p3 := cell_of20 nP.out (j := 3) rfl
  have p4 := cell_of20 nP.out (j := 4) rfl
  have p5 := cell_of20 nP.out (j := 5) rfl
  have p6 := cell_of20 nP.out (j := 6) rfl
  have p7 := cell_of20 nP.out (j := 7) rfl
  go_upto_region 7 with fail
  obtain ⟨b, hb⟩ : ∃ b, w3.heap.size = b := ⟨_, rfl⟩
  obtain ⟨w4, hw4⟩ : ∃ w4, w3.alloc (.cells #[.pointer none, .slice none 0 0] 81) = w4 := ⟨_, rfl⟩
  have hX0 := Lib.fresh_isBuilder 81 5 w3
  have nB := new_of20 w3 #[.pointer none, .slice none 0 0] 81
  have b4 := balloc20 w3 (.cells #[.pointer none, .slice none 0 0] 81)
  rw [hb, hw4] at hX0 nB
  rw [hw4] at b4
  try rw [hw4]
  have hX : Hid (Tx b [] w4) := hX0
  have hwb : Hid (w.heap.size ≤ b) := by show _ ≤ _; rw [← hb]; exact hB.out.size
  have hAb : Hid (w.heap.size ≠ b) := by show _ ≠ _; have h1 := hlA2.out; have h2 := hlP.out; omega
  have hPb : Hid (Pb ≠ b) := by show _ ≠ _; have h2 := hlP.out; omega
  clear a0 a1 a2 a3 a4 a5 a6 a7 a8 a9 a10 p0 p1 p2 p3 p4 p5 p6 p7
  replace nA := hid (kept20 nA.out b4)
  replace nP := hid (kept20 nP.out b4)
  replace hT : Hid (Tab b w4) := (hT.out.more (b4.mono hB.out.size)).up hwb.out
  replace hB := hid (hB.out.trans (b4.mono hB.out.size))
  replace nB := hid nB
  try rw [hb]
  clear hX0 b4 hw4 hb hlP hlA2
  have a0 := cell_of20 nA.out (j := 0) rfl
  have a1 := cell_of20 nA.out (j := 1) rfl
  have a2 := cell_of20 nA.out (j := 2) rfl
  have a3 := cell_of20 nA.out (j := 3) rfl
  have a4 := cell_of20 nA.out (j := 4) rfl
  have a5 := cell_of20 nA.out (j := 5) rfl
  have a6 := cell_of20 nA.out (j := 6) rfl
  have a7 := cell_of20 nA.out (j := 7) rfl
  have a8 := cell_of20 nA.out (j := 8) rfl
  have a9 := cell_of20 nA.out (j := 9) rfl
  have a10 := cell_of20 nA.out (j := 10) rfl
  have p0 := cell_of20 nP.out (j := 0) rfl
  have p1 := cell_of20 nP.out (j := 1) rfl
  have p2 := cell_of20 nP.out (j := 2) rfl
  have p3 := cell_of20 nP.out (j := 3) rfl
  have p4 := cell_of20 nP.out (j := 4) rfl
  have p5 := cell_of20 nP.out (j := 5) rfl
  have p6 := cell_of20 nP.out (j := 6) rfl
  have p7 := cell_of20 nP.out (j := 7) rfl
  go_wp2_with fail
  refine wp_loop_rounds 1 ?_
  rw [rounds_succ]
  go_wp2_with fail
  have nA0 := nA
  have nP0 := nP
  have hT0 := hT
  have hB0 := hB
  go_loopw [55] (fun u wr => ∃ j : Nat, j ≤ dn ∧ u = .int .i64 (j : Int) ∧ Hid (Tx b (jw ((ds.take j).map nmd)) wr ∧ Ok2 b w4 wr))
    (fun u _ => dn - (intOf u).toNat)
  case atStart => exact ⟨0, by omega, by go_num, hX.out, Ok2.refl _ _⟩
  case round =>
    obtain ⟨j, hj, rfl, hs⟩ := hrel
    rcases Nat.lt_or_ge j dn with hlt | hge
    · obtain ⟨y, hq⟩ : ∃ y, ds[j]? = some y := ⟨_, List.getElem?_eq_getElem (by rw [hdn.out]; exact hlt)⟩
      obtain ⟨g, o, rfl, c0, c1, c2⟩ := (hD.out.below (hB0.out.trans (hs.out.2.1.mono hwb.out))).cell j y hq
      have htk := hid (take_next20 hq)
      have hmem := List.mem_of_getElem? hq
      have hyn := hid (hD.out.num y hmem)
      have hys : Hid (-9223372036854775808 ≤ y.s ∧ y.s ≤ 9223372036854775807) := by have := hos.out y hmem; show _ ∧ _; omega
      have hpush : Hid (pw (jw ((ds.take j).map nmd)) (nmd y) = jw ((ds.take (j + 1)).map nmd)) := by
        show _ = _
        rw [htk.out, List.map_append, jw_push (fun w hw => by obtain ⟨z, _, rfl⟩ := List.mem_map.1 hw; exact nmd_ne z)]
        rfl
      have i1 : (0 : Int) ≤ (j : Int) := by omega
      have i2 : (j : Int) < (dn : Int) := by omega
      have hj1 : IntKind.i64.wrap ((j : Int) + 1) = ((j + 1 : Nat) : Int) := by rw [IntKind.wrap_i64]; omega
      have hl := hid (hlen.out j hj)
      have hX := hid hs.out.1
      have hT := hid (hT0.out.more hs.out.2.1)
      have hk := hid hs.out.2
      clear hq hmem htk
      have hcall := hid (dart_ok (b := b) (l := jw ((ds.take j).map nmd)) y hyn.out.1 hyn.out.2 hys.out.1 hys.out.2 (hT.out.more ((balloc20 _ (.cells #[.int .u32 (y.a : Int), .int .u32 (y.p : Int), .int .i64 y.s] 65)).mono (Nat.le_of_lt hX.out.lt))) (hX.out.more (balloc20 _ (.cells #[.int .u32 (y.a : Int), .int .u32 (y.p : Int), .int .i64 y.s] 65))) (by have := hl.out; omega))
      have k0 := hid (Ok2.ofBelow (balloc20 _ (.cells #[.int .u32 (y.a : Int), .int .u32 (y.p : Int), .int .i64 y.s] 65)) (Nat.le_of_lt hX.out.lt))
      go_wp2_with fail
      refine hcall.out.mono ?_
      rintro e wn ⟨rfl, hx, k1⟩
      have k := k0.out.trans k1
      replace hX := hid hx
      clear hx hcall k0 k1
      rw [hpush.out] at hX
      have hfin := hid (And.intro hX.out (hk.out.trans k))
      clear k
      go_wp2_with fail
      go_roundw
      case rel => exact ⟨j + 1, by omega, by go_num, hfin.out⟩
      case measure => simp [intOf]; omega
    · have hjn : j = dn := by omega
      have i2 : ¬ (j : Int) < (dn : Int) := by omega
      have hst := hs.out
      rw [List.take_of_length_le (by rw [hdn.out]; omega)] at hst
      have hX := hid hst.1
      have k := hst.2
      clear hst hs
      clear a0 a1 a2 a3 a4 a5 a6 a7 a8 a9 a10 p0 p1 p2 p3 p4 p5 p6 p7
      have nA := hid (k.cells nA0.out hAb.out (by decide))
      have nP := hid (k.cells nP0.out hPb.out (by decide))
      have hT := hid (hT0.out.more k.1)
      have hB := hid (hB0.out.trans (k.1.mono hwb.out))
      clear k nA0 nP0 hT0 hB0
      have a0 := cell_of20 nA.out (j := 0) rfl
      have a1 := cell_of20 nA.out (j := 1) rfl
      have a2 := cell_of20 nA.out (j := 2) rfl
      have a3 := cell_of20 nA.out (j := 3) rfl
      have a4 := cell_of20 nA.out (j := 4) rfl
      have a5 := cell_of20 nA.out (j := 5) rfl
      have a6 := cell_of20 nA.out (j := 6) rfl
      have a7 := cell_of20 nA.out (j := 7) rfl
      have a8 := cell_of20 nA.out (j := 8) rfl
      have a9 := cell_of20 nA.out (j := 9) rfl
      have a10 := cell_of20 nA.out (j := 10) rfl
      have p0 := cell_of20 nP.out (j := 0) rfl
      have p1 := cell_of20 nP.out (j := 1) rfl
      have p2 := cell_of20 nP.out (j := 2) rfl
      have p3 := cell_of20 nP.out (j := 3) rfl
      have p4 := cell_of20 nP.out (j := 4) rfl
      have p5 := cell_of20 nP.out (j := 5) rfl
      have p6 := cell_of20 nP.out (j := 6) rfl
      have p7 := cell_of20 nP.out (j := 7) rfl
      go_wp2_with fail
      have hcall := hid (data0_ok (b := b) (l := jw (ds.map nmd)) ba bc hX.out)
      refine hcall.out.mono ?_
      rintro e wn ⟨rfl, hx, k⟩
      replace hX := hid hx
      clear hx hcall
      clear a0 a1 a2 a3 a4 a5 a6 a7 a8 a9 a10 p0 p1 p2 p3 p4 p5 p6 p7
      replace nA := hid (k.cells nA.out hAb.out (by decide))
      replace nP := hid (k.cells nP.out hPb.out (by decide))
      replace hT := hid (hT.out.more k.1)
      replace hB := hid (hB.out.trans (k.1.mono hwb.out))
      clear k
      have a0 := cell_of20 nA.out (j := 0) rfl
      have a1 := cell_of20 nA.out (j := 1) rfl
      have a2 := cell_of20 nA.out (j := 2) rfl
      have a3 := cell_of20 nA.out (j := 3) rfl
      have a4 := cell_of20 nA.out (j := 4) rfl
      have a5 := cell_of20 nA.out (j := 5) rfl
      have a6 := cell_of20 nA.out (j := 6) rfl
      have a7 := cell_of20 nA.out (j := 7) rfl
      have a8 := cell_of20 nA.out (j := 8) rfl
      have a9 := cell_of20 nA.out (j := 9) rfl
      have a10 := cell_of20 nA.out (j := 10) rfl
      have p0 := cell_of20 nP.out (j := 0) rfl
      have p1 := cell_of20 nP.out (j := 1) rfl
      have p2 := cell_of20 nP.out (j := 2) rfl
      have p3 := cell_of20 nP.out (j := 3) rfl
      have p4 := cell_of20 nP.out (j := 4) rfl
      have p5 := cell_of20 nP.out (j := 5) rfl
      have p6 := cell_of20 nP.out (j := 6) rfl
      have p7 := cell_of20 nP.out (j := 7) rfl
      go_wp2_with fail
      refine (bl_ok (b := b) (l := jw (ds.map nmd)) hX.out).mono ?_
      rintro e wn ⟨rfl, rfl⟩
      have hne : (jw (ds.map nmd)) ≠ [] := jw_ne (fun w hw => by obtain ⟨z, _, rfl⟩ := List.mem_map.1 hw; exact nmd_ne z) (by simpa using hne.out)
      have hz : ¬ ((jw (ds.map nmd)).length : Int) = 0 := by
        have := List.length_pos_iff.2 hne
        omega
      have hst := hid (bstr_ok b (jw (ds.map nmd)) _ hX.out hne)
      clear hne
      have hend : Hid (jw (ds.map nmd) = jw (ds.map nmd)) := by show _ = _; rfl
      obtain ⟨L, hL⟩ : ∃ L, (jw (ds.map nmd)).length = L := ⟨_, rfl⟩
      rw [hL] at hz
      try rw [hL]
      clear hL
      go_wp2_with fail
      refine hst.out.mono ?_
      rintro e wn ⟨rfl, bz⟩
      have hbz := hid (hB.out.trans (bz.mono hwb.out))
      clear bz hst
      go_wp2_with fail
      go_ret2
      try rw [hend.out]
      exact ⟨rfl, hbz.out⟩

set_option maxRecDepth 100000 in
set_option maxHeartbeats 16000000 in
theorem text_f (k : Int) (ha : Option Addr) (hc : Nat) (da : Option Addr) (dn dc : Nat) (ba : Option Addr) (bc : Nat) (ds : List Dt) (w : World) (ht : Tab w.heap.size w) (hD : DV w da dn dc ds) (hds : ds ≠ []) (hos : ∀ y, y ∈ ds → y.s = 0 ∨ y.s = 1) (hdl : dn ≤ 2000)
    (hck : ∀ w', Below w.heap.size w w' → Calls Tryd.prog 19 #[.int .i64 k, .agg #[.int .i64 0, .slice ha 0 hc, .bool false, .int .i64 0, .slice da dn dc, .int .i64 0, .int .i64 0, .int .i64 0, .int .i64 0, .int .i64 0, .slice ba 0 bc]] w' fun e w'' => e = .returned (.tuple #[.agg #[.int .i64 0, .bool false, .bool true, .bool false, .bool false, .bool false, .bool false, .bool false], .nilIface]) ∧ Below w'.heap.size w' w'') :
    Calls Tryd.prog 11 #[.int .i64 k, .agg #[.int .i64 0, .slice ha 0 hc, .bool false, .int .i64 0, .slice da dn dc, .int .i64 0, .int .i64 0, .int .i64 0, .int .i64 0, .int .i64 0, .slice ba 0 bc]] w fun e w' => e = .returned (.tuple #[.string ⟨(jw (ds.map nmd)).toArray⟩, .nilIface]) ∧ Below w.heap.size w w' := by
  have hne := hid hds
  have hdn := hid hD.len
  replace hD := hid hD
  replace hos := hid hos
  have hlen : Hid (∀ m, m ≤ dn → (jw ((ds.take m).map nmd)).length ≤ 500000) := fun m hm => by
    have e1 : ∀ l : List Dt, (∀ y, y ∈ l → y ∈ ds) → ((l.map nmd).flatMap (fun w => 32 :: w)).length ≤ 100 * l.length := fun l => by
      induction l with
      | nil => intro _; simp
      | cons y ys ih =>
        intro hy
        have hy1 := hos.out y (hy y List.mem_cons_self)
        have hyn := hD.out.num y (hy y List.mem_cons_self)
        have q1 := Lib.itoa_length_le (y.a : Int) (by omega) (by omega)
        have q2 := Lib.itoa_length_le (y.p : Int) (by omega) (by omega)
        have q3 := Lib.itoa_length_le y.s (by omega) (by omega)
        have := ih (fun z hz => hy z (List.mem_cons_of_mem _ hz))
        rw [List.map_cons, List.flatMap_cons, List.length_append, List.length_cons, List.length_cons]
        have q4 : (nmd y).length ≤ 65 := by unfold nmd nmh; simp only [List.length_append, List.length_cons]; omega
        omega
    have h2 := e1 (ds.take m) (fun y hy => List.mem_of_mem_take hy)
    unfold jw
    rw [List.length_drop]
    have h3 : (ds.take m).length ≤ m := by rw [List.length_take]; omega
    omega
  have b1 := balloc20 w (.cells #[.int .i64 0, .slice ha 0 hc, .bool false, .int .i64 0, .slice da dn dc, .int .i64 0, .int .i64 0, .int .i64 0, .int .i64 0, .int .i64 0, .slice ba 0 bc] 34)
  have nA := new_of20 w #[.int .i64 0, .slice ha 0 hc, .bool false, .int .i64 0, .slice da dn dc, .int .i64 0, .int .i64 0, .int .i64 0, .int .i64 0, .int .i64 0, .slice ba 0 bc] 34
  obtain ⟨w1, hw1⟩ : ∃ w1, w.alloc (.cells #[.int .i64 0, .slice ha 0 hc, .bool false, .int .i64 0, .slice da dn dc, .int .i64 0, .int .i64 0, .int .i64 0, .int .i64 0, .int .i64 0, .slice ba 0 bc] 34) = w1 := ⟨_, rfl⟩
  rw [hw1] at b1 nA
  have hc1 := hid (hck w1 b1)
  have hT := hid (ht.more b1)
  replace nA := hid nA
  have hB := hid b1
  have hlA : Hid (w.heap.size < w1.heap.size) := (Array.getElem?_eq_some_iff.1 nA.out).1
  clear b1 hck ht
  have a0 := cell_of20 nA.out (j := 0) rfl
  have a1 := cell_of20 nA.out (j := 1) rfl
  have a2 := cell_of20 nA.out (j := 2) rfl
  have a3 := cell_of20 nA.out (j := 3) rfl
  have a4 := cell_of20 nA.out (j := 4) rfl
  have a5 := cell_of20 nA.out (j := 5) rfl
  have a6 := cell_of20 nA.out (j := 6) rfl
  have a7 := cell_of20 nA.out (j := 7) rfl
  have a8 := cell_of20 nA.out (j := 8) rfl
  have a9 := cell_of20 nA.out (j := 9) rfl
  have a10 := cell_of20 nA.out (j := 10) rfl
  go_enter Tryd.func11, Tryd.ntmps11
  go_wp2_with fail
  try rw [hw1]
  clear hw1
  refine hc1.out.mono ?_
  rintro e w2 ⟨rfl, b2⟩
  clear a0 a1 a2 a3 a4 a5 a6 a7 a8 a9 a10
  replace nA := hid (kept20 nA.out b2)
  replace hT := hid (hT.out.more (b2.mono hB.out.size))
  replace hB := hid (hB.out.trans (b2.mono hB.out.size))
  have hlA2 : Hid (w.heap.size < w2.heap.size) := Nat.lt_of_lt_of_le hlA.out b2.size
  clear b2 hc1 hlA
  go_upto_region 4 with fail
  obtain ⟨w3, hw3⟩ : ∃ w3, w2.alloc (.cells #[.int .i64 0, .bool false, .bool true, .bool false, .bool false, .bool false, .bool false, .bool false] 67) = w3 := ⟨_, rfl⟩
  have nP := new_of20 w2 #[.int .i64 0, .bool false, .bool true, .bool false, .bool false, .bool false, .bool false, .bool false] 67
  have b3 := balloc20 w2 (.cells #[.int .i64 0, .bool false, .bool true, .bool false, .bool false, .bool false, .bool false, .bool false] 67)
  rw [hw3] at nP b3
  try rw [hw3]
  obtain ⟨Pb, hPq⟩ : ∃ Pb, w2.heap.size = Pb := ⟨_, rfl⟩
  replace nA := hid (kept20 nA.out b3)
  replace hT := hid (hT.out.more (b3.mono hB.out.size))
  replace hB := hid (hB.out.trans (b3.mono hB.out.size))
  rw [hPq] at nP hlA2
  try rw [hPq]
  have hlP : Hid (Pb < w3.heap.size) := (Array.getElem?_eq_some_iff.1 nP).1
  replace nP := hid nP
  clear hw3 hPq b3
  have a0 := cell_of20 nA.out (j := 0) rfl
  have a1 := cell_of20 nA.out (j := 1) rfl
  have a2 := cell_of20 nA.out (j := 2) rfl
  have a3 := cell_of20 nA.out (j := 3) rfl
  have a4 := cell_of20 nA.out (j := 4) rfl
  have a5 := cell_of20 nA.out (j := 5) rfl
  have a6 := cell_of20 nA.out (j := 6) rfl
  have a7 := cell_of20 nA.out (j := 7) rfl
  have a8 := cell_of20 nA.out (j := 8) rfl
  have a9 := cell_of20 nA.out (j := 9) rfl
  have a10 := cell_of20 nA.out (j := 10) rfl
  have p0 := cell_of20 nP.out (j := 0) rfl
  have p1 := cell_of20 nP.out (j := 1) rfl
  have p2 := cell_of20 nP.out (j := 2) rfl
  have p3 := cell_of20 nP.out (j := 3) rfl
  have p4 := cell_of20 nP.out (j := 4) rfl
  have p5 := cell_of20 nP.out (j := 5) rfl
  have p6 := cell_of20 nP.out (j := 6) rfl
  have p7 := cell_of20 nP.out (j := 7) rfl
  go_upto_region 7 with fail
  obtain ⟨b, hb⟩ : ∃ b, w3.heap.size = b := ⟨_, rfl⟩
  obtain ⟨w4, hw4⟩ : ∃ w4, w3.alloc (.cells #[.pointer none, .slice none 0 0] 81) = w4 := ⟨_, rfl⟩
  have hX0 := Lib.fresh_isBuilder 81 5 w3
  have nB := new_of20 w3 #[.pointer none, .slice none 0 0] 81
  have b4 := balloc20 w3 (.cells #[.pointer none, .slice none 0 0] 81)
  rw [hb, hw4] at hX0 nB
  rw [hw4] at b4
  try rw [hw4]
  have hX : Hid (Tx b [] w4) := hX0
  have hwb : Hid (w.heap.size ≤ b) := by show _ ≤ _; rw [← hb]; exact hB.out.size
  have hAb : Hid (w.heap.size ≠ b) := by show _ ≠ _; have h1 := hlA2.out; have h2 := hlP.out; omega
  have hPb : Hid (Pb ≠ b) := by show _ ≠ _; have h2 := hlP.out; omega
  clear a0 a1 a2 a3 a4 a5 a6 a7 a8 a9 a10 p0 p1 p2 p3 p4 p5 p6 p7
  replace nA := hid (kept20 nA.out b4)
  replace nP := hid (kept20 nP.out b4)
  replace hT : Hid (Tab b w4) := (hT.out.more (b4.mono hB.out.size)).up hwb.out
  replace hB := hid (hB.out.trans (b4.mono hB.out.size))
  replace nB := hid nB
  try rw [hb]
  clear hX0 b4 hw4 hb hlP hlA2
  have a0 := cell_of20 nA.out (j := 0) rfl
  have a1 := cell_of20 nA.out (j := 1) rfl
  have a2 := cell_of20 nA.out (j := 2) rfl
  have a3 := cell_of20 nA.out (j := 3) rfl
  have a4 := cell_of20 nA.out (j := 4) rfl
  have a5 := cell_of20 nA.out (j := 5) rfl
  have a6 := cell_of20 nA.out (j := 6) rfl
  have a7 := cell_of20 nA.out (j := 7) rfl
  have a8 := cell_of20 nA.out (j := 8) rfl
  have a9 := cell_of20 nA.out (j := 9) rfl
  have a10 := cell_of20 nA.out (j := 10) rfl
  have p0 := cell_of20 nP.out (j := 0) rfl
  have p1 := cell_of20 nP.out (j := 1) rfl
  have p2 := cell_of20 nP.out (j := 2) rfl
  have p3 := cell_of20 nP.out (j := 3) rfl
  have p4 := cell_of20 nP.out (j := 4) rfl
  have p5 := cell_of20 nP.out (j := 5) rfl
  have p6 := cell_of20 nP.out (j := 6) rfl
  have p7 := cell_of20 nP.out (j := 7) rfl
  go_wp2_with fail
  refine wp_loop_rounds 1 ?_
  rw [rounds_succ]
  go_wp2_with fail
  have nA0 := nA
  have nP0 := nP
  have hT0 := hT
  have hB0 := hB
  go_loopw [55] (fun u wr => ∃ j : Nat, j ≤ dn ∧ u = .int .i64 (j : Int) ∧ Hid (Tx b (jw ((ds.take j).map nmd)) wr ∧ Ok2 b w4 wr))
    (fun u _ => dn - (intOf u).toNat)
  case atStart => exact ⟨0, by omega, by go_num, hX.out, Ok2.refl _ _⟩
  case round =>
    obtain ⟨j, hj, rfl, hs⟩ := hrel
    rcases Nat.lt_or_ge j dn with hlt | hge
    · obtain ⟨y, hq⟩ : ∃ y, ds[j]? = some y := ⟨_, List.getElem?_eq_getElem (by rw [hdn.out]; exact hlt)⟩
      obtain ⟨g, o, rfl, c0, c1, c2⟩ := (hD.out.below (hB0.out.trans (hs.out.2.1.mono hwb.out))).cell j y hq
      have htk := hid (take_next20 hq)
      have hmem := List.mem_of_getElem? hq
      have hyn := hid (hD.out.num y hmem)
      have hys : Hid (-9223372036854775808 ≤ y.s ∧ y.s ≤ 9223372036854775807) := by have := hos.out y hmem; show _ ∧ _; omega
      have hpush : Hid (pw (jw ((ds.take j).map nmd)) (nmd y) = jw ((ds.take (j + 1)).map nmd)) := by
        show _ = _
        rw [htk.out, List.map_append, jw_push (fun w hw => by obtain ⟨z, _, rfl⟩ := List.mem_map.1 hw; exact nmd_ne z)]
        rfl
      have i1 : (0 : Int) ≤ (j : Int) := by omega
      have i2 : (j : Int) < (dn : Int) := by omega
      have hj1 : IntKind.i64.wrap ((j : Int) + 1) = ((j + 1 : Nat) : Int) := by rw [IntKind.wrap_i64]; omega
      have hl := hid (hlen.out j hj)
      have hX := hid hs.out.1
      have hT := hid (hT0.out.more hs.out.2.1)
      have hk := hid hs.out.2
      clear hq hmem htk
      have hcall := hid (dart_ok (b := b) (l := jw ((ds.take j).map nmd)) y hyn.out.1 hyn.out.2 hys.out.1 hys.out.2 (hT.out.more ((balloc20 _ (.cells #[.int .u32 (y.a : Int), .int .u32 (y.p : Int), .int .i64 y.s] 65)).mono (Nat.le_of_lt hX.out.lt))) (hX.out.more (balloc20 _ (.cells #[.int .u32 (y.a : Int), .int .u32 (y.p : Int), .int .i64 y.s] 65))) (by have := hl.out; omega))
      have k0 := hid (Ok2.ofBelow (balloc20 _ (.cells #[.int .u32 (y.a : Int), .int .u32 (y.p : Int), .int .i64 y.s] 65)) (Nat.le_of_lt hX.out.lt))
      go_wp2_with fail
      refine hcall.out.mono ?_
      rintro e wn ⟨rfl, hx, k1⟩
      have k := k0.out.trans k1
      replace hX := hid hx
      clear hx hcall k0 k1
      rw [hpush.out] at hX
      have hfin := hid (And.intro hX.out (hk.out.trans k))
      clear k
      go_wp2_with fail
      go_roundw
      case rel => exact ⟨j + 1, by omega, by go_num, hfin.out⟩
      case measure => simp [intOf]; omega
    · have hjn : j = dn := by omega
      have i2 : ¬ (j : Int) < (dn : Int) := by omega
      have hst := hs.out
      rw [List.take_of_length_le (by rw [hdn.out]; omega)] at hst
      have hX := hid hst.1
      have k := hst.2
      clear hst hs
      clear a0 a1 a2 a3 a4 a5 a6 a7 a8 a9 a10 p0 p1 p2 p3 p4 p5 p6 p7
      have nA := hid (k.cells nA0.out hAb.out (by decide))
      have nP := hid (k.cells nP0.out hPb.out (by decide))
      have hT := hid (hT0.out.more k.1)
      have hB := hid (hB0.out.trans (k.1.mono hwb.out))
      clear k nA0 nP0 hT0 hB0
      have a0 := cell_of20 nA.out (j := 0) rfl
      have a1 := cell_of20 nA.out (j := 1) rfl
      have a2 := cell_of20 nA.out (j := 2) rfl
      have a3 := cell_of20 nA.out (j := 3) rfl
      have a4 := cell_of20 nA.out (j := 4) rfl
      have a5 := cell_of20 nA.out (j := 5) rfl
      have a6 := cell_of20 nA.out (j := 6) rfl
      have a7 := cell_of20 nA.out (j := 7) rfl
      have a8 := cell_of20 nA.out (j := 8) rfl
      have a9 := cell_of20 nA.out (j := 9) rfl
      have a10 := cell_of20 nA.out (j := 10) rfl
      have p0 := cell_of20 nP.out (j := 0) rfl
      have p1 := cell_of20 nP.out (j := 1) rfl
      have p2 := cell_of20 nP.out (j := 2) rfl
      have p3 := cell_of20 nP.out (j := 3) rfl
      have p4 := cell_of20 nP.out (j := 4) rfl
      have p5 := cell_of20 nP.out (j := 5) rfl
      have p6 := cell_of20 nP.out (j := 6) rfl
      have p7 := cell_of20 nP.out (j := 7) rfl
      go_wp2_with fail
      have hcall := hid (data0_ok (b := b) (l := jw (ds.map nmd)) ba bc hX.out)
      refine hcall.out.mono ?_
      rintro e wn ⟨rfl, hx, k⟩
      replace hX := hid hx
      clear hx hcall
      clear a0 a1 a2 a3 a4 a5 a6 a7 a8 a9 a10 p0 p1 p2 p3 p4 p5 p6 p7
      replace nA := hid (k.cells nA.out hAb.out (by decide))
      replace nP := hid (k.cells nP.out hPb.out (by decide))
      replace hT := hid (hT.out.more k.1)
      replace hB := hid (hB.out.trans (k.1.mono hwb.out))
      clear k
      have a0 := cell_of20 nA.out (j := 0) rfl
      have a1 := cell_of20 nA.out (j := 1) rfl
      have a2 := cell_of20 nA.out (j := 2) rfl
      have a3 := cell_of20 nA.out (j := 3) rfl
      have a4 := cell_of20 nA.out (j := 4) rfl
      have a5 := cell_of20 nA.out (j := 5) rfl
      have a6 := cell_of20 nA.out (j := 6) rfl
      have a7 := cell_of20 nA.out (j := 7) rfl
      have a8 := cell_of20 nA.out (j := 8) rfl
      have a9 := cell_of20 nA.out (j := 9) rfl
      have a10 := cell_of20 nA.out (j := 10) rfl
      have p0 := cell_of20 nP.out (j := 0) rfl
      have p1 := cell_of20 nP.out (j := 1) rfl
      have p2 := cell_of20 nP.out (j := 2) rfl
      have p3 := cell_of20 nP.out (j := 3) rfl
      have p4 := cell_of20 nP.out (j := 4) rfl
      have p5 := cell_of20 nP.out (j := 5) rfl
      have p6 := cell_of20 nP.out (j := 6) rfl
      have p7 := cell_of20 nP.out (j := 7) rfl
      go_wp2_with fail
      refine (bl_ok (b := b) (l := jw (ds.map nmd)) hX.out).mono ?_
      rintro e wn ⟨rfl, rfl⟩
      have hne : (jw (ds.map nmd)) ≠ [] := jw_ne (fun w hw => by obtain ⟨z, _, rfl⟩ := List.mem_map.1 hw; exact nmd_ne z) (by simpa using hne.out)
      have hz : ¬ ((jw (ds.map nmd)).length : Int) = 0 := by
        have := List.length_pos_iff.2 hne
        omega
      have hst := hid (bstr_ok b (jw (ds.map nmd)) _ hX.out hne)
      clear hne
      have hend : Hid (jw (ds.map nmd) = jw (ds.map nmd)) := by show _ = _; rfl
      obtain ⟨L, hL⟩ : ∃ L, (jw (ds.map nmd)).length = L := ⟨_, rfl⟩
      rw [hL] at hz
      try rw [hL]
      clear hL
      go_wp2_with fail
      refine hst.out.mono ?_
      rintro e wn ⟨rfl, bz⟩
      have hbz := hid (hB.out.trans (bz.mono hwb.out))
      clear bz hst
      go_wp2_with fail
      go_ret2
      try rw [hend.out]
      exact ⟨rfl, hbz.out⟩

set_option maxRecDepth 100000 in
set_option maxHeartbeats 16000000 in
theorem text_c (k : Int) (ha : Option Addr) (hc : Nat) (da : Option Addr) (dc : Nat) (ba : Option Addr) (bc : Nat) (c0 c1 c2 c3 : Int) (h0 : -9223372036854775808 ≤ c0 ∧ c0 ≤ 9223372036854775807) (h1 : -9223372036854775808 ≤ c1 ∧ c1 ≤ 9223372036854775807) (h2 : -9223372036854775808 ≤ c2 ∧ c2 ≤ 9223372036854775807) (h3 : -9223372036854775808 ≤ c3 ∧ c3 ≤ 9223372036854775807) (w : World) (ht : Tab w.heap.size w)
    (hck : ∀ w', Below w.heap.size w w' → Calls Tryd.prog 19 #[.int .i64 k, .agg #[.int .i64 0, .slice ha 0 hc, .bool false, .int .i64 0, .slice da 0 dc, .int .i64 c0, .int .i64 c1, .int .i64 c2, .int .i64 c3, .int .i64 0, .slice ba 0 bc]] w' fun e w'' => e = .returned (.tuple #[.agg #[.int .i64 0, .bool false, .bool false, .bool false, .bool false, .bool true, .bool false, .bool false], .nilIface]) ∧ Below w'.heap.size w' w'') :
    Calls Tryd.prog 11 #[.int .i64 k, .agg #[.int .i64 0, .slice ha 0 hc, .bool false, .int .i64 0, .slice da 0 dc, .int .i64 c0, .int .i64 c1, .int .i64 c2, .int .i64 c3, .int .i64 0, .slice ba 0 bc]] w fun e w' => e = .returned (.tuple #[.string ⟨(jw [Lib.itoa c0, Lib.itoa c1, Lib.itoa c2, Lib.itoa c3]).toArray⟩, .nilIface]) ∧ Below w.heap.size w w' := by
  have il0 := Lib.itoa_length_le c0 h0.1 h0.2
  have il1 := Lib.itoa_length_le c1 h1.1 h1.2
  have il2 := Lib.itoa_length_le c2 h2.1 h2.2
  have il3 := Lib.itoa_length_le c3 h3.1 h3.2
  have pl0 := pw_len [] (Lib.itoa c0)
  rw [List.length_nil] at pl0
  have pl1 := pw_len (pw [] (Lib.itoa c0)) (Lib.itoa c1)
  have pl2 := pw_len (pw (pw [] (Lib.itoa c0)) (Lib.itoa c1)) (Lib.itoa c2)
  have b1 := balloc20 w (.cells #[.int .i64 0, .slice ha 0 hc, .bool false, .int .i64 0, .slice da 0 dc, .int .i64 c0, .int .i64 c1, .int .i64 c2, .int .i64 c3, .int .i64 0, .slice ba 0 bc] 34)
  have nA := new_of20 w #[.int .i64 0, .slice ha 0 hc, .bool false, .int .i64 0, .slice da 0 dc, .int .i64 c0, .int .i64 c1, .int .i64 c2, .int .i64 c3, .int .i64 0, .slice ba 0 bc] 34
  obtain ⟨w1, hw1⟩ : ∃ w1, w.alloc (.cells #[.int .i64 0, .slice ha 0 hc, .bool false, .int .i64 0, .slice da 0 dc, .int .i64 c0, .int .i64 c1, .int .i64 c2, .int .i64 c3, .int .i64 0, .slice ba 0 bc] 34) = w1 := ⟨_, rfl⟩
  rw [hw1] at b1 nA
  have hc1 := hid (hck w1 b1)
  have hT := hid (ht.more b1)
  replace nA := hid nA
  have hB := hid b1
  have hlA : Hid (w.heap.size < w1.heap.size) := (Array.getElem?_eq_some_iff.1 nA.out).1
  clear b1 hck ht
  have a0 := cell_of20 nA.out (j := 0) rfl
  have a1 := cell_of20 nA.out (j := 1) rfl
  have a2 := cell_of20 nA.out (j := 2) rfl
  have a3 := cell_of20 nA.out (j := 3) rfl
  have a4 := cell_of20 nA.out (j := 4) rfl
  have a5 := cell_of20 nA.out (j := 5) rfl
  have a6 := cell_of20 nA.out (j := 6) rfl
  have a7 := cell_of20 nA.out (j := 7) rfl
  have a8 := cell_of20 nA.out (j := 8) rfl
  have a9 := cell_of20 nA.out (j := 9) rfl
  have a10 := cell_of20 nA.out (j := 10) rfl
  go_enter Tryd.func11, Tryd.ntmps11
  go_wp2_with fail
  try rw [hw1]
  clear hw1
  refine hc1.out.mono ?_
  rintro e w2 ⟨rfl, b2⟩
  clear a0 a1 a2 a3 a4 a5 a6 a7 a8 a9 a10
  replace nA := hid (kept20 nA.out b2)
  replace hT := hid (hT.out.more (b2.mono hB.out.size))
  replace hB := hid (hB.out.trans (b2.mono hB.out.size))
  have hlA2 : Hid (w.heap.size < w2.heap.size) := Nat.lt_of_lt_of_le hlA.out b2.size
  clear b2 hc1 hlA
  go_upto_region 4 with fail
  obtain ⟨w3, hw3⟩ : ∃ w3, w2.alloc (.cells #[.int .i64 0, .bool false, .bool false, .bool false, .bool false, .bool true, .bool false, .bool false] 67) = w3 := ⟨_, rfl⟩
  have nP := new_of20 w2 #[.int .i64 0, .bool false, .bool false, .bool false, .bool false, .bool true, .bool false, .bool false] 67
  have b3 := balloc20 w2 (.cells #[.int .i64 0, .bool false, .bool false, .bool false, .bool false, .bool true, .bool false, .bool false] 67)
  rw [hw3] at nP b3
  try rw [hw3]
  obtain ⟨Pb, hPq⟩ : ∃ Pb, w2.heap.size = Pb := ⟨_, rfl⟩
  replace nA := hid (kept20 nA.out b3)
  replace hT := hid (hT.out.more (b3.mono hB.out.size))
  replace hB := hid (hB.out.trans (b3.mono hB.out.size))
  rw [hPq] at nP hlA2
  try rw [hPq]
  have hlP : Hid (Pb < w3.heap.size) := (Array.getElem?_eq_some_iff.1 nP).1
  replace nP := hid nP
  clear hw3 hPq b3
  have a0 := cell_of20 nA.out (j := 0) rfl
  have a1 := cell_of20 nA.out (j := 1) rfl
  have a2 := cell_of20 nA.out (j := 2) rfl
  have a3 := cell_of20 nA.out (j := 3) rfl
  have a4 := cell_of20 nA.out (j := 4) rfl
  have a5 := cell_of20 nA.out (j := 5) rfl
  have a6 := cell_of20 nA.out (j := 6) rfl
  have a7 := cell_of20 nA.out (j := 7) rfl
  have a8 := cell_of20 nA.out (j := 8) rfl
  have a9 := cell_of20 nA.out (j := 9) rfl
  have a10 := cell_of20 nA.out (j := 10) rfl
  have p0 := cell_of20 nP.out (j := 0) rfl
  have p1 := cell_of20 nP.out (j := 1) rfl
  have p2 := cell_of20 nP.out (j := 2) rfl
  have p3 := cell_of20 nP.out (j := 3) rfl
  have p4 := cell_of20 nP.out (j := 4) rfl
  have p5 := cell_of20 nP.out (j := 5) rfl
  have p6 := cell_of20 nP.out (j := 6) rfl
  have p7 := cell_of20 nP.out (j := 7) rfl
  go_upto_region 7 with fail
  obtain ⟨b, hb⟩ : ∃ b, w3.heap.size = b := ⟨_, rfl⟩
  obtain ⟨w4, hw4⟩ : ∃ w4, w3.alloc (.cells #[.pointer none, .slice none 0 0] 81) = w4 := ⟨_, rfl⟩
  have hX0 := Lib.fresh_isBuilder 81 5 w3
  have nB := new_of20 w3 #[.pointer none, .slice none 0 0] 81
  have b4 := balloc20 w3 (.cells #[.pointer none, .slice none 0 0] 81)
  rw [hb, hw4] at hX0 nB
  rw [hw4] at b4
  try rw [hw4]
  have hX : Hid (Tx b [] w4) := hX0
  have hwb : Hid (w.heap.size ≤ b) := by show _ ≤ _; rw [← hb]; exact hB.out.size
  have hAb : Hid (w.heap.size ≠ b) := by show _ ≠ _; have h1 := hlA2.out; have h2 := hlP.out; omega
  have hPb : Hid (Pb ≠ b) := by show _ ≠ _; have h2 := hlP.out; omega
  clear a0 a1 a2 a3 a4 a5 a6 a7 a8 a9 a10 p0 p1 p2 p3 p4 p5 p6 p7
  replace nA := hid (kept20 nA.out b4)
  replace nP := hid (kept20 nP.out b4)
  replace hT : Hid (Tab b w4) := (hT.out.more (b4.mono hB.out.size)).up hwb.out
  replace hB := hid (hB.out.trans (b4.mono hB.out.size))
  replace nB := hid nB
  try rw [hb]
  clear hX0 b4 hw4 hb hlP hlA2
  have a0 := cell_of20 nA.out (j := 0) rfl
  have a1 := cell_of20 nA.out (j := 1) rfl
  have a2 := cell_of20 nA.out (j := 2) rfl
  have a3 := cell_of20 nA.out (j := 3) rfl
  have a4 := cell_of20 nA.out (j := 4) rfl
  have a5 := cell_of20 nA.out (j := 5) rfl
  have a6 := cell_of20 nA.out (j := 6) rfl
  have a7 := cell_of20 nA.out (j := 7) rfl
  have a8 := cell_of20 nA.out (j := 8) rfl
  have a9 := cell_of20 nA.out (j := 9) rfl
  have a10 := cell_of20 nA.out (j := 10) rfl
  have p0 := cell_of20 nP.out (j := 0) rfl
  have p1 := cell_of20 nP.out (j := 1) rfl
  have p2 := cell_of20 nP.out (j := 2) rfl
  have p3 := cell_of20 nP.out (j := 3) rfl
  have p4 := cell_of20 nP.out (j := 4) rfl
  have p5 := cell_of20 nP.out (j := 5) rfl
  have p6 := cell_of20 nP.out (j := 6) rfl
  have p7 := cell_of20 nP.out (j := 7) rfl
  go_wp2_with fail
  refine wp_loop_rounds 1 ?_
  rw [rounds_succ]
  go_wp2_with fail
  refine wp_loop_rounds 1 ?_
  rw [rounds_succ]
  go_wp2_with fail
  refine (numbers_ok c0 c1 c2 c3 _).mono ?_
  rintro e wn ⟨rfl, bn⟩
  have k := Ok2.ofBelow bn (Nat.le_of_lt hX.out.lt)
  replace hX := hid (hX.out.more bn)
  clear bn
  clear a0 a1 a2 a3 a4 a5 a6 a7 a8 a9 a10 p0 p1 p2 p3 p4 p5 p6 p7
  replace nA := hid (k.cells nA.out hAb.out (by decide))
  replace nP := hid (k.cells nP.out hPb.out (by decide))
  replace hT := hid (hT.out.more k.1)
  replace hB := hid (hB.out.trans (k.1.mono hwb.out))
  clear k
  have a0 := cell_of20 nA.out (j := 0) rfl
  have a1 := cell_of20 nA.out (j := 1) rfl
  have a2 := cell_of20 nA.out (j := 2) rfl
  have a3 := cell_of20 nA.out (j := 3) rfl
  have a4 := cell_of20 nA.out (j := 4) rfl
  have a5 := cell_of20 nA.out (j := 5) rfl
  have a6 := cell_of20 nA.out (j := 6) rfl
  have a7 := cell_of20 nA.out (j := 7) rfl
  have a8 := cell_of20 nA.out (j := 8) rfl
  have a9 := cell_of20 nA.out (j := 9) rfl
  have a10 := cell_of20 nA.out (j := 10) rfl
  have p0 := cell_of20 nP.out (j := 0) rfl
  have p1 := cell_of20 nP.out (j := 1) rfl
  have p2 := cell_of20 nP.out (j := 2) rfl
  have p3 := cell_of20 nP.out (j := 3) rfl
  have p4 := cell_of20 nP.out (j := 4) rfl
  have p5 := cell_of20 nP.out (j := 5) rfl
  have p6 := cell_of20 nP.out (j := 6) rfl
  have p7 := cell_of20 nP.out (j := 7) rfl
  go_wp2_with fail
  refine wp_loop_rounds 5 ?_
  rw [rounds_succ]
  go_wp2_with fail
  have hcall := hid (number_ok (b := b) (l := []) c0 h0.1 h0.2 hT.out hX.out (by simp))
  refine hcall.out.mono ?_
  rintro e wn ⟨rfl, hx, k⟩
  replace hX := hid hx
  clear hx hcall
  clear a0 a1 a2 a3 a4 a5 a6 a7 a8 a9 a10 p0 p1 p2 p3 p4 p5 p6 p7
  replace nA := hid (k.cells nA.out hAb.out (by decide))
  replace nP := hid (k.cells nP.out hPb.out (by decide))
  replace hT := hid (hT.out.more k.1)
  replace hB := hid (hB.out.trans (k.1.mono hwb.out))
  clear k
  have a0 := cell_of20 nA.out (j := 0) rfl
  have a1 := cell_of20 nA.out (j := 1) rfl
  have a2 := cell_of20 nA.out (j := 2) rfl
  have a3 := cell_of20 nA.out (j := 3) rfl
  have a4 := cell_of20 nA.out (j := 4) rfl
  have a5 := cell_of20 nA.out (j := 5) rfl
  have a6 := cell_of20 nA.out (j := 6) rfl
  have a7 := cell_of20 nA.out (j := 7) rfl
  have a8 := cell_of20 nA.out (j := 8) rfl
  have a9 := cell_of20 nA.out (j := 9) rfl
  have a10 := cell_of20 nA.out (j := 10) rfl
  have p0 := cell_of20 nP.out (j := 0) rfl
  have p1 := cell_of20 nP.out (j := 1) rfl
  have p2 := cell_of20 nP.out (j := 2) rfl
  have p3 := cell_of20 nP.out (j := 3) rfl
  have p4 := cell_of20 nP.out (j := 4) rfl
  have p5 := cell_of20 nP.out (j := 5) rfl
  have p6 := cell_of20 nP.out (j := 6) rfl
  have p7 := cell_of20 nP.out (j := 7) rfl
  go_wp2_with fail
  rw [rounds_succ]
  go_wp2_with fail
  have hcall := hid (number_ok (b := b) (l := pw [] (Lib.itoa c0)) c1 h1.1 h1.2 hT.out hX.out (by have := pl0; omega))
  refine hcall.out.mono ?_
  rintro e wn ⟨rfl, hx, k⟩
  replace hX := hid hx
  clear hx hcall
  clear a0 a1 a2 a3 a4 a5 a6 a7 a8 a9 a10 p0 p1 p2 p3 p4 p5 p6 p7
  replace nA := hid (k.cells nA.out hAb.out (by decide))
  replace nP := hid (k.cells nP.out hPb.out (by decide))
  replace hT := hid (hT.out.more k.1)
  replace hB := hid (hB.out.trans (k.1.mono hwb.out))
  clear k
  have a0 := cell_of20 nA.out (j := 0) rfl
  have a1 := cell_of20 nA.out (j := 1) rfl
  have a2 := cell_of20 nA.out (j := 2) rfl
  have a3 := cell_of20 nA.out (j := 3) rfl
  have a4 := cell_of20 nA.out (j := 4) rfl
  have a5 := cell_of20 nA.out (j := 5) rfl
  have a6 := cell_of20 nA.out (j := 6) rfl
  have a7 := cell_of20 nA.out (j := 7) rfl
  have a8 := cell_of20 nA.out (j := 8) rfl
  have a9 := cell_of20 nA.out (j := 9) rfl
  have a10 := cell_of20 nA.out (j := 10) rfl
  have p0 := cell_of20 nP.out (j := 0) rfl
  have p1 := cell_of20 nP.out (j := 1) rfl
  have p2 := cell_of20 nP.out (j := 2) rfl
  have p3 := cell_of20 nP.out (j := 3) rfl
  have p4 := cell_of20 nP.out (j := 4) rfl
  have p5 := cell_of20 nP.out (j := 5) rfl
  have p6 := cell_of20 nP.out (j := 6) rfl
  have p7 := cell_of20 nP.out (j := 7) rfl
  go_wp2_with fail
  rw [rounds_succ]
  go_wp2_with fail
  have hcall := hid (number_ok (b := b) (l := pw (pw [] (Lib.itoa c0)) (Lib.itoa c1)) c2 h2.1 h2.2 hT.out hX.out (by have := pl1; omega))
  refine hcall.out.mono ?_
  rintro e wn ⟨rfl, hx, k⟩
  replace hX := hid hx
  clear hx hcall
  clear a0 a1 a2 a3 a4 a5 a6 a7 a8 a9 a10 p0 p1 p2 p3 p4 p5 p6 p7
  replace nA := hid (k.cells nA.out hAb.out (by decide))
  replace nP := hid (k.cells nP.out hPb.out (by decide))
  replace hT := hid (hT.out.more k.1)
  replace hB := hid (hB.out.trans (k.1.mono hwb.out))
  clear k
  have a0 := cell_of20 nA.out (j := 0) rfl
  have a1 := cell_of20 nA.out (j := 1) rfl
  have a2 := cell_of20 nA.out (j := 2) rfl
  have a3 := cell_of20 nA.out (j := 3) rfl
  have a4 := cell_of20 nA.out (j := 4) rfl
  have a5 := cell_of20 nA.out (j := 5) rfl
  have a6 := cell_of20 nA.out (j := 6) rfl
  have a7 := cell_of20 nA.out (j := 7) rfl
  have a8 := cell_of20 nA.out (j := 8) rfl
  have a9 := cell_of20 nA.out (j := 9) rfl
  have a10 := cell_of20 nA.out (j := 10) rfl
  have p0 := cell_of20 nP.out (j := 0) rfl
  have p1 := cell_of20 nP.out (j := 1) rfl
  have p2 := cell_of20 nP.out (j := 2) rfl
  have p3 := cell_of20 nP.out (j := 3) rfl
  have p4 := cell_of20 nP.out (j := 4) rfl
  have p5 := cell_of20 nP.out (j := 5) rfl
  have p6 := cell_of20 nP.out (j := 6) rfl
  have p7 := cell_of20 nP.out (j := 7) rfl
  go_wp2_with fail
  rw [rounds_succ]
  go_wp2_with fail
  have hcall := hid (number_ok (b := b) (l := pw (pw (pw [] (Lib.itoa c0)) (Lib.itoa c1)) (Lib.itoa c2)) c3 h3.1 h3.2 hT.out hX.out (by have := pl2; omega))
  refine hcall.out.mono ?_
  rintro e wn ⟨rfl, hx, k⟩
  replace hX := hid hx
  clear hx hcall
  clear a0 a1 a2 a3 a4 a5 a6 a7 a8 a9 a10 p0 p1 p2 p3 p4 p5 p6 p7
  replace nA := hid (k.cells nA.out hAb.out (by decide))
  replace nP := hid (k.cells nP.out hPb.out (by decide))
  replace hT := hid (hT.out.more k.1)
  replace hB := hid (hB.out.trans (k.1.mono hwb.out))
  clear k
  have a0 := cell_of20 nA.out (j := 0) rfl
  have a1 := cell_of20 nA.out (j := 1) rfl
  have a2 := cell_of20 nA.out (j := 2) rfl
  have a3 := cell_of20 nA.out (j := 3) rfl
  have a4 := cell_of20 nA.out (j := 4) rfl
  have a5 := cell_of20 nA.out (j := 5) rfl
  have a6 := cell_of20 nA.out (j := 6) rfl
  have a7 := cell_of20 nA.out (j := 7) rfl
  have a8 := cell_of20 nA.out (j := 8) rfl
  have a9 := cell_of20 nA.out (j := 9) rfl
  have a10 := cell_of20 nA.out (j := 10) rfl
  have p0 := cell_of20 nP.out (j := 0) rfl
  have p1 := cell_of20 nP.out (j := 1) rfl
  have p2 := cell_of20 nP.out (j := 2) rfl
  have p3 := cell_of20 nP.out (j := 3) rfl
  have p4 := cell_of20 nP.out (j := 4) rfl
  have p5 := cell_of20 nP.out (j := 5) rfl
  have p6 := cell_of20 nP.out (j := 6) rfl
  have p7 := cell_of20 nP.out (j := 7) rfl
  go_wp2_with fail
  rw [rounds_succ]
  go_wp2_with fail
  have hcall := hid (data0_ok (b := b) (l := pw (pw (pw (pw [] (Lib.itoa c0)) (Lib.itoa c1)) (Lib.itoa c2)) (Lib.itoa c3)) ba bc hX.out)
  refine hcall.out.mono ?_
  rintro e wn ⟨rfl, hx, k⟩
  replace hX := hid hx
  clear hx hcall
  clear a0 a1 a2 a3 a4 a5 a6 a7 a8 a9 a10 p0 p1 p2 p3 p4 p5 p6 p7
  replace nA := hid (k.cells nA.out hAb.out (by decide))
  replace nP := hid (k.cells nP.out hPb.out (by decide))
  replace hT := hid (hT.out.more k.1)
  replace hB := hid (hB.out.trans (k.1.mono hwb.out))
  clear k
  have a0 := cell_of20 nA.out (j := 0) rfl
  have a1 := cell_of20 nA.out (j := 1) rfl
  have a2 := cell_of20 nA.out (j := 2) rfl
  have a3 := cell_of20 nA.out (j := 3) rfl
  have a4 := cell_of20 nA.out (j := 4) rfl
  have a5 := cell_of20 nA.out (j := 5) rfl
  have a6 := cell_of20 nA.out (j := 6) rfl
  have a7 := cell_of20 nA.out (j := 7) rfl
  have a8 := cell_of20 nA.out (j := 8) rfl
  have a9 := cell_of20 nA.out (j := 9) rfl
  have a10 := cell_of20 nA.out (j := 10) rfl
  have p0 := cell_of20 nP.out (j := 0) rfl
  have p1 := cell_of20 nP.out (j := 1) rfl
  have p2 := cell_of20 nP.out (j := 2) rfl
  have p3 := cell_of20 nP.out (j := 3) rfl
  have p4 := cell_of20 nP.out (j := 4) rfl
  have p5 := cell_of20 nP.out (j := 5) rfl
  have p6 := cell_of20 nP.out (j := 6) rfl
  have p7 := cell_of20 nP.out (j := 7) rfl
  go_wp2_with fail
  refine (bl_ok (b := b) (l := pw (pw (pw (pw [] (Lib.itoa c0)) (Lib.itoa c1)) (Lib.itoa c2)) (Lib.itoa c3)) hX.out).mono ?_
  rintro e wn ⟨rfl, rfl⟩
  have hne : (pw (pw (pw (pw [] (Lib.itoa c0)) (Lib.itoa c1)) (Lib.itoa c2)) (Lib.itoa c3)) ≠ [] := by simp [pw, itoa_ne]
  have hz : ¬ ((pw (pw (pw (pw [] (Lib.itoa c0)) (Lib.itoa c1)) (Lib.itoa c2)) (Lib.itoa c3)).length : Int) = 0 := by
    have := List.length_pos_iff.2 hne
    omega
  have hst := hid (bstr_ok b (pw (pw (pw (pw [] (Lib.itoa c0)) (Lib.itoa c1)) (Lib.itoa c2)) (Lib.itoa c3)) _ hX.out hne)
  clear hne
  have hend : Hid (pw (pw (pw (pw [] (Lib.itoa c0)) (Lib.itoa c1)) (Lib.itoa c2)) (Lib.itoa c3) = jw [Lib.itoa c0, Lib.itoa c1, Lib.itoa c2, Lib.itoa c3]) := by show _ = _; simp [jw, pw, itoa_ne]
  obtain ⟨L, hL⟩ : ∃ L, (pw (pw (pw (pw [] (Lib.itoa c0)) (Lib.itoa c1)) (Lib.itoa c2)) (Lib.itoa c3)).length = L := ⟨_, rfl⟩
  rw [hL] at hz
  try rw [hL]
  clear hL
  go_wp2_with fail
  refine hst.out.mono ?_
  rintro e wn ⟨rfl, bz⟩
  have hbz := hid (hB.out.trans (bz.mono hwb.out))
  clear bz hst
  go_wp2_with fail
  go_ret2
  try rw [hend.out]
  exact ⟨rfl, hbz.out⟩

set_option maxRecDepth 100000 in
set_option maxHeartbeats 16000000 in
theorem text_d (k : Int) (ha : Option Addr) (hc : Nat) (da : Option Addr) (dc : Nat) (ba : Option Addr) (bn bc : Nat) (d : List UInt8) (w : World) (ht : Tab w.heap.size w) (hD : Bytes w ba bc d) (hds : d ≠ []) (hbl : d.length = bn) (hb3 : bn ≤ 3000)
    (hck : ∀ w', Below w.heap.size w w' → Calls Tryd.prog 19 #[.int .i64 k, .agg #[.int .i64 0, .slice ha 0 hc, .bool false, .int .i64 0, .slice da 0 dc, .int .i64 0, .int .i64 0, .int .i64 0, .int .i64 0, .int .i64 0, .slice ba bn bc]] w' fun e w'' => e = .returned (.tuple #[.agg #[.int .i64 0, .bool false, .bool false, .bool false, .bool false, .bool false, .bool false, .bool true], .nilIface]) ∧ Below w'.heap.size w' w'') :
    Calls Tryd.prog 11 #[.int .i64 k, .agg #[.int .i64 0, .slice ha 0 hc, .bool false, .int .i64 0, .slice da 0 dc, .int .i64 0, .int .i64 0, .int .i64 0, .int .i64 0, .int .i64 0, .slice ba bn bc]] w fun e w' => e = .returned (.tuple #[.string ⟨(d.flatMap hex1).toArray⟩, .nilIface]) ∧ Below w.heap.size w w' := by
  replace hD := hid hD
  replace hbl := hid hbl
  have b1 := balloc20 w (.cells #[.int .i64 0, .slice ha 0 hc, .bool false, .int .i64 0, .slice da 0 dc, .int .i64 0, .int .i64 0, .int .i64 0, .int .i64 0, .int .i64 0, .slice ba bn bc] 34)
  have nA := new_of20 w #[.int .i64 0, .slice ha 0 hc, .bool false, .int .i64 0, .slice da 0 dc, .int .i64 0, .int .i64 0, .int .i64 0, .int .i64 0, .int .i64 0, .slice ba bn bc] 34
  obtain ⟨w1, hw1⟩ : ∃ w1, w.alloc (.cells #[.int .i64 0, .slice ha 0 hc, .bool false, .int .i64 0, .slice da 0 dc, .int .i64 0, .int .i64 0, .int .i64 0, .int .i64 0, .int .i64 0, .slice ba bn bc] 34) = w1 := ⟨_, rfl⟩
  rw [hw1] at b1 nA
  have hc1 := hid (hck w1 b1)
  have hT := hid (ht.more b1)
  replace nA := hid nA
  have hB := hid b1
  have hlA : Hid (w.heap.size < w1.heap.size) := (Array.getElem?_eq_some_iff.1 nA.out).1
  clear b1 hck ht
  have a0 := cell_of20 nA.out (j := 0) rfl
  have a1 := cell_of20 nA.out (j := 1) rfl
  have a2 := cell_of20 nA.out (j := 2) rfl
  have a3 := cell_of20 nA.out (j := 3) rfl
  have a4 := cell_of20 nA.out (j := 4) rfl
  have a5 := cell_of20 nA.out (j := 5) rfl
  have a6 := cell_of20 nA.out (j := 6) rfl
  have a7 := cell_of20 nA.out (j := 7) rfl
  have a8 := cell_of20 nA.out (j := 8) rfl
  have a9 := cell_of20 nA.out (j := 9) rfl
  have a10 := cell_of20 nA.out (j := 10) rfl
  go_enter Tryd.func11, Tryd.ntmps11
  go_wp2_with fail
  try rw [hw1]
  clear hw1
  refine hc1.out.mono ?_
  rintro e w2 ⟨rfl, b2⟩
  clear a0 a1 a2 a3 a4 a5 a6 a7 a8 a9 a10
  replace nA := hid (kept20 nA.out b2)
  replace hT := hid (hT.out.more (b2.mono hB.out.size))
  replace hB := hid (hB.out.trans (b2.mono hB.out.size))
  have hlA2 : Hid (w.heap.size < w2.heap.size) := Nat.lt_of_lt_of_le hlA.out b2.size
  clear b2 hc1 hlA
  go_upto_region 4 with fail
  obtain ⟨w3, hw3⟩ : ∃ w3, w2.alloc (.cells #[.int .i64 0, .bool false, .bool false, .bool false, .bool false, .bool false, .bool false, .bool true] 67) = w3 := ⟨_, rfl⟩
  have nP := new_of20 w2 #[.int .i64 0, .bool false, .bool false, .bool false, .bool false, .bool false, .bool false, .bool true] 67
  have b3 := balloc20 w2 (.cells #[.int .i64 0, .bool false, .bool false, .bool false, .bool false, .bool false, .bool false, .bool true] 67)
  rw [hw3] at nP b3
  try rw [hw3]
  obtain ⟨Pb, hPq⟩ : ∃ Pb, w2.heap.size = Pb := ⟨_, rfl⟩
  replace nA := hid (kept20 nA.out b3)
  replace hT := hid (hT.out.more (b3.mono hB.out.size))
  replace hB := hid (hB.out.trans (b3.mono hB.out.size))
  rw [hPq] at nP hlA2
  try rw [hPq]
  have hlP : Hid (Pb < w3.heap.size) := (Array.getElem?_eq_some_iff.1 nP).1
  replace nP := hid nP
  clear hw3 hPq b3
  have a0 := cell_of20 nA.out (j := 0) rfl
  have a1 := cell_of20 nA.out (j := 1) rfl
  have a2 := cell_of20 nA.out (j := 2) rfl
  have a3 := cell_of20 nA.out (j := 3) rfl
  have a4 := cell_of20 nA.out (j := 4) rfl
  have a5 := cell_of20 nA.out (j := 5) rfl
  have a6 := cell_of20 nA.out (j := 6) rfl
  have a7 := cell_of20 nA.out (j := 7) rfl
  have a8 := cell_of20 nA.out (j := 8) rfl
  have a9 := cell_of20 nA.out (j := 9) rfl
  have a10 := cell_of20 nA.out (j := 10) rfl
  have p0 := cell_of20 nP.out (j := 0) rfl
  have p1 := cell_of20 nP.out (j := 1) rfl
  have p2 := cell_of20 nP.out (j := 2) rfl
  have p3 := cell_of20 nP.out (j := 3) rfl
  have p4 := cell_of20 nP.out (j := 4) rfl
  have p5 := cell_of20 nP.out (j := 5) rfl
  have p6 := cell_of20 nP.out (j := 6) rfl
  have p7 := cell_of20 nP.out (j := 7) rfl
  go_upto_region 7 with fail
  obtain ⟨b, hb⟩ : ∃ b, w3.heap.size = b := ⟨_, rfl⟩
  obtain ⟨w4, hw4⟩ : ∃ w4, w3.alloc (.cells #[.pointer none, .slice none 0 0] 81) = w4 := ⟨_, rfl⟩
  have hX0 := Lib.fresh_isBuilder 81 5 w3
  have nB := new_of20 w3 #[.pointer none, .slice none 0 0] 81
  have b4 := balloc20 w3 (.cells #[.pointer none, .slice none 0 0] 81)
  rw [hb, hw4] at hX0 nB
  rw [hw4] at b4
  try rw [hw4]
  have hX : Hid (Tx b [] w4) := hX0
  have hwb : Hid (w.heap.size ≤ b) := by show _ ≤ _; rw [← hb]; exact hB.out.size
  have hAb : Hid (w.heap.size ≠ b) := by show _ ≠ _; have h1 := hlA2.out; have h2 := hlP.out; omega
  have hPb : Hid (Pb ≠ b) := by show _ ≠ _; have h2 := hlP.out; omega
  clear a0 a1 a2 a3 a4 a5 a6 a7 a8 a9 a10 p0 p1 p2 p3 p4 p5 p6 p7
  replace nA := hid (kept20 nA.out b4)
  replace nP := hid (kept20 nP.out b4)
  replace hT : Hid (Tab b w4) := (hT.out.more (b4.mono hB.out.size)).up hwb.out
  replace hB := hid (hB.out.trans (b4.mono hB.out.size))
  replace nB := hid nB
  try rw [hb]
  clear hX0 b4 hw4 hb hlP hlA2
  have a0 := cell_of20 nA.out (j := 0) rfl
  have a1 := cell_of20 nA.out (j := 1) rfl
  have a2 := cell_of20 nA.out (j := 2) rfl
  have a3 := cell_of20 nA.out (j := 3) rfl
  have a4 := cell_of20 nA.out (j := 4) rfl
  have a5 := cell_of20 nA.out (j := 5) rfl
  have a6 := cell_of20 nA.out (j := 6) rfl
  have a7 := cell_of20 nA.out (j := 7) rfl
  have a8 := cell_of20 nA.out (j := 8) rfl
  have a9 := cell_of20 nA.out (j := 9) rfl
  have a10 := cell_of20 nA.out (j := 10) rfl
  have p0 := cell_of20 nP.out (j := 0) rfl
  have p1 := cell_of20 nP.out (j := 1) rfl
  have p2 := cell_of20 nP.out (j := 2) rfl
  have p3 := cell_of20 nP.out (j := 3) rfl
  have p4 := cell_of20 nP.out (j := 4) rfl
  have p5 := cell_of20 nP.out (j := 5) rfl
  have p6 := cell_of20 nP.out (j := 6) rfl
  have p7 := cell_of20 nP.out (j := 7) rfl
  go_wp2_with fail
  refine wp_loop_rounds 1 ?_
  rw [rounds_succ]
  go_wp2_with fail
  refine wp_loop_rounds 1 ?_
  rw [rounds_succ]
  go_wp2_with fail
  have hdt := hid (data_ok (b := b) d ba bn bc hbl.out (by omega) nB.out (fun w' q => hD.out.below (hB.out.trans (q.mono hwb.out))))
  refine hdt.out.mono ?_
  rintro e wn ⟨rfl, hx, k⟩
  replace hX := hid hx
  replace hB := hid (hB.out.trans (k.mono hwb.out))
  clear a0 a1 a2 a3 a4 a5 a6 a7 a8 a9 a10 p0 p1 p2 p3 p4 p5 p6 p7
  clear k hx hdt nB
  go_wp2_with fail
  refine (bl_ok (b := b) (l := d.flatMap hex1) hX.out).mono ?_
  rintro e wn ⟨rfl, rfl⟩
  have hne : (d.flatMap hex1) ≠ [] := by cases d with
    | nil => exact absurd rfl hds
    | cons x xs => simp [hex1]
  have hz : ¬ ((d.flatMap hex1).length : Int) = 0 := by
    have := List.length_pos_iff.2 hne
    omega
  have hst := hid (bstr_ok b (d.flatMap hex1) _ hX.out hne)
  clear hne
  have hend : Hid (d.flatMap hex1 = d.flatMap hex1) := by show _ = _; rfl
  obtain ⟨L, hL⟩ : ∃ L, (d.flatMap hex1).length = L := ⟨_, rfl⟩
  rw [hL] at hz
  try rw [hL]
  clear hL
  go_wp2_with fail
  refine hst.out.mono ?_
  rintro e wn ⟨rfl, bz⟩
  have hbz := hid (hB.out.trans (bz.mono hwb.out))
  clear bz hst
  go_wp2_with fail
  go_ret2
  try rw [hend.out]
  exact ⟨rfl, hbz.out⟩

end Go.Proofs.YtkopcfpghklbbaaDoor
