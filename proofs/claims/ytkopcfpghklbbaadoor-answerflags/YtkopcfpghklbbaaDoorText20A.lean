/- answer's Text, walked: one theorem a kind of answer (first part). -/
import Derived.Test.YtkopcfpghklbbaaDoorDart20
namespace Go.Proofs.YtkopcfpghklbbaaDoor
open Go.RowKit
set_option linter.unusedVariables false
attribute [local go_sem] idx40 idx41 idx42 idx43

set_option maxRecDepth 100000 in
set_option maxHeartbeats 16000000 in
theorem text_i (k : Int) (ha : Option Addr) (hc : Nat) (da : Option Addr) (dc : Nat) (ba : Option Addr) (bc : Nat) (v : Bool) (w : World) (ht : Tab w.heap.size w)
    (hck : ∀ w', Below w.heap.size w w' → Calls Tryd.prog 19 #[.int .i64 k, .agg #[.int .i64 0, .slice ha 0 hc, .bool v, .int .i64 0, .slice da 0 dc, .int .i64 0, .int .i64 0, .int .i64 0, .int .i64 0, .int .i64 0, .slice ba 0 bc]] w' fun e w'' => e = .returned (.tuple #[.agg #[.int .i64 0, .bool false, .bool false, .bool true, .bool false, .bool false, .bool false, .bool false], .nilIface]) ∧ Below w'.heap.size w' w'') :
    Calls Tryd.prog 11 #[.int .i64 k, .agg #[.int .i64 0, .slice ha 0 hc, .bool v, .int .i64 0, .slice da 0 dc, .int .i64 0, .int .i64 0, .int .i64 0, .int .i64 0, .int .i64 0, .slice ba 0 bc]] w fun e w' => e = .returned (.tuple #[.string ⟨(yn v).toArray⟩, .nilIface]) ∧ Below w.heap.size w w' := by
  have b1 := balloc20 w (.cells #[.int .i64 0, .slice ha 0 hc, .bool v, .int .i64 0, .slice da 0 dc, .int .i64 0, .int .i64 0, .int .i64 0, .int .i64 0, .int .i64 0, .slice ba 0 bc] 34)
  have nA := new_of20 w #[.int .i64 0, .slice ha 0 hc, .bool v, .int .i64 0, .slice da 0 dc, .int .i64 0, .int .i64 0, .int .i64 0, .int .i64 0, .int .i64 0, .slice ba 0 bc] 34
  obtain ⟨w1, hw1⟩ : ∃ w1, w.alloc (.cells #[.int .i64 0, .slice ha 0 hc, .bool v, .int .i64 0, .slice da 0 dc, .int .i64 0, .int .i64 0, .int .i64 0, .int .i64 0, .int .i64 0, .slice ba 0 bc] 34) = w1 := ⟨_, rfl⟩
  rw [hw1] at b1 nA
  have hc1 := hid (hck w1 b1)
  have hT := hid (ht.more b1)
  replace nA := hid nA
  have hB := hid b1
  have hlA : Hid (w.heap.size < w1.heap.size) := (Array.getElem?_eq_some_iff.1 nA.out).1
  clear b1 hck ht
  have a0 := cell_of20 nA.out (j := 0) rfl
  have a1 := cell_of20 nA.out (j := 1) rfl
  have a2 := cell_of20 nA.out (j := 2) rfl
  have a3 := cell_of20 nA.out (j := 3) rfl
  have a4 := cell_of20 nA.out (j := 4) rfl
  have a5 := cell_of20 nA.out (j := 5) rfl
  have a6 := cell_of20 nA.out (j := 6) rfl
  have a7 := cell_of20 nA.out (j := 7) rfl
  have a8 := cell_of20 nA.out (j := 8) rfl
  have a9 := cell_of20 nA.out (j := 9) rfl
  have a10 := cell_of20 nA.out (j := 10) rfl
  go_enter Tryd.func11, Tryd.ntmps11
  go_wp2_with fail
  try rw [hw1]
  clear hw1
  refine hc1.out.mono ?_
  rintro e w2 ⟨rfl, b2⟩
  clear a0 a1 a2 a3 a4 a5 a6 a7 a8 a9 a10
  replace nA := hid (kept20 nA.out b2)
  replace hT := hid (hT.out.more (b2.mono hB.out.size))
  replace hB := hid (hB.out.trans (b2.mono hB.out.size))
  have hlA2 : Hid (w.heap.size < w2.heap.size) := Nat.lt_of_lt_of_le hlA.out b2.size
  clear b2 hc1 hlA
  go_upto_region 4 with fail
  obtain ⟨w3, hw3⟩ : ∃ w3, w2.alloc (.cells #[.int .i64 0, .bool false, .bool false, .bool true, .bool false, .bool false, .bool false, .bool false] 67) = w3 := ⟨_, rfl⟩
  have nP := new_of20 w2 #[.int .i64 0, .bool false, .bool false, .bool true, .bool false, .bool false, .bool false, .bool false] 67
  have b3 := balloc20 w2 (.cells #[.int .i64 0, .bool false, .bool false, .bool true, .bool false, .bool false, .bool false, .bool false] 67)
  rw [hw3] at nP b3
  try rw [hw3]
  obtain ⟨Pb, hPq⟩ : ∃ Pb, w2.heap.size = Pb := ⟨_, rfl⟩
  replace nA := hid (kept20 nA.out b3)
  replace hT := hid (hT.out.more (b3.mono hB.out.size))
  replace hB := hid (hB.out.trans (b3.mono hB.out.size))
  rw [hPq] at nP hlA2
  try rw [hPq]
  have hlP : Hid (Pb < w3.heap.size) := (Array.getElem?_eq_some_iff.1 nP).1
  replace nP := hid nP
  clear hw3 hPq b3
  have a0 := cell_of20 nA.out (j := 0) rfl
  have a1 := cell_of20 nA.out (j := 1) rfl
  have a2 := cell_of20 nA.out (j := 2) rfl
  have a3 := cell_of20 nA.out (j := 3) rfl
  have a4 := cell_of20 nA.out (j := 4) rfl
  have a5 := cell_of20 nA.out (j := 5) rfl
  have a6 := cell_of20 nA.out (j := 6) rfl
  have a7 := cell_of20 nA.out (j := 7) rfl
  have a8 := cell_of20 nA.out (j := 8) rfl
  have a9 := cell_of20 nA.out (j := 9) rfl
  have a10 := cell_of20 nA.out (j := 10) rfl
  have p0 := cell_of20 nP.out (j := 0) rfl
  have p1 := cell_of20 nP.out (j := 1) rfl
  have p2 := cell_of20 nP.out (j := 2) rfl
  have p3 := cell_of20 nP.out (j := 3) rfl
  have p4 := cell_of20 nP.out (j := 4) rfl
  have p5 := cell_of20 nP.out (j := 5) rfl
  have p6 := cell_of20 nP.out (j := 6) rfl
  have p7 := cell_of20 nP.out (j := 7) rfl
  go_upto_region 7 with fail
  obtain ⟨b, hb⟩ : ∃ b, w3.heap.size = b := ⟨_, rfl⟩
  obtain ⟨w4, hw4⟩ : ∃ w4, w3.alloc (.cells #[.pointer none, .slice none 0 0] 81) = w4 := ⟨_, rfl⟩
  have hX0 := Lib.fresh_isBuilder 81 5 w3
  have nB := new_of20 w3 #[.pointer none, .slice none 0 0] 81
  have b4 := balloc20 w3 (.cells #[.pointer none, .slice none 0 0] 81)
  rw [hb, hw4] at hX0 nB
  rw [hw4] at b4
  try rw [hw4]
  have hX : Hid (Tx b [] w4) := hX0
  have hwb : Hid (w.heap.size ≤ b) := by show _ ≤ _; rw [← hb]; exact hB.out.size
  have hAb : Hid (w.heap.size ≠ b) := by show _ ≠ _; have h1 := hlA2.out; have h2 := hlP.out; omega
  have hPb : Hid (Pb ≠ b) := by show _ ≠ _; have h2 := hlP.out; omega
  clear a0 a1 a2 a3 a4 a5 a6 a7 a8 a9 a10 p0 p1 p2 p3 p4 p5 p6 p7
  replace nA := hid (kept20 nA.out b4)
  replace nP := hid (kept20 nP.out b4)
  replace hT : Hid (Tab b w4) := (hT.out.more (b4.mono hB.out.size)).up hwb.out
  replace hB := hid (hB.out.trans (b4.mono hB.out.size))
  replace nB := hid nB
  try rw [hb]
  clear hX0 b4 hw4 hb hlP hlA2
  have a0 := cell_of20 nA.out (j := 0) rfl
  have a1 := cell_of20 nA.out (j := 1) rfl
  have a2 := cell_of20 nA.out (j := 2) rfl
  have a3 := cell_of20 nA.out (j := 3) rfl
  have a4 := cell_of20 nA.out (j := 4) rfl
  have a5 := cell_of20 nA.out (j := 5) rfl
  have a6 := cell_of20 nA.out (j := 6) rfl
  have a7 := cell_of20 nA.out (j := 7) rfl
  have a8 := cell_of20 nA.out (j := 8) rfl
  have a9 := cell_of20 nA.out (j := 9) rfl
  have a10 := cell_of20 nA.out (j := 10) rfl
  have p0 := cell_of20 nP.out (j := 0) rfl
  have p1 := cell_of20 nP.out (j := 1) rfl
  have p2 := cell_of20 nP.out (j := 2) rfl
  have p3 := cell_of20 nP.out (j := 3) rfl
  have p4 := cell_of20 nP.out (j := 4) rfl
  have p5 := cell_of20 nP.out (j := 5) rfl
  have p6 := cell_of20 nP.out (j := 6) rfl
  have p7 := cell_of20 nP.out (j := 7) rfl
  go_wp2_with fail
  refine wp_loop_rounds 1 ?_
  rw [rounds_succ]
  go_wp2_with fail
  refine (yesno_ok v _).mono ?_
  rintro e wn ⟨rfl, rfl⟩
  go_wp2_with fail
  have hcall := hid (word_ok (b := b) (l := []) (yn v) hX.out (by cases v <;> simp [yn]))
  refine hcall.out.mono ?_
  rintro e wn ⟨rfl, hx, k⟩
  replace hX := hid hx
  clear hx hcall
  clear a0 a1 a2 a3 a4 a5 a6 a7 a8 a9 a10 p0 p1 p2 p3 p4 p5 p6 p7
  replace nA := hid (k.cells nA.out hAb.out (by decide))
  replace nP := hid (k.cells nP.out hPb.out (by decide))
  replace hT := hid (hT.out.more k.1)
  replace hB := hid (hB.out.trans (k.1.mono hwb.out))
  clear k
  have a0 := cell_of20 nA.out (j := 0) rfl
  have a1 := cell_of20 nA.out (j := 1) rfl
  have a2 := cell_of20 nA.out (j := 2) rfl
  have a3 := cell_of20 nA.out (j := 3) rfl
  have a4 := cell_of20 nA.out (j := 4) rfl
  have a5 := cell_of20 nA.out (j := 5) rfl
  have a6 := cell_of20 nA.out (j := 6) rfl
  have a7 := cell_of20 nA.out (j := 7) rfl
  have a8 := cell_of20 nA.out (j := 8) rfl
  have a9 := cell_of20 nA.out (j := 9) rfl
  have a10 := cell_of20 nA.out (j := 10) rfl
  have p0 := cell_of20 nP.out (j := 0) rfl
  have p1 := cell_of20 nP.out (j := 1) rfl
  have p2 := cell_of20 nP.out (j := 2) rfl
  have p3 := cell_of20 nP.out (j := 3) rfl
  have p4 := cell_of20 nP.out (j := 4) rfl
  have p5 := cell_of20 nP.out (j := 5) rfl
  have p6 := cell_of20 nP.out (j := 6) rfl
  have p7 := cell_of20 nP.out (j := 7) rfl
  go_wp2_with fail
  refine wp_loop_rounds 1 ?_
  rw [rounds_succ]
  go_wp2_with fail
  have hcall := hid (data0_ok (b := b) (l := pw [] (yn v)) ba bc hX.out)
  refine hcall.out.mono ?_
  rintro e wn ⟨rfl, hx, k⟩
  replace hX := hid hx
  clear hx hcall
  clear a0 a1 a2 a3 a4 a5 a6 a7 a8 a9 a10 p0 p1 p2 p3 p4 p5 p6 p7
  replace nA := hid (k.cells nA.out hAb.out (by decide))
  replace nP := hid (k.cells nP.out hPb.out (by decide))
  replace hT := hid (hT.out.more k.1)
  replace hB := hid (hB.out.trans (k.1.mono hwb.out))
  clear k
  have a0 := cell_of20 nA.out (j := 0) rfl
  have a1 := cell_of20 nA.out (j := 1) rfl
  have a2 := cell_of20 nA.out (j := 2) rfl
  have a3 := cell_of20 nA.out (j := 3) rfl
  have a4 := cell_of20 nA.out (j := 4) rfl
  have a5 := cell_of20 nA.out (j := 5) rfl
  have a6 := cell_of20 nA.out (j := 6) rfl
  have a7 := cell_of20 nA.out (j := 7) rfl
  have a8 := cell_of20 nA.out (j := 8) rfl
  have a9 := cell_of20 nA.out (j := 9) rfl
  have a10 := cell_of20 nA.out (j := 10) rfl
  have p0 := cell_of20 nP.out (j := 0) rfl
  have p1 := cell_of20 nP.out (j := 1) rfl
  have p2 := cell_of20 nP.out (j := 2) rfl
  have p3 := cell_of20 nP.out (j := 3) rfl
  have p4 := cell_of20 nP.out (j := 4) rfl
  have p5 := cell_of20 nP.out (j := 5) rfl
  have p6 := cell_of20 nP.out (j := 6) rfl
  have p7 := cell_of20 nP.out (j := 7) rfl
  go_wp2_with fail
  refine (bl_ok (b := b) (l := pw [] (yn v)) hX.out).mono ?_
  rintro e wn ⟨rfl, rfl⟩
  have hne : (pw [] (yn v)) ≠ [] := by simp [pw, yn_ne]
  have hz : ¬ ((pw [] (yn v)).length : Int) = 0 := by
    have := List.length_pos_iff.2 hne
    omega
  have hst := hid (bstr_ok b (pw [] (yn v)) _ hX.out hne)
  clear hne
  have hend : Hid (pw [] (yn v) = yn v) := by show _ = _; simp [pw]
  obtain ⟨L, hL⟩ : ∃ L, (pw [] (yn v)).length = L := ⟨_, rfl⟩
  rw [hL] at hz
  try rw [hL]
  clear hL
  go_wp2_with fail
  refine hst.out.mono ?_
  rintro e wn ⟨rfl, bz⟩
  have hbz := hid (hB.out.trans (bz.mono hwb.out))
  clear bz hst
  go_wp2_with fail
  go_ret2
  try rw [hend.out]
  exact ⟨rfl, hbz.out⟩

set_option maxRecDepth 100000 in
set_option maxHeartbeats 16000000 in
theorem text_n (k : Int) (ha : Option Addr) (hc : Nat) (da : Option Addr) (dc : Nat) (ba : Option Addr) (bc : Nat) (n : Int) (h0 : -9223372036854775808 ≤ n) (h1 : n ≤ 9223372036854775807) (w : World) (ht : Tab w.heap.size w)
    (hck : ∀ w', Below w.heap.size w w' → Calls Tryd.prog 19 #[.int .i64 k, .agg #[.int .i64 0, .slice ha 0 hc, .bool false, .int .i64 n, .slice da 0 dc, .int .i64 0, .int .i64 0, .int .i64 0, .int .i64 0, .int .i64 0, .slice ba 0 bc]] w' fun e w'' => e = .returned (.tuple #[.agg #[.int .i64 0, .bool false, .bool false, .bool false, .bool true, .bool false, .bool false, .bool false], .nilIface]) ∧ Below w'.heap.size w' w'') :
    Calls Tryd.prog 11 #[.int .i64 k, .agg #[.int .i64 0, .slice ha 0 hc, .bool false, .int .i64 n, .slice da 0 dc, .int .i64 0, .int .i64 0, .int .i64 0, .int .i64 0, .int .i64 0, .slice ba 0 bc]] w fun e w' => e = .returned (.tuple #[.string ⟨(Lib.itoa n).toArray⟩, .nilIface]) ∧ Below w.heap.size w w' := by
  have b1 := balloc20 w (.cells #[.int .i64 0, .slice ha 0 hc, .bool false, .int .i64 n, .slice da 0 dc, .int .i64 0, .int .i64 0, .int .i64 0, .int .i64 0, .int .i64 0, .slice ba 0 bc] 34)
  have nA := new_of20 w #[.int .i64 0, .slice ha 0 hc, .bool false, .int .i64 n, .slice da 0 dc, .int .i64 0, .int .i64 0, .int .i64 0, .int .i64 0, .int .i64 0, .slice ba 0 bc] 34
  obtain ⟨w1, hw1⟩ : ∃ w1, w.alloc (.cells #[.int .i64 0, .slice ha 0 hc, .bool false, .int .i64 n, .slice da 0 dc, .int .i64 0, .int .i64 0, .int .i64 0, .int .i64 0, .int .i64 0, .slice ba 0 bc] 34) = w1 := ⟨_, rfl⟩
  rw [hw1] at b1 nA
  have hc1 := hid (hck w1 b1)
  have hT := hid (ht.more b1)
  replace nA := hid nA
  have hB := hid b1
  have hlA : Hid (w.heap.size < w1.heap.size) := (Array.getElem?_eq_some_iff.1 nA.out).1
  clear b1 hck ht
  have a0 := cell_of20 nA.out (j := 0) rfl
  have a1 := cell_of20 nA.out (j := 1) rfl
  have a2 := cell_of20 nA.out (j := 2) rfl
  have a3 := cell_of20 nA.out (j := 3) rfl
  have a4 := cell_of20 nA.out (j := 4) rfl
  have a5 := cell_of20 nA.out (j := 5) rfl
  have a6 := cell_of20 nA.out (j := 6) rfl
  have a7 := cell_of20 nA.out (j := 7) rfl
  have a8 := cell_of20 nA.out (j := 8) rfl
  have a9 := cell_of20 nA.out (j := 9) rfl
  have a10 := cell_of20 nA.out (j := 10) rfl
  go_enter Tryd.func11, Tryd.ntmps11
  go_wp2_with fail
  try rw [hw1]
  clear hw1
  refine hc1.out.mono ?_
  rintro e w2 ⟨rfl, b2⟩
  clear a0 a1 a2 a3 a4 a5 a6 a7 a8 a9 a10
  replace nA := hid (kept20 nA.out b2)
  replace hT := hid (hT.out.more (b2.mono hB.out.size))
  replace hB := hid (hB.out.trans (b2.mono hB.out.size))
  have hlA2 : Hid (w.heap.size < w2.heap.size) := Nat.lt_of_lt_of_le hlA.out b2.size
  clear b2 hc1 hlA
  go_upto_region 4 with fail
  obtain ⟨w3, hw3⟩ : ∃ w3, w2.alloc (.cells #[.int .i64 0, .bool false, .bool false, .bool false, .bool true, .bool false, .bool false, .bool false] 67) = w3 := ⟨_, rfl⟩
  have nP := new_of20 w2 #[.int .i64 0, .bool false, .bool false, .bool false, .bool true, .bool false, .bool false, .bool false] 67
  have b3 := balloc20 w2 (.cells #[.int .i64 0, .bool false, .bool false, .bool false, .bool true, .bool false, .bool false, .bool false] 67)
  rw [hw3] at nP b3
  try rw [hw3]
  obtain ⟨Pb, hPq⟩ : ∃ Pb, w2.heap.size = Pb := ⟨_, rfl⟩
  replace nA := hid (kept20 nA.out b3)
  replace hT := hid (hT.out.more (b3.mono hB.out.size))
  replace hB := hid (hB.out.trans (b3.mono hB.out.size))
  rw [hPq] at nP hlA2
  try rw [hPq]
  have hlP : Hid (Pb < w3.heap.size) := (Array.getElem?_eq_some_iff.1 nP).1
  replace nP := hid nP
  clear hw3 hPq b3
  have a0 := cell_of20 nA.out (j := 0) rfl
  have a1 := cell_of20 nA.out (j := 1) rfl
  have a2 := cell_of20 nA.out (j := 2) rfl
  have a3 := cell_of20 nA.out (j := 3) rfl
  have a4 := cell_of20 nA.out (j := 4) rfl
  have a5 := cell_of20 nA.out (j := 5) rfl
  have a6 := cell_of20 nA.out (j := 6) rfl
  have a7 := cell_of20 nA.out (j := 7) rfl
  have a8 := cell_of20 nA.out (j := 8) rfl
  have a9 := cell_of20 nA.out (j := 9) rfl
  have a10 := cell_of20 nA.out (j := 10) rfl
  have p0 := cell_of20 nP.out (j := 0) rfl
  have p1 := cell_of20 nP.out (j := 1) rfl
  have p2 := cell_of20 nP.out (j := 2) rfl
  have p3 := cell_of20 nP.out (j := 3) rfl
  have p4 := cell_of20 nP.out (j := 4) rfl
  have p5 := cell_of20 nP.out (j := 5) rfl
  have p6 := cell_of20 nP.out (j := 6) rfl
  have p7 := cell_of20 nP.out (j := 7) rfl
  go_upto_region 7 with fail
  obtain ⟨b, hb⟩ : ∃ b, w3.heap.size = b := ⟨_, rfl⟩
  obtain ⟨w4, hw4⟩ : ∃ w4, w3.alloc (.cells #[.pointer none, .slice none 0 0] 81) = w4 := ⟨_, rfl⟩
  have hX0 := Lib.fresh_isBuilder 81 5 w3
  have nB := new_of20 w3 #[.pointer none, .slice none 0 0] 81
  have b4 := balloc20 w3 (.cells #[.pointer none, .slice none 0 0] 81)
  rw [hb, hw4] at hX0 nB
  rw [hw4] at b4
  try rw [hw4]
  have hX : Hid (Tx b [] w4) := hX0
  have hwb : Hid (w.heap.size ≤ b) := by show _ ≤ _; rw [← hb]; exact hB.out.size
  have hAb : Hid (w.heap.size ≠ b) := by show _ ≠ _; have h1 := hlA2.out; have h2 := hlP.out; omega
  have hPb : Hid (Pb ≠ b) := by show _ ≠ _; have h2 := hlP.out; omega
  clear a0 a1 a2 a3 a4 a5 a6 a7 a8 a9 a10 p0 p1 p2 p3 p4 p5 p6 p7
  replace nA := hid (kept20 nA.out b4)
  replace nP := hid (kept20 nP.out b4)
  replace hT : Hid (Tab b w4) := (hT.out.more (b4.mono hB.out.size)).up hwb.out
  replace hB := hid (hB.out.trans (b4.mono hB.out.size))
  replace nB := hid nB
  try rw [hb]
  clear hX0 b4 hw4 hb hlP hlA2
  have a0 := cell_of20 nA.out (j := 0) rfl
  have a1 := cell_of20 nA.out (j := 1) rfl
  have a2 := cell_of20 nA.out (j := 2) rfl
  have a3 := cell_of20 nA.out (j := 3) rfl
  have a4 := cell_of20 nA.out (j := 4) rfl
  have a5 := cell_of20 nA.out (j := 5) rfl
  have a6 := cell_of20 nA.out (j := 6) rfl
  have a7 := cell_of20 nA.out (j := 7) rfl
  have a8 := cell_of20 nA.out (j := 8) rfl
  have a9 := cell_of20 nA.out (j := 9) rfl
  have a10 := cell_of20 nA.out (j := 10) rfl
  have p0 := cell_of20 nP.out (j := 0) rfl
  have p1 := cell_of20 nP.out (j := 1) rfl
  have p2 := cell_of20 nP.out (j := 2) rfl
  have p3 := cell_of20 nP.out (j := 3) rfl
  have p4 := cell_of20 nP.out (j := 4) rfl
  have p5 := cell_of20 nP.out (j := 5) rfl
  have p6 := cell_of20 nP.out (j := 6) rfl
  have p7 := cell_of20 nP.out (j := 7) rfl
  go_wp2_with fail
  refine wp_loop_rounds 1 ?_
  rw [rounds_succ]
  go_wp2_with fail
  have hcall := hid (number_ok (b := b) (l := []) n h0 h1 hT.out hX.out (by simp))
  refine hcall.out.mono ?_
  rintro e wn ⟨rfl, hx, k⟩
  replace hX := hid hx
  clear hx hcall
  clear a0 a1 a2 a3 a4 a5 a6 a7 a8 a9 a10 p0 p1 p2 p3 p4 p5 p6 p7
  replace nA := hid (k.cells nA.out hAb.out (by decide))
  replace nP := hid (k.cells nP.out hPb.out (by decide))
  replace hT := hid (hT.out.more k.1)
  replace hB := hid (hB.out.trans (k.1.mono hwb.out))
  clear k
  have a0 := cell_of20 nA.out (j := 0) rfl
  have a1 := cell_of20 nA.out (j := 1) rfl
  have a2 := cell_of20 nA.out (j := 2) rfl
  have a3 := cell_of20 nA.out (j := 3) rfl
  have a4 := cell_of20 nA.out (j := 4) rfl
  have a5 := cell_of20 nA.out (j := 5) rfl
  have a6 := cell_of20 nA.out (j := 6) rfl
  have a7 := cell_of20 nA.out (j := 7) rfl
  have a8 := cell_of20 nA.out (j := 8) rfl
  have a9 := cell_of20 nA.out (j := 9) rfl
  have a10 := cell_of20 nA.out (j := 10) rfl
  have p0 := cell_of20 nP.out (j := 0) rfl
  have p1 := cell_of20 nP.out (j := 1) rfl
  have p2 := cell_of20 nP.out (j := 2) rfl
  have p3 := cell_of20 nP.out (j := 3) rfl
  have p4 := cell_of20 nP.out (j := 4) rfl
  have p5 := cell_of20 nP.out (j := 5) rfl
  have p6 := cell_of20 nP.out (j := 6) rfl
  have p7 := cell_of20 nP.out (j := 7) rfl
  go_wp2_with fail
  refine wp_loop_rounds 1 ?_
  rw [rounds_succ]
  go_wp2_with fail
  have hcall := hid (data0_ok (b := b) (l := pw [] (Lib.itoa n)) ba bc hX.out)
  refine hcall.out.mono ?_
  rintro e wn ⟨rfl, hx, k⟩
  replace hX := hid hx
  clear hx hcall
  clear a0 a1 a2 a3 a4 a5 a6 a7 a8 a9 a10 p0 p1 p2 p3 p4 p5 p6 p7
  replace nA := hid (k.cells nA.out hAb.out (by decide))
  replace nP := hid (k.cells nP.out hPb.out (by decide))
  replace hT := hid (hT.out.more k.1)
  replace hB := hid (hB.out.trans (k.1.mono hwb.out))
  clear k
  have a0 := cell_of20 nA.out (j := 0) rfl
  have a1 := cell_of20 nA.out (j := 1) rfl
  have a2 := cell_of20 nA.out (j := 2) rfl
  have a3 := cell_of20 nA.out (j := 3) rfl
  have a4 := cell_of20 nA.out (j := 4) rfl
  have a5 := cell_of20 nA.out (j := 5) rfl
  have a6 := cell_of20 nA.out (j := 6) rfl
  have a7 := cell_of20 nA.out (j := 7) rfl
  have a8 := cell_of20 nA.out (j := 8) rfl
  have a9 := cell_of20 nA.out (j := 9) rfl
  have a10 := cell_of20 nA.out (j := 10) rfl
  have p0 := cell_of20 nP.out (j := 0) rfl
  have p1 := cell_of20 nP.out (j := 1) rfl
  have p2 := cell_of20 nP.out (j := 2) rfl
  have p3 := cell_of20 nP.out (j := 3) rfl
  have p4 := cell_of20 nP.out (j := 4) rfl
  have p5 := cell_of20 nP.out (j := 5) rfl
  have p6 := cell_of20 nP.out (j := 6) rfl
  have p7 := cell_of20 nP.out (j := 7) rfl
  go_wp2_with fail
  refine (bl_ok (b := b) (l := pw [] (Lib.itoa n)) hX.out).mono ?_
  rintro e wn ⟨rfl, rfl⟩
  have hne : (pw [] (Lib.itoa n)) ≠ [] := by simp [pw, itoa_ne]
  have hz : ¬ ((pw [] (Lib.itoa n)).length : Int) = 0 := by
    have := List.length_pos_iff.2 hne
    omega
  have hst := hid (bstr_ok b (pw [] (Lib.itoa n)) _ hX.out hne)
  clear hne
  have hend : Hid (pw [] (Lib.itoa n) = Lib.itoa n) := by show _ = _; simp [pw]
  obtain ⟨L, hL⟩ : ∃ L, (pw [] (Lib.itoa n)).length = L := ⟨_, rfl⟩
  rw [hL] at hz
  try rw [hL]
  clear hL
  go_wp2_with fail
  refine hst.out.mono ?_
  rintro e wn ⟨rfl, bz⟩
  have hbz := hid (hB.out.trans (bz.mono hwb.out))
  clear bz hst
  go_wp2_with fail
  go_ret2
  try rw [hend.out]
  exact ⟨rfl, hbz.out⟩

set_option maxRecDepth 100000 in
set_option maxHeartbeats 16000000 in
theorem text_s (k : Int) (ha : Option Addr) (hc : Nat) (da : Option Addr) (dc : Nat) (ba : Option Addr) (bc : Nat) (n : Int) (h0 : -9223372036854775808 ≤ n) (h1 : n ≤ 9223372036854775807) (w : World) (ht : Tab w.heap.size w)
    (hck : ∀ w', Below w.heap.size w w' → Calls Tryd.prog 19 #[.int .i64 k, .agg #[.int .i64 0, .slice ha 0 hc, .bool false, .int .i64 0, .slice da 0 dc, .int .i64 0, .int .i64 0, .int .i64 0, .int .i64 0, .int .i64 n, .slice ba 0 bc]] w' fun e w'' => e = .returned (.tuple #[.agg #[.int .i64 0, .bool false, .bool false, .bool false, .bool false, .bool false, .bool true, .bool false], .nilIface]) ∧ Below w'.heap.size w' w'') :
    Calls Tryd.prog 11 #[.int .i64 k, .agg #[.int .i64 0, .slice ha 0 hc, .bool false, .int .i64 0, .slice da 0 dc, .int .i64 0, .int .i64 0, .int .i64 0, .int .i64 0, .int .i64 n, .slice ba 0 bc]] w fun e w' => e = .returned (.tuple #[.string ⟨(Lib.itoa n).toArray⟩, .nilIface]) ∧ Below w.heap.size w w' := by
  have b1 := balloc20 w (.cells #[.int .i64 0, .slice ha 0 hc, .bool false, .int .i64 0, .slice da 0 dc, .int .i64 0, .int .i64 0, .int .i64 0, .int .i64 0, .int .i64 n, .slice ba 0 bc] 34)
  have nA := new_of20 w #[.int .i64 0, .slice ha 0 hc, .bool false, .int .i64 0, .slice da 0 dc, .int .i64 0, .int .i64 0, .int .i64 0, .int .i64 0, .int .i64 n, .slice ba 0 bc] 34
  obtain ⟨w1, hw1⟩ : ∃ w1, w.alloc (.cells #[.int .i64 0, .slice ha 0 hc, .bool false, .int .i64 0, .slice da 0 dc, .int .i64 0, .int .i64 0, .int .i64 0, .int .i64 0, .int .i64 n, .slice ba 0 bc] 34) = w1 := ⟨_, rfl⟩
  rw [hw1] at b1 nA
  have hc1 := hid (hck w1 b1)
  have hT := hid (ht.more b1)
  replace nA := hid nA
  have hB := hid b1
  have hlA : Hid (w.heap.size < w1.heap.size) := (Array.getElem?_eq_some_iff.1 nA.out).1
  clear b1 hck ht
  have a0 := cell_of20 nA.out (j := 0) rfl
  have a1 := cell_of20 nA.out (j := 1) rfl
  have a2 := cell_of20 nA.out (j := 2) rfl
  have a3 := cell_of20 nA.out (j := 3) rfl
  have a4 := cell_of20 nA.out (j := 4) rfl
  have a5 := cell_of20 nA.out (j := 5) rfl
  have a6 := cell_of20 nA.out (j := 6) rfl
  have a7 := cell_of20 nA.out (j := 7) rfl
  have a8 := cell_of20 nA.out (j := 8) rfl
  have a9 := cell_of20 nA.out (j := 9) rfl
  have a10 := cell_of20 nA.out (j := 10) rfl
  go_enter Tryd.func11, Tryd.ntmps11
  go_wp2_with fail
  try rw [hw1]
  clear hw1
  refine hc1.out.mono ?_
  rintro e w2 ⟨rfl, b2⟩
  clear a0 a1 a2 a3 a4 a5 a6 a7 a8 a9 a10
  replace nA := hid (kept20 nA.out b2)
  replace hT := hid (hT.out.more (b2.mono hB.out.size))
  replace hB := hid (hB.out.trans (b2.mono hB.out.size))
  have hlA2 : Hid (w.heap.size < w2.heap.size) := Nat.lt_of_lt_of_le hlA.out b2.size
  clear b2 hc1 hlA
  go_upto_region 4 with fail
  obtain ⟨w3, hw3⟩ : ∃ w3, w2.alloc (.cells #[.int .i64 0, .bool false, .bool false, .bool false, .bool false, .bool false, .bool true, .bool false] 67) = w3 := ⟨_, rfl⟩
  have nP := new_of20 w2 #[.int .i64 0, .bool false, .bool false, .bool false, .bool false, .bool false, .bool true, .bool false] 67
  have b3 := balloc20 w2 (.cells #[.int .i64 0, .bool false, .bool false, .bool false, .bool false, .bool false, .bool true, .bool false] 67)
  rw [hw3] at nP b3
  try rw [hw3]
  obtain ⟨Pb, hPq⟩ : ∃ Pb, w2.heap.size = Pb := ⟨_, rfl⟩
  replace nA := hid (kept20 nA.out b3)
  replace hT := hid (hT.out.more (b3.mono hB.out.size))
  replace hB := hid (hB.out.trans (b3.mono hB.out.size))
  rw [hPq] at nP hlA2
  try rw [hPq]
  have hlP : Hid (Pb < w3.heap.size) := (Array.getElem?_eq_some_iff.1 nP).1
  replace nP := hid nP
  clear hw3 hPq b3
  have a0 := cell_of20 nA.out (j := 0) rfl
  have a1 := cell_of20 nA.out (j := 1) rfl
  have a2 := cell_of20 nA.out (j := 2) rfl
  have a3 := cell_of20 nA.out (j := 3) rfl
  have a4 := cell_of20 nA.out (j := 4) rfl
  have a5 := cell_of20 nA.out (j := 5) rfl
  have a6 := cell_of20 nA.out (j := 6) rfl
  have a7 := cell_of20 nA.out (j := 7) rfl
  have a8 := cell_of20 nA.out (j := 8) rfl
  have a9 := cell_of20 nA.out (j := 9) rfl
  have a10 := cell_of20 nA.out (j := 10) rfl
  have p0 := cell_of20 nP.out (j := 0) rfl
  have p1 := cell_of20 nP.out (j := 1) rfl
  have p2 := cell_of20 nP.out (j := 2) rfl
  have p3 := cell_of20 nP.out (j := 3) rfl
  have p4 := cell_of20 nP.out (j := 4) rfl
  have p5 := cell_of20 nP.out (j := 5) rfl
  have p6 := cell_of20 nP.out (j := 6) rfl
  have p7 := cell_of20 nP.out (j := 7) rfl
  go_upto_region 7 with fail
  obtain ⟨b, hb⟩ : ∃ b, w3.heap.size = b := ⟨_, rfl⟩
  obtain ⟨w4, hw4⟩ : ∃ w4, w3.alloc (.cells #[.pointer none, .slice none 0 0] 81) = w4 := ⟨_, rfl⟩
  have hX0 := Lib.fresh_isBuilder 81 5 w3
  have nB := new_of20 w3 #[.pointer none, .slice none 0 0] 81
  have b4 := balloc20 w3 (.cells #[.pointer none, .slice none 0 0] 81)
  rw [hb, hw4] at hX0 nB
  rw [hw4] at b4
  try rw [hw4]
  have hX : Hid (Tx b [] w4) := hX0
  have hwb : Hid (w.heap.size ≤ b) := by show _ ≤ _; rw [← hb]; exact hB.out.size
  have hAb : Hid (w.heap.size ≠ b) := by show _ ≠ _; have h1 := hlA2.out; have h2 := hlP.out; omega
  have hPb : Hid (Pb ≠ b) := by show _ ≠ _; have h2 := hlP.out; omega
  clear a0 a1 a2 a3 a4 a5 a6 a7 a8 a9 a10 p0 p1 p2 p3 p4 p5 p6 p7
  replace nA := hid (kept20 nA.out b4)
  replace nP := hid (kept20 nP.out b4)
  replace hT : Hid (Tab b w4) := (hT.out.more (b4.mono hB.out.size)).up hwb.out
  replace hB := hid (hB.out.trans (b4.mono hB.out.size))
  replace nB := hid nB
  try rw [hb]
  clear hX0 b4 hw4 hb hlP hlA2
  have a0 := cell_of20 nA.out (j := 0) rfl
  have a1 := cell_of20 nA.out (j := 1) rfl
  have a2 := cell_of20 nA.out (j := 2) rfl
  have a3 := cell_of20 nA.out (j := 3) rfl
  have a4 := cell_of20 nA.out (j := 4) rfl
  have a5 := cell_of20 nA.out (j := 5) rfl
  have a6 := cell_of20 nA.out (j := 6) rfl
  have a7 := cell_of20 nA.out (j := 7) rfl
  have a8 := cell_of20 nA.out (j := 8) rfl
  have a9 := cell_of20 nA.out (j := 9) rfl
  have a10 := cell_of20 nA.out (j := 10) rfl
  have p0 := cell_of20 nP.out (j := 0) rfl
  have p1 := cell_of20 nP.out (j := 1) rfl
  have p2 := cell_of20 nP.out (j := 2) rfl
  have p3 := cell_of20 nP.out (j := 3) rfl
  have p4 := cell_of20 nP.out (j := 4) rfl
  have p5 := cell_of20 nP.out (j := 5) rfl
  have p6 := cell_of20 nP.out (j := 6) rfl
  have p7 := cell_of20 nP.out (j := 7) rfl
  go_wp2_with fail
  refine wp_loop_rounds 1 ?_
  rw [rounds_succ]
  go_wp2_with fail
  refine wp_loop_rounds 1 ?_
  rw [rounds_succ]
  go_wp2_with fail
  refine (fmtint_ok n h0 h1 hT.out).mono ?_
  rintro e wn ⟨rfl, bn⟩
  have k := Ok2.ofBelow bn (Nat.le_of_lt hX.out.lt)
  replace hX := hid (hX.out.more bn)
  clear bn
  clear a0 a1 a2 a3 a4 a5 a6 a7 a8 a9 a10 p0 p1 p2 p3 p4 p5 p6 p7
  replace nA := hid (k.cells nA.out hAb.out (by decide))
  replace nP := hid (k.cells nP.out hPb.out (by decide))
  replace hT := hid (hT.out.more k.1)
  replace hB := hid (hB.out.trans (k.1.mono hwb.out))
  clear k
  have a0 := cell_of20 nA.out (j := 0) rfl
  have a1 := cell_of20 nA.out (j := 1) rfl
  have a2 := cell_of20 nA.out (j := 2) rfl
  have a3 := cell_of20 nA.out (j := 3) rfl
  have a4 := cell_of20 nA.out (j := 4) rfl
  have a5 := cell_of20 nA.out (j := 5) rfl
  have a6 := cell_of20 nA.out (j := 6) rfl
  have a7 := cell_of20 nA.out (j := 7) rfl
  have a8 := cell_of20 nA.out (j := 8) rfl
  have a9 := cell_of20 nA.out (j := 9) rfl
  have a10 := cell_of20 nA.out (j := 10) rfl
  have p0 := cell_of20 nP.out (j := 0) rfl
  have p1 := cell_of20 nP.out (j := 1) rfl
  have p2 := cell_of20 nP.out (j := 2) rfl
  have p3 := cell_of20 nP.out (j := 3) rfl
  have p4 := cell_of20 nP.out (j := 4) rfl
  have p5 := cell_of20 nP.out (j := 5) rfl
  have p6 := cell_of20 nP.out (j := 6) rfl
  have p7 := cell_of20 nP.out (j := 7) rfl
  go_wp2_with fail
  have hcall := hid (word_ok (b := b) (l := []) (Lib.itoa n) hX.out (by have := Lib.itoa_length_le n h0 h1; simp; omega))
  refine hcall.out.mono ?_
  rintro e wn ⟨rfl, hx, k⟩
  replace hX := hid hx
  clear hx hcall
  clear a0 a1 a2 a3 a4 a5 a6 a7 a8 a9 a10 p0 p1 p2 p3 p4 p5 p6 p7
  replace nA := hid (k.cells nA.out hAb.out (by decide))
  replace nP := hid (k.cells nP.out hPb.out (by decide))
  replace hT := hid (hT.out.more k.1)
  replace hB := hid (hB.out.trans (k.1.mono hwb.out))
  clear k
  have a0 := cell_of20 nA.out (j := 0) rfl
  have a1 := cell_of20 nA.out (j := 1) rfl
  have a2 := cell_of20 nA.out (j := 2) rfl
  have a3 := cell_of20 nA.out (j := 3) rfl
  have a4 := cell_of20 nA.out (j := 4) rfl
  have a5 := cell_of20 nA.out (j := 5) rfl
  have a6 := cell_of20 nA.out (j := 6) rfl
  have a7 := cell_of20 nA.out (j := 7) rfl
  have a8 := cell_of20 nA.out (j := 8) rfl
  have a9 := cell_of20 nA.out (j := 9) rfl
  have a10 := cell_of20 nA.out (j := 10) rfl
  have p0 := cell_of20 nP.out (j := 0) rfl
  have p1 := cell_of20 nP.out (j := 1) rfl
  have p2 := cell_of20 nP.out (j := 2) rfl
  have p3 := cell_of20 nP.out (j := 3) rfl
  have p4 := cell_of20 nP.out (j := 4) rfl
  have p5 := cell_of20 nP.out (j := 5) rfl
  have p6 := cell_of20 nP.out (j := 6) rfl
  have p7 := cell_of20 nP.out (j := 7) rfl
  go_wp2_with fail
  have hcall := hid (data0_ok (b := b) (l := pw [] (Lib.itoa n)) ba bc hX.out)
  refine hcall.out.mono ?_
  rintro e wn ⟨rfl, hx, k⟩
  replace hX := hid hx
  clear hx hcall
  clear a0 a1 a2 a3 a4 a5 a6 a7 a8 a9 a10 p0 p1 p2 p3 p4 p5 p6 p7
  replace nA := hid (k.cells nA.out hAb.out (by decide))
  replace nP := hid (k.cells nP.out hPb.out (by decide))
  replace hT := hid (hT.out.more k.1)
  replace hB := hid (hB.out.trans (k.1.mono hwb.out))
  clear k
  have a0 := cell_of20 nA.out (j := 0) rfl
  have a1 := cell_of20 nA.out (j := 1) rfl
  have a2 := cell_of20 nA.out (j := 2) rfl
  have a3 := cell_of20 nA.out (j := 3) rfl
  have a4 := cell_of20 nA.out (j := 4) rfl
  have a5 := cell_of20 nA.out (j := 5) rfl
  have a6 := cell_of20 nA.out (j := 6) rfl
  have a7 := cell_of20 nA.out (j := 7) rfl
  have a8 := cell_of20 nA.out (j := 8) rfl
  have a9 := cell_of20 nA.out (j := 9) rfl
  have a10 := cell_of20 nA.out (j := 10) rfl
  have p0 := cell_of20 nP.out (j := 0) rfl
  have p1 := cell_of20 nP.out (j := 1) rfl
  have p2 := cell_of20 nP.out (j := 2) rfl
  have p3 := cell_of20 nP.out (j := 3) rfl
  have p4 := cell_of20 nP.out (j := 4) rfl
  have p5 := cell_of20 nP.out (j := 5) rfl
  have p6 := cell_of20 nP.out (j := 6) rfl
  have p7 := cell_of20 nP.out (j := 7) rfl
  go_wp2_with fail
  refine (bl_ok (b := b) (l := pw [] (Lib.itoa n)) hX.out).mono ?_
  rintro e wn ⟨rfl, rfl⟩
  have hne : (pw [] (Lib.itoa n)) ≠ [] := by simp [pw, itoa_ne]
  have hz : ¬ ((pw [] (Lib.itoa n)).length : Int) = 0 := by
    have := List.length_pos_iff.2 hne
    omega
  have hst := hid (bstr_ok b (pw [] (Lib.itoa n)) _ hX.out hne)
  clear hne
  have hend : Hid (pw [] (Lib.itoa n) = Lib.itoa n) := by show _ = _; simp [pw]
  obtain ⟨L, hL⟩ : ∃ L, (pw [] (Lib.itoa n)).length = L := ⟨_, rfl⟩
  rw [hL] at hz
  try rw [hL]
  clear hL
  go_wp2_with fail
  refine hst.out.mono ?_
  rintro e wn ⟨rfl, bz⟩
  have hbz := hid (hB.out.trans (bz.mono hwb.out))
  clear bz hst
  go_wp2_with fail
  go_ret2
  try rw [hend.out]
  exact ⟨rfl, hbz.out⟩

set_option maxRecDepth 100000 in
set_option maxHeartbeats 16000000 in
theorem text_z (k : Int) (ha : Option Addr) (hc : Nat) (da : Option Addr) (dc : Nat) (ba : Option Addr) (bc : Nat) (w : World) (ht : Tab w.heap.size w)
    (hck : ∀ w', Below w.heap.size w w' → Calls Tryd.prog 19 #[.int .i64 k, .agg #[.int .i64 0, .slice ha 0 hc, .bool false, .int .i64 0, .slice da 0 dc, .int .i64 0, .int .i64 0, .int .i64 0, .int .i64 0, .int .i64 0, .slice ba 0 bc]] w' fun e w'' => e = .returned (.tuple #[.agg #[.int .i64 0, .bool false, .bool false, .bool false, .bool false, .bool false, .bool false, .bool false], .nilIface]) ∧ Below w'.heap.size w' w'') :
    Calls Tryd.prog 11 #[.int .i64 k, .agg #[.int .i64 0, .slice ha 0 hc, .bool false, .int .i64 0, .slice da 0 dc, .int .i64 0, .int .i64 0, .int .i64 0, .int .i64 0, .int .i64 0, .slice ba 0 bc]] w fun e w' => e = .returned (.tuple #[.string ⟨(wok).toArray⟩, .nilIface]) ∧ Below w.heap.size w w' := by
  have b1 := balloc20 w (.cells #[.int .i64 0, .slice ha 0 hc, .bool false, .int .i64 0, .slice da 0 dc, .int .i64 0, .int .i64 0, .int .i64 0, .int .i64 0, .int .i64 0, .slice ba 0 bc] 34)
  have nA := new_of20 w #[.int .i64 0, .slice ha 0 hc, .bool false, .int .i64 0, .slice da 0 dc, .int .i64 0, .int .i64 0, .int .i64 0, .int .i64 0, .int .i64 0, .slice ba 0 bc] 34
  obtain ⟨w1, hw1⟩ : ∃ w1, w.alloc (.cells #[.int .i64 0, .slice ha 0 hc, .bool false, .int .i64 0, .slice da 0 dc, .int .i64 0, .int .i64 0, .int .i64 0, .int .i64 0, .int .i64 0, .slice ba 0 bc] 34) = w1 := ⟨_, rfl⟩
  rw [hw1] at b1 nA
  have hc1 := hid (hck w1 b1)
  have hT := hid (ht.more b1)
  replace nA := hid nA
  have hB := hid b1
  have hlA : Hid (w.heap.size < w1.heap.size) := (Array.getElem?_eq_some_iff.1 nA.out).1
  clear b1 hck ht
  have a0 := cell_of20 nA.out (j := 0) rfl
  have a1 := cell_of20 nA.out (j := 1) rfl
  have a2 := cell_of20 nA.out (j := 2) rfl
  have a3 := cell_of20 nA.out (j := 3) rfl
  have a4 := cell_of20 nA.out (j := 4) rfl
  have a5 := cell_of20 nA.out (j := 5) rfl
  have a6 := cell_of20 nA.out (j := 6) rfl
  have a7 := cell_of20 nA.out (j := 7) rfl
  have a8 := cell_of20 nA.out (j := 8) rfl
  have a9 := cell_of20 nA.out (j := 9) rfl
  have a10 := cell_of20 nA.out (j := 10) rfl
  go_enter Tryd.func11, Tryd.ntmps11
  go_wp2_with fail
  try rw [hw1]
  clear hw1
  refine hc1.out.mono ?_
  rintro e w2 ⟨rfl, b2⟩
  clear a0 a1 a2 a3 a4 a5 a6 a7 a8 a9 a10
  replace nA := hid (kept20 nA.out b2)
  replace hT := hid (hT.out.more (b2.mono hB.out.size))
  replace hB := hid (hB.out.trans (b2.mono hB.out.size))
  have hlA2 : Hid (w.heap.size < w2.heap.size) := Nat.lt_of_lt_of_le hlA.out b2.size
  clear b2 hc1 hlA
  go_upto_region 4 with fail
  obtain ⟨w3, hw3⟩ : ∃ w3, w2.alloc (.cells #[.int .i64 0, .bool false, .bool false, .bool false, .bool false, .bool false, .bool false, .bool false] 67) = w3 := ⟨_, rfl⟩
  have nP := new_of20 w2 #[.int .i64 0, .bool false, .bool false, .bool false, .bool false, .bool false, .bool false, .bool false] 67
  have b3 := balloc20 w2 (.cells #[.int .i64 0, .bool false, .bool false, .bool false, .bool false, .bool false, .bool false, .bool false] 67)
  rw [hw3] at nP b3
  try rw [hw3]
  obtain ⟨Pb, hPq⟩ : ∃ Pb, w2.heap.size = Pb := ⟨_, rfl⟩
  replace nA := hid (kept20 nA.out b3)
  replace hT := hid (hT.out.more (b3.mono hB.out.size))
  replace hB := hid (hB.out.trans (b3.mono hB.out.size))
  rw [hPq] at nP hlA2
  try rw [hPq]
  have hlP : Hid (Pb < w3.heap.size) := (Array.getElem?_eq_some_iff.1 nP).1
  replace nP := hid nP
  clear hw3 hPq b3
  have a0 := cell_of20 nA.out (j := 0) rfl
  have a1 := cell_of20 nA.out (j := 1) rfl
  have a2 := cell_of20 nA.out (j := 2) rfl
  have a3 := cell_of20 nA.out (j := 3) rfl
  have a4 := cell_of20 nA.out (j := 4) rfl
  have a5 := cell_of20 nA.out (j := 5) rfl
  have a6 := cell_of20 nA.out (j := 6) rfl
  have a7 := cell_of20 nA.out (j := 7) rfl
  have a8 := cell_of20 nA.out (j := 8) rfl
  have a9 := cell_of20 nA.out (j := 9) rfl
  have a10 := cell_of20 nA.out (j := 10) rfl
  have p0 := cell_of20 nP.out (j := 0) rfl
  have p1 := cell_of20 nP.out (j := 1) rfl
  have p2 := cell_of20 nP.out (j := 2) rfl
  have p3 := cell_of20 nP.out (j := 3) rfl
  have p4 := cell_of20 nP.out (j := 4) rfl
  have p5 := cell_of20 nP.out (j := 5) rfl
  have p6 := cell_of20 nP.out (j := 6) rfl
  have p7 := cell_of20 nP.out (j := 7) rfl
  go_upto_region 7 with fail
  obtain ⟨b, hb⟩ : ∃ b, w3.heap.size = b := ⟨_, rfl⟩
  obtain ⟨w4, hw4⟩ : ∃ w4, w3.alloc (.cells #[.pointer none, .slice none 0 0] 81) = w4 := ⟨_, rfl⟩
  have hX0 := Lib.fresh_isBuilder 81 5 w3
  have nB := new_of20 w3 #[.pointer none, .slice none 0 0] 81
  have b4 := balloc20 w3 (.cells #[.pointer none, .slice none 0 0] 81)
  rw [hb, hw4] at hX0 nB
  rw [hw4] at b4
  try rw [hw4]
  have hX : Hid (Tx b [] w4) := hX0
  have hwb : Hid (w.heap.size ≤ b) := by show _ ≤ _; rw [← hb]; exact hB.out.size
  have hAb : Hid (w.heap.size ≠ b) := by show _ ≠ _; have h1 := hlA2.out; have h2 := hlP.out; omega
  have hPb : Hid (Pb ≠ b) := by show _ ≠ _; have h2 := hlP.out; omega
  clear a0 a1 a2 a3 a4 a5 a6 a7 a8 a9 a10 p0 p1 p2 p3 p4 p5 p6 p7
  replace nA := hid (kept20 nA.out b4)
  replace nP := hid (kept20 nP.out b4)
  replace hT : Hid (Tab b w4) := (hT.out.more (b4.mono hB.out.size)).up hwb.out
  replace hB := hid (hB.out.trans (b4.mono hB.out.size))
  replace nB := hid nB
  try rw [hb]
  clear hX0 b4 hw4 hb hlP hlA2
  have a0 := cell_of20 nA.out (j := 0) rfl
  have a1 := cell_of20 nA.out (j := 1) rfl
  have a2 := cell_of20 nA.out (j := 2) rfl
  have a3 := cell_of20 nA.out (j := 3) rfl
  have a4 := cell_of20 nA.out (j := 4) rfl
  have a5 := cell_of20 nA.out (j := 5) rfl
  have a6 := cell_of20 nA.out (j := 6) rfl
  have a7 := cell_of20 nA.out (j := 7) rfl
  have a8 := cell_of20 nA.out (j := 8) rfl
  have a9 := cell_of20 nA.out (j := 9) rfl
  have a10 := cell_of20 nA.out (j := 10) rfl
  have p0 := cell_of20 nP.out (j := 0) rfl
  have p1 := cell_of20 nP.out (j := 1) rfl
  have p2 := cell_of20 nP.out (j := 2) rfl
  have p3 := cell_of20 nP.out (j := 3) rfl
  have p4 := cell_of20 nP.out (j := 4) rfl
  have p5 := cell_of20 nP.out (j := 5) rfl
  have p6 := cell_of20 nP.out (j := 6) rfl
  have p7 := cell_of20 nP.out (j := 7) rfl
  go_wp2_with fail
  refine wp_loop_rounds 1 ?_
  rw [rounds_succ]
  go_wp2_with fail
  refine wp_loop_rounds 1 ?_
  rw [rounds_succ]
  go_wp2_with fail
  have hcall := hid (data0_ok (b := b) (l := []) ba bc hX.out)
  refine hcall.out.mono ?_
  rintro e wn ⟨rfl, hx, k⟩
  replace hX := hid hx
  clear hx hcall
  clear a0 a1 a2 a3 a4 a5 a6 a7 a8 a9 a10 p0 p1 p2 p3 p4 p5 p6 p7
  replace nA := hid (k.cells nA.out hAb.out (by decide))
  replace nP := hid (k.cells nP.out hPb.out (by decide))
  replace hT := hid (hT.out.more k.1)
  replace hB := hid (hB.out.trans (k.1.mono hwb.out))
  clear k
  have a0 := cell_of20 nA.out (j := 0) rfl
  have a1 := cell_of20 nA.out (j := 1) rfl
  have a2 := cell_of20 nA.out (j := 2) rfl
  have a3 := cell_of20 nA.out (j := 3) rfl
  have a4 := cell_of20 nA.out (j := 4) rfl
  have a5 := cell_of20 nA.out (j := 5) rfl
  have a6 := cell_of20 nA.out (j := 6) rfl
  have a7 := cell_of20 nA.out (j := 7) rfl
  have a8 := cell_of20 nA.out (j := 8) rfl
  have a9 := cell_of20 nA.out (j := 9) rfl
  have a10 := cell_of20 nA.out (j := 10) rfl
  have p0 := cell_of20 nP.out (j := 0) rfl
  have p1 := cell_of20 nP.out (j := 1) rfl
  have p2 := cell_of20 nP.out (j := 2) rfl
  have p3 := cell_of20 nP.out (j := 3) rfl
  have p4 := cell_of20 nP.out (j := 4) rfl
  have p5 := cell_of20 nP.out (j := 5) rfl
  have p6 := cell_of20 nP.out (j := 6) rfl
  have p7 := cell_of20 nP.out (j := 7) rfl
  go_wp2_with fail
  refine (bl_ok (b := b) (l := []) hX.out).mono ?_
  rintro e wn ⟨rfl, rfl⟩
  go_wp2_with fail
  refine (nothing_ok 2 _).mono ?_
  rintro e wn ⟨rfl, bn⟩
  have k := Ok2.ofBelow bn (Nat.le_of_lt hX.out.lt)
  replace hX := hid (hX.out.more bn)
  clear bn
  clear a0 a1 a2 a3 a4 a5 a6 a7 a8 a9 a10 p0 p1 p2 p3 p4 p5 p6 p7
  replace nA := hid (k.cells nA.out hAb.out (by decide))
  replace nP := hid (k.cells nP.out hPb.out (by decide))
  replace hT := hid (hT.out.more k.1)
  replace hB := hid (hB.out.trans (k.1.mono hwb.out))
  clear k
  have a0 := cell_of20 nA.out (j := 0) rfl
  have a1 := cell_of20 nA.out (j := 1) rfl
  have a2 := cell_of20 nA.out (j := 2) rfl
  have a3 := cell_of20 nA.out (j := 3) rfl
  have a4 := cell_of20 nA.out (j := 4) rfl
  have a5 := cell_of20 nA.out (j := 5) rfl
  have a6 := cell_of20 nA.out (j := 6) rfl
  have a7 := cell_of20 nA.out (j := 7) rfl
  have a8 := cell_of20 nA.out (j := 8) rfl
  have a9 := cell_of20 nA.out (j := 9) rfl
  have a10 := cell_of20 nA.out (j := 10) rfl
  have p0 := cell_of20 nP.out (j := 0) rfl
  have p1 := cell_of20 nP.out (j := 1) rfl
  have p2 := cell_of20 nP.out (j := 2) rfl
  have p3 := cell_of20 nP.out (j := 3) rfl
  have p4 := cell_of20 nP.out (j := 4) rfl
  have p5 := cell_of20 nP.out (j := 5) rfl
  have p6 := cell_of20 nP.out (j := 6) rfl
  have p7 := cell_of20 nP.out (j := 7) rfl
  go_wp2_with fail
  have hcall := hid (word_ok (b := b) (l := []) (wok) hX.out (by simp [wok]))
  refine hcall.out.mono ?_
  rintro e wn ⟨rfl, hx, k⟩
  replace hX := hid hx
  clear hx hcall
  clear a0 a1 a2 a3 a4 a5 a6 a7 a8 a9 a10 p0 p1 p2 p3 p4 p5 p6 p7
  replace nA := hid (k.cells nA.out hAb.out (by decide))
  replace nP := hid (k.cells nP.out hPb.out (by decide))
  replace hT := hid (hT.out.more k.1)
  replace hB := hid (hB.out.trans (k.1.mono hwb.out))
  clear k
  have a0 := cell_of20 nA.out (j := 0) rfl
  have a1 := cell_of20 nA.out (j := 1) rfl
  have a2 := cell_of20 nA.out (j := 2) rfl
  have a3 := cell_of20 nA.out (j := 3) rfl
  have a4 := cell_of20 nA.out (j := 4) rfl
  have a5 := cell_of20 nA.out (j := 5) rfl
  have a6 := cell_of20 nA.out (j := 6) rfl
  have a7 := cell_of20 nA.out (j := 7) rfl
  have a8 := cell_of20 nA.out (j := 8) rfl
  have a9 := cell_of20 nA.out (j := 9) rfl
  have a10 := cell_of20 nA.out (j := 10) rfl
  have p0 := cell_of20 nP.out (j := 0) rfl
  have p1 := cell_of20 nP.out (j := 1) rfl
  have p2 := cell_of20 nP.out (j := 2) rfl
  have p3 := cell_of20 nP.out (j := 3) rfl
  have p4 := cell_of20 nP.out (j := 4) rfl
  have p5 := cell_of20 nP.out (j := 5) rfl
  have p6 := cell_of20 nP.out (j := 6) rfl
  have p7 := cell_of20 nP.out (j := 7) rfl
  go_wp2_with fail
  have hst := hid (bstr_ok b (pw [] (wok)) _ hX.out (by simp [pw, wok]))
  have hend : Hid (pw [] (wok) = wok) := by show _ = _; simp [pw]
  refine hst.out.mono ?_
  rintro e wn ⟨rfl, bz⟩
  have hbz := hid (hB.out.trans (bz.mono hwb.out))
  clear bz hst
  go_wp2_with fail
  go_ret2
  try rw [hend.out]
  exact ⟨rfl, hbz.out⟩

set_option maxRecDepth 100000 in
set_option maxHeartbeats 16000000 in
theorem text_f0 (k : Int) (ha : Option Addr) (hc : Nat) (da : Option Addr) (dc : Nat) (ba : Option Addr) (bc : Nat) (w : World) (ht : Tab w.heap.size w)
    (hck : ∀ w', Below w.heap.size w w' → Calls Tryd.prog 19 #[.int .i64 k, .agg #[.int .i64 0, .slice ha 0 hc, .bool false, .int .i64 0, .slice da 0 dc, .int .i64 0, .int .i64 0, .int .i64 0, .int .i64 0, .int .i64 0, .slice ba 0 bc]] w' fun e w'' => e = .returned (.tuple #[.agg #[.int .i64 0, .bool false, .bool true, .bool false, .bool false, .bool false, .bool false, .bool false], .nilIface]) ∧ Below w'.heap.size w' w'') :
    Calls Tryd.prog 11 #[.int .i64 k, .agg #[.int .i64 0, .slice ha 0 hc, .bool false, .int .i64 0, .slice da 0 dc, .int .i64 0, .int .i64 0, .int .i64 0, .int .i64 0, .int .i64 0, .slice ba 0 bc]] w fun e w' => e = .returned (.tuple #[.string ⟨(wnone).toArray⟩, .nilIface]) ∧ Below w.heap.size w w' := by
  have b1 := balloc20 w (.cells #[.int .i64 0, .slice ha 0 hc, .bool false, .int .i64 0, .slice da 0 dc, .int .i64 0, .int .i64 0, .int .i64 0, .int .i64 0, .int .i64 0, .slice ba 0 bc] 34)
  have nA := new_of20 w #[.int .i64 0, .slice ha 0 hc, .bool false, .int .i64 0, .slice da 0 dc, .int .i64 0, .int .i64 0, .int .i64 0, .int .i64 0, .int .i64 0, .slice ba 0 bc] 34
  obtain ⟨w1, hw1⟩ : ∃ w1, w.alloc (.cells #[.int .i64 0, .slice ha 0 hc, .bool false, .int .i64 0, .slice da 0 dc, .int .i64 0, .int .i64 0, .int .i64 0, .int .i64 0, .int .i64 0, .slice ba 0 bc] 34) = w1 := ⟨_, rfl⟩
  rw [hw1] at b1 nA
  have hc1 := hid (hck w1 b1)
  have hT := hid (ht.more b1)
  replace nA := hid nA
  have hB := hid b1
  have hlA : Hid (w.heap.size < w1.heap.size) := (Array.getElem?_eq_some_iff.1 nA.out).1
  clear b1 hck ht
  have a0 := cell_of20 nA.out (j := 0) rfl
  have a1 := cell_of20 nA.out (j := 1) rfl
  have a2 := cell_of20 nA.out (j := 2) rfl
  have a3 := cell_of20 nA.out (j := 3) rfl
  have a4 := cell_of20 nA.out (j := 4) rfl
  have a5 := cell_of20 nA.out (j := 5) rfl
  have a6 := cell_of20 nA.out (j := 6) rfl
  have a7 := cell_of20 nA.out (j := 7) rfl
  have a8 := cell_of20 nA.out (j := 8) rfl
  have a9 := cell_of20 nA.out (j := 9) rfl
  have a10 := cell_of20 nA.out (j := 10) rfl
  go_enter Tryd.func11, Tryd.ntmps11
  go_wp2_with fail
  try rw [hw1]
  clear hw1
  refine hc1.out.mono ?_
  rintro e w2 ⟨rfl, b2⟩
  clear a0 a1 a2 a3 a4 a5 a6 a7 a8 a9 a10
  replace nA := hid (kept20 nA.out b2)
  replace hT := hid (hT.out.more (b2.mono hB.out.size))
  replace hB := hid (hB.out.trans (b2.mono hB.out.size))
  have hlA2 : Hid (w.heap.size < w2.heap.size) := Nat.lt_of_lt_of_le hlA.out b2.size
  clear b2 hc1 hlA
  go_upto_region 4 with fail
  obtain ⟨w3, hw3⟩ : ∃ w3, w2.alloc (.cells #[.int .i64 0, .bool false, .bool true, .bool false, .bool false, .bool false, .bool false, .bool false] 67) = w3 := ⟨_, rfl⟩
  have nP := new_of20 w2 #[.int .i64 0, .bool false, .bool true, .bool false, .bool false, .bool false, .bool false, .bool false] 67
  have b3 := balloc20 w2 (.cells #[.int .i64 0, .bool false, .bool true, .bool false, .bool false, .bool false, .bool false, .bool false] 67)
  rw [hw3] at nP b3
  try rw [hw3]
  obtain ⟨Pb, hPq⟩ : ∃ Pb, w2.heap.size = Pb := ⟨_, rfl⟩
  replace nA := hid (kept20 nA.out b3)
  replace hT := hid (hT.out.more (b3.mono hB.out.size))
  replace hB := hid (hB.out.trans (b3.mono hB.out.size))
  rw [hPq] at nP hlA2
  try rw [hPq]
  have hlP : Hid (Pb < w3.heap.size) := (Array.getElem?_eq_some_iff.1 nP).1
  replace nP := hid nP
  clear hw3 hPq b3
  have a0 := cell_of20 nA.out (j := 0) rfl
  have a1 := cell_of20 nA.out (j := 1) rfl
  have a2 := cell_of20 nA.out (j := 2) rfl
  have a3 := cell_of20 nA.out (j := 3) rfl
  have a4 := cell_of20 nA.out (j := 4) rfl
  have a5 := cell_of20 nA.out (j := 5) rfl
  have a6 := cell_of20 nA.out (j := 6) rfl
  have a7 := cell_of20 nA.out (j := 7) rfl
  have a8 := cell_of20 nA.out (j := 8) rfl
  have a9 := cell_of20 nA.out (j := 9) rfl
  have a10 := cell_of20 nA.out (j := 10) rfl
  have p0 := cell_of20 nP.out (j := 0) rfl
  have p1 := cell_of20 nP.out (j := 1) rfl
  have p2 := cell_of20 nP.out (j := 2) rfl
  have p3 := cell_of20 nP.out (j := 3) rfl
  have p4 := cell_of20 nP.out (j := 4) rfl
  have p5 := cell_of20 nP.out (j := 5) rfl
  have p6 := cell_of20 nP.out (j := 6) rfl
  have p7 := cell_of20 nP.out (j := 7) rfl
  go_upto_region 7 with fail
  obtain ⟨b, hb⟩ : ∃ b, w3.heap.size = b := ⟨_, rfl⟩
  obtain ⟨w4, hw4⟩ : ∃ w4, w3.alloc (.cells #[.pointer none, .slice none 0 0] 81) = w4 := ⟨_, rfl⟩
  have hX0 := Lib.fresh_isBuilder 81 5 w3
  have nB := new_of20 w3 #[.pointer none, .slice none 0 0] 81
  have b4 := balloc20 w3 (.cells #[.pointer none, .slice none 0 0] 81)
  rw [hb, hw4] at hX0 nB
  rw [hw4] at b4
  try rw [hw4]
  have hX : Hid (Tx b [] w4) := hX0
  have hwb : Hid (w.heap.size ≤ b) := by show _ ≤ _; rw [← hb]; exact hB.out.size
  have hAb : Hid (w.heap.size ≠ b) := by show _ ≠ _; have h1 := hlA2.out; have h2 := hlP.out; omega
  have hPb : Hid (Pb ≠ b) := by show _ ≠ _; have h2 := hlP.out; omega
  clear a0 a1 a2 a3 a4 a5 a6 a7 a8 a9 a10 p0 p1 p2 p3 p4 p5 p6 p7
  replace nA := hid (kept20 nA.out b4)
  replace nP := hid (kept20 nP.out b4)
  replace hT : Hid (Tab b w4) := (hT.out.more (b4.mono hB.out.size)).up hwb.out
  replace hB := hid (hB.out.trans (b4.mono hB.out.size))
  replace nB := hid nB
  try rw [hb]
  clear hX0 b4 hw4 hb hlP hlA2
  have a0 := cell_of20 nA.out (j := 0) rfl
  have a1 := cell_of20 nA.out (j := 1) rfl
  have a2 := cell_of20 nA.out (j := 2) rfl
  have a3 := cell_of20 nA.out (j := 3) rfl
  have a4 := cell_of20 nA.out (j := 4) rfl
  have a5 := cell_of20 nA.out (j := 5) rfl
  have a6 := cell_of20 nA.out (j := 6) rfl
  have a7 := cell_of20 nA.out (j := 7) rfl
  have a8 := cell_of20 nA.out (j := 8) rfl
  have a9 := cell_of20 nA.out (j := 9) rfl
  have a10 := cell_of20 nA.out (j := 10) rfl
  have p0 := cell_of20 nP.out (j := 0) rfl
  have p1 := cell_of20 nP.out (j := 1) rfl
  have p2 := cell_of20 nP.out (j := 2) rfl
  have p3 := cell_of20 nP.out (j := 3) rfl
  have p4 := cell_of20 nP.out (j := 4) rfl
  have p5 := cell_of20 nP.out (j := 5) rfl
  have p6 := cell_of20 nP.out (j := 6) rfl
  have p7 := cell_of20 nP.out (j := 7) rfl
  go_wp2_with fail
  refine wp_loop_rounds 1 ?_
  rw [rounds_succ]
  go_wp2_with fail
  refine wp_loop_rounds 1 ?_
  rw [rounds_succ]
  go_wp2_with fail
  have hcall := hid (data0_ok (b := b) (l := []) ba bc hX.out)
  refine hcall.out.mono ?_
  rintro e wn ⟨rfl, hx, k⟩
  replace hX := hid hx
  clear hx hcall
  clear a0 a1 a2 a3 a4 a5 a6 a7 a8 a9 a10 p0 p1 p2 p3 p4 p5 p6 p7
  replace nA := hid (k.cells nA.out hAb.out (by decide))
  replace nP := hid (k.cells nP.out hPb.out (by decide))
  replace hT := hid (hT.out.more k.1)
  replace hB := hid (hB.out.trans (k.1.mono hwb.out))
  clear k
  have a0 := cell_of20 nA.out (j := 0) rfl
  have a1 := cell_of20 nA.out (j := 1) rfl
  have a2 := cell_of20 nA.out (j := 2) rfl
  have a3 := cell_of20 nA.out (j := 3) rfl
  have a4 := cell_of20 nA.out (j := 4) rfl
  have a5 := cell_of20 nA.out (j := 5) rfl
  have a6 := cell_of20 nA.out (j := 6) rfl
  have a7 := cell_of20 nA.out (j := 7) rfl
  have a8 := cell_of20 nA.out (j := 8) rfl
  have a9 := cell_of20 nA.out (j := 9) rfl
  have a10 := cell_of20 nA.out (j := 10) rfl
  have p0 := cell_of20 nP.out (j := 0) rfl
  have p1 := cell_of20 nP.out (j := 1) rfl
  have p2 := cell_of20 nP.out (j := 2) rfl
  have p3 := cell_of20 nP.out (j := 3) rfl
  have p4 := cell_of20 nP.out (j := 4) rfl
  have p5 := cell_of20 nP.out (j := 5) rfl
  have p6 := cell_of20 nP.out (j := 6) rfl
  have p7 := cell_of20 nP.out (j := 7) rfl
  go_wp2_with fail
  refine (bl_ok (b := b) (l := []) hX.out).mono ?_
  rintro e wn ⟨rfl, rfl⟩
  go_wp2_with fail
  refine (nothing_ok 10 _).mono ?_
  rintro e wn ⟨rfl, bn⟩
  have k := Ok2.ofBelow bn (Nat.le_of_lt hX.out.lt)
  replace hX := hid (hX.out.more bn)
  clear bn
  clear a0 a1 a2 a3 a4 a5 a6 a7 a8 a9 a10 p0 p1 p2 p3 p4 p5 p6 p7
  replace nA := hid (k.cells nA.out hAb.out (by decide))
  replace nP := hid (k.cells nP.out hPb.out (by decide))
  replace hT := hid (hT.out.more k.1)
  replace hB := hid (hB.out.trans (k.1.mono hwb.out))
  clear k
  have a0 := cell_of20 nA.out (j := 0) rfl
  have a1 := cell_of20 nA.out (j := 1) rfl
  have a2 := cell_of20 nA.out (j := 2) rfl
  have a3 := cell_of20 nA.out (j := 3) rfl
  have a4 := cell_of20 nA.out (j := 4) rfl
  have a5 := cell_of20 nA.out (j := 5) rfl
  have a6 := cell_of20 nA.out (j := 6) rfl
  have a7 := cell_of20 nA.out (j := 7) rfl
  have a8 := cell_of20 nA.out (j := 8) rfl
  have a9 := cell_of20 nA.out (j := 9) rfl
  have a10 := cell_of20 nA.out (j := 10) rfl
  have p0 := cell_of20 nP.out (j := 0) rfl
  have p1 := cell_of20 nP.out (j := 1) rfl
  have p2 := cell_of20 nP.out (j := 2) rfl
  have p3 := cell_of20 nP.out (j := 3) rfl
  have p4 := cell_of20 nP.out (j := 4) rfl
  have p5 := cell_of20 nP.out (j := 5) rfl
  have p6 := cell_of20 nP.out (j := 6) rfl
  have p7 := cell_of20 nP.out (j := 7) rfl
  go_wp2_with fail
  have hcall := hid (word_ok (b := b) (l := []) (wnone) hX.out (by simp [wnone]))
  refine hcall.out.mono ?_
  rintro e wn ⟨rfl, hx, k⟩
  replace hX := hid hx
  clear hx hcall
  clear a0 a1 a2 a3 a4 a5 a6 a7 a8 a9 a10 p0 p1 p2 p3 p4 p5 p6 p7
  replace nA := hid (k.cells nA.out hAb.out (by decide))
  replace nP := hid (k.cells nP.out hPb.out (by decide))
  replace hT := hid (hT.out.more k.1)
  replace hB := hid (hB.out.trans (k.1.mono hwb.out))
  clear k
  have a0 := cell_of20 nA.out (j := 0) rfl
  have a1 := cell_of20 nA.out (j := 1) rfl
  have a2 := cell_of20 nA.out (j := 2) rfl
  have a3 := cell_of20 nA.out (j := 3) rfl
  have a4 := cell_of20 nA.out (j := 4) rfl
  have a5 := cell_of20 nA.out (j := 5) rfl
  have a6 := cell_of20 nA.out (j := 6) rfl
  have a7 := cell_of20 nA.out (j := 7) rfl
  have a8 := cell_of20 nA.out (j := 8) rfl
  have a9 := cell_of20 nA.out (j := 9) rfl
  have a10 := cell_of20 nA.out (j := 10) rfl
  have p0 := cell_of20 nP.out (j := 0) rfl
  have p1 := cell_of20 nP.out (j := 1) rfl
  have p2 := cell_of20 nP.out (j := 2) rfl
  have p3 := cell_of20 nP.out (j := 3) rfl
  have p4 := cell_of20 nP.out (j := 4) rfl
  have p5 := cell_of20 nP.out (j := 5) rfl
  have p6 := cell_of20 nP.out (j := 6) rfl
  have p7 := cell_of20 nP.out (j := 7) rfl
  go_wp2_with fail
  have hst := hid (bstr_ok b (pw [] (wnone)) _ hX.out (by simp [pw, wnone]))
  have hend : Hid (pw [] (wnone) = wnone) := by show _ = _; simp [pw]
  refine hst.out.mono ?_
  rintro e wn ⟨rfl, bz⟩
  have hbz := hid (hB.out.trans (bz.mono hwb.out))
  clear bz hst
  go_wp2_with fail
  go_ret2
  try rw [hend.out]
  exact ⟨rfl, hbz.out⟩

set_option maxRecDepth 100000 in
set_option maxHeartbeats 16000000 in
theorem text_d0 (k : Int) (ha : Option Addr) (hc : Nat) (da : Option Addr) (dc : Nat) (ba : Option Addr) (bc : Nat) (w : World) (ht : Tab w.heap.size w)
    (hck : ∀ w', Below w.heap.size w w' → Calls Tryd.prog 19 #[.int .i64 k, .agg #[.int .i64 0, .slice ha 0 hc, .bool false, .int .i64 0, .slice da 0 dc, .int .i64 0, .int .i64 0, .int .i64 0, .int .i64 0, .int .i64 0, .slice ba 0 bc]] w' fun e w'' => e = .returned (.tuple #[.agg #[.int .i64 0, .bool false, .bool false, .bool false, .bool false, .bool false, .bool false, .bool true], .nilIface]) ∧ Below w'.heap.size w' w'') :
    Calls Tryd.prog 11 #[.int .i64 k, .agg #[.int .i64 0, .slice ha 0 hc, .bool false, .int .i64 0, .slice da 0 dc, .int .i64 0, .int .i64 0, .int .i64 0, .int .i64 0, .int .i64 0, .slice ba 0 bc]] w fun e w' => e = .returned (.tuple #[.string ⟨(wempty).toArray⟩, .nilIface]) ∧ Below w.heap.size w w' := by
  have b1 := balloc20 w (.cells #[.int .i64 0, .slice ha 0 hc, .bool false, .int .i64 0, .slice da 0 dc, .int .i64 0, .int .i64 0, .int .i64 0, .int .i64 0, .int .i64 0, .slice ba 0 bc] 34)
  have nA := new_of20 w #[.int .i64 0, .slice ha 0 hc, .bool false, .int .i64 0, .slice da 0 dc, .int .i64 0, .int .i64 0, .int .i64 0, .int .i64 0, .int .i64 0, .slice ba 0 bc] 34
  obtain ⟨w1, hw1⟩ : ∃ w1, w.alloc (.cells #[.int .i64 0, .slice ha 0 hc, .bool false, .int .i64 0, .slice da 0 dc, .int .i64 0, .int .i64 0, .int .i64 0, .int .i64 0, .int .i64 0, .slice ba 0 bc] 34) = w1 := ⟨_, rfl⟩
  rw [hw1] at b1 nA
  have hc1 := hid (hck w1 b1)
  have hT := hid (ht.more b1)
  replace nA := hid nA
  have hB := hid b1
  have hlA : Hid (w.heap.size < w1.heap.size) := (Array.getElem?_eq_some_iff.1 nA.out).1
  clear b1 hck ht
  have a0 := cell_of20 nA.out (j := 0) rfl
  have a1 := cell_of20 nA.out (j := 1) rfl
  have a2 := cell_of20 nA.out (j := 2) rfl
  have a3 := cell_of20 nA.out (j := 3) rfl
  have a4 := cell_of20 nA.out (j := 4) rfl
  have a5 := cell_of20 nA.out (j := 5) rfl
  have a6 := cell_of20 nA.out (j := 6) rfl
  have a7 := cell_of20 nA.out (j := 7) rfl
  have a8 := cell_of20 nA.out (j := 8) rfl
  have a9 := cell_of20 nA.out (j := 9) rfl
  have a10 := cell_of20 nA.out (j := 10) rfl
  go_enter Tryd.func11, Tryd.ntmps11
  go_wp2_with fail
  try rw [hw1]
  clear hw1
  refine hc1.out.mono ?_
  rintro e w2 ⟨rfl, b2⟩
  clear a0 a1 a2 a3 a4 a5 a6 a7 a8 a9 a10
  replace nA := hid (kept20 nA.out b2)
  replace hT := hid (hT.out.more (b2.mono hB.out.size))
  replace hB := hid (hB.out.trans (b2.mono hB.out.size))
  have hlA2 : Hid (w.heap.size < w2.heap.size) := Nat.lt_of_lt_of_le hlA.out b2.size
  clear b2 hc1 hlA
  go_upto_region 4 with fail
  obtain ⟨w3, hw3⟩ : ∃ w3, w2.alloc (.cells #[.int .i64 0, .bool false, .bool false, .bool false, .bool false, .bool false, .bool false, .bool true] 67) = w3 := ⟨_, rfl⟩
  have nP := new_of20 w2 #[.int .i64 0, .bool false, .bool false, .bool false, .bool false, .bool false, .bool false, .bool true] 67
  have b3 := balloc20 w2 (.cells #[.int .i64 0, .bool false, .bool false, .bool false, .bool false, .bool false, .bool false, .bool true] 67)
  rw [hw3] at nP b3
  try rw [hw3]
  obtain ⟨Pb, hPq⟩ : ∃ Pb, w2.heap.size = Pb := ⟨_, rfl⟩
  replace nA := hid (kept20 nA.out b3)
  replace hT := hid (hT.out.more (b3.mono hB.out.size))
  replace hB := hid (hB.out.trans (b3.mono hB.out.size))
  rw [hPq] at nP hlA2
  try rw [hPq]
  have hlP : Hid (Pb < w3.heap.size) := (Array.getElem?_eq_some_iff.1 nP).1
  replace nP := hid nP
  clear hw3 hPq b3
  have a0 := cell_of20 nA.out (j := 0) rfl
  have a1 := cell_of20 nA.out (j := 1) rfl
  have a2 := cell_of20 nA.out (j := 2) rfl
  have a3 := cell_of20 nA.out (j := 3) rfl
  have a4 := cell_of20 nA.out (j := 4) rfl
  have a5 := cell_of20 nA.out (j := 5) rfl
  have a6 := cell_of20 nA.out (j := 6) rfl
  have a7 := cell_of20 nA.out (j := 7) rfl
  have a8 := cell_of20 nA.out (j := 8) rfl
  have a9 := cell_of20 nA.out (j := 9) rfl
  have a10 := cell_of20 nA.out (j := 10) rfl
  have p0 := cell_of20 nP.out (j := 0) rfl
  have p1 := cell_of20 nP.out (j := 1) rfl
  have p2 := cell_of20 nP.out (j := 2) rfl
  have p3 := cell_of20 nP.out (j := 3) rfl
  have p4 := cell_of20 nP.out (j := 4) rfl
  have p5 := cell_of20 nP.out (j := 5) rfl
  have p6 := cell_of20 nP.out (j := 6) rfl
  have p7 := cell_of20 nP.out (j := 7) rfl
  go_upto_region 7 with fail
  obtain ⟨b, hb⟩ : ∃ b, w3.heap.size = b := ⟨_, rfl⟩
  obtain ⟨w4, hw4⟩ : ∃ w4, w3.alloc (.cells #[.pointer none, .slice none 0 0] 81) = w4 := ⟨_, rfl⟩
  have hX0 := Lib.fresh_isBuilder 81 5 w3
  have nB := new_of20 w3 #[.pointer none, .slice none 0 0] 81
  have b4 := balloc20 w3 (.cells #[.pointer none, .slice none 0 0] 81)
  rw [hb, hw4] at hX0 nB
  rw [hw4] at b4
  try rw [hw4]
  have hX : Hid (Tx b [] w4) := hX0
  have hwb : Hid (w.heap.size ≤ b) := by show _ ≤ _; rw [← hb]; exact hB.out.size
  have hAb : Hid (w.heap.size ≠ b) := by show _ ≠ _; have h1 := hlA2.out; have h2 := hlP.out; omega
  have hPb : Hid (Pb ≠ b) := by show _ ≠ _; have h2 := hlP.out; omega
  clear a0 a1 a2 a3 a4 a5 a6 a7 a8 a9 a10 p0 p1 p2 p3 p4 p5 p6 p7
  replace nA := hid (kept20 nA.out b4)
  replace nP := hid (kept20 nP.out b4)
  replace hT : Hid (Tab b w4) := (hT.out.more (b4.mono hB.out.size)).up hwb.out
  replace hB := hid (hB.out.trans (b4.mono hB.out.size))
  replace nB := hid nB
  try rw [hb]
  clear hX0 b4 hw4 hb hlP hlA2
  have a0 := cell_of20 nA.out (j := 0) rfl
  have a1 := cell_of20 nA.out (j := 1) rfl
  have a2 := cell_of20 nA.out (j := 2) rfl
  have a3 := cell_of20 nA.out (j := 3) rfl
  have a4 := cell_of20 nA.out (j := 4) rfl
  have a5 := cell_of20 nA.out (j := 5) rfl
  have a6 := cell_of20 nA.out (j := 6) rfl
  have a7 := cell_of20 nA.out (j := 7) rfl
  have a8 := cell_of20 nA.out (j := 8) rfl
  have a9 := cell_of20 nA.out (j := 9) rfl
  have a10 := cell_of20 nA.out (j := 10) rfl
  have p0 := cell_of20 nP.out (j := 0) rfl
  have p1 := cell_of20 nP.out (j := 1) rfl
  have p2 := cell_of20 nP.out (j := 2) rfl
  have p3 := cell_of20 nP.out (j := 3) rfl
  have p4 := cell_of20 nP.out (j := 4) rfl
  have p5 := cell_of20 nP.out (j := 5) rfl
  have p6 := cell_of20 nP.out (j := 6) rfl
  have p7 := cell_of20 nP.out (j := 7) rfl
  go_wp2_with fail
  refine wp_loop_rounds 1 ?_
  rw [rounds_succ]
  go_wp2_with fail
  refine wp_loop_rounds 1 ?_
  rw [rounds_succ]
  go_wp2_with fail
  have hcall := hid (data0_ok (b := b) (l := []) ba bc hX.out)
  refine hcall.out.mono ?_
  rintro e wn ⟨rfl, hx, k⟩
  replace hX := hid hx
  clear hx hcall
  clear a0 a1 a2 a3 a4 a5 a6 a7 a8 a9 a10 p0 p1 p2 p3 p4 p5 p6 p7
  replace nA := hid (k.cells nA.out hAb.out (by decide))
  replace nP := hid (k.cells nP.out hPb.out (by decide))
  replace hT := hid (hT.out.more k.1)
  replace hB := hid (hB.out.trans (k.1.mono hwb.out))
  clear k
  have a0 := cell_of20 nA.out (j := 0) rfl
  have a1 := cell_of20 nA.out (j := 1) rfl
  have a2 := cell_of20 nA.out (j := 2) rfl
  have a3 := cell_of20 nA.out (j := 3) rfl
  have a4 := cell_of20 nA.out (j := 4) rfl
  have a5 := cell_of20 nA.out (j := 5) rfl
  have a6 := cell_of20 nA.out (j := 6) rfl
  have a7 := cell_of20 nA.out (j := 7) rfl
  have a8 := cell_of20 nA.out (j := 8) rfl
  have a9 := cell_of20 nA.out (j := 9) rfl
  have a10 := cell_of20 nA.out (j := 10) rfl
  have p0 := cell_of20 nP.out (j := 0) rfl
  have p1 := cell_of20 nP.out (j := 1) rfl
  have p2 := cell_of20 nP.out (j := 2) rfl
  have p3 := cell_of20 nP.out (j := 3) rfl
  have p4 := cell_of20 nP.out (j := 4) rfl
  have p5 := cell_of20 nP.out (j := 5) rfl
  have p6 := cell_of20 nP.out (j := 6) rfl
  have p7 := cell_of20 nP.out (j := 7) rfl
  go_wp2_with fail
  refine (bl_ok (b := b) (l := []) hX.out).mono ?_
  rintro e wn ⟨rfl, rfl⟩
  go_wp2_with fail
  refine (nothing_ok 14 _).mono ?_
  rintro e wn ⟨rfl, bn⟩
  have k := Ok2.ofBelow bn (Nat.le_of_lt hX.out.lt)
  replace hX := hid (hX.out.more bn)
  clear bn
  clear a0 a1 a2 a3 a4 a5 a6 a7 a8 a9 a10 p0 p1 p2 p3 p4 p5 p6 p7
  replace nA := hid (k.cells nA.out hAb.out (by decide))
  replace nP := hid (k.cells nP.out hPb.out (by decide))
  replace hT := hid (hT.out.more k.1)
  replace hB := hid (hB.out.trans (k.1.mono hwb.out))
  clear k
  have a0 := cell_of20 nA.out (j := 0) rfl
  have a1 := cell_of20 nA.out (j := 1) rfl
  have a2 := cell_of20 nA.out (j := 2) rfl
  have a3 := cell_of20 nA.out (j := 3) rfl
  have a4 := cell_of20 nA.out (j := 4) rfl
  have a5 := cell_of20 nA.out (j := 5) rfl
  have a6 := cell_of20 nA.out (j := 6) rfl
  have a7 := cell_of20 nA.out (j := 7) rfl
  have a8 := cell_of20 nA.out (j := 8) rfl
  have a9 := cell_of20 nA.out (j := 9) rfl
  have a10 := cell_of20 nA.out (j := 10) rfl
  have p0 := cell_of20 nP.out (j := 0) rfl
  have p1 := cell_of20 nP.out (j := 1) rfl
  have p2 := cell_of20 nP.out (j := 2) rfl
  have p3 := cell_of20 nP.out (j := 3) rfl
  have p4 := cell_of20 nP.out (j := 4) rfl
  have p5 := cell_of20 nP.out (j := 5) rfl
  have p6 := cell_of20 nP.out (j := 6) rfl
  have p7 := cell_of20 nP.out (j := 7) rfl
  go_wp2_with fail
  have hcall := hid (word_ok (b := b) (l := []) (wempty) hX.out (by simp [wempty]))
  refine hcall.out.mono ?_
  rintro e wn ⟨rfl, hx, k⟩
  replace hX := hid hx
  clear hx hcall
  clear a0 a1 a2 a3 a4 a5 a6 a7 a8 a9 a10 p0 p1 p2 p3 p4 p5 p6 p7
  replace nA := hid (k.cells nA.out hAb.out (by decide))
  replace nP := hid (k.cells nP.out hPb.out (by decide))
  replace hT := hid (hT.out.more k.1)
  replace hB := hid (hB.out.trans (k.1.mono hwb.out))
  clear k
  have a0 := cell_of20 nA.out (j := 0) rfl
  have a1 := cell_of20 nA.out (j := 1) rfl
  have a2 := cell_of20 nA.out (j := 2) rfl
  have a3 := cell_of20 nA.out (j := 3) rfl
  have a4 := cell_of20 nA.out (j := 4) rfl
  have a5 := cell_of20 nA.out (j := 5) rfl
  have a6 := cell_of20 nA.out (j := 6) rfl
  have a7 := cell_of20 nA.out (j := 7) rfl
  have a8 := cell_of20 nA.out (j := 8) rfl
  have a9 := cell_of20 nA.out (j := 9) rfl
  have a10 := cell_of20 nA.out (j := 10) rfl
  have p0 := cell_of20 nP.out (j := 0) rfl
  have p1 := cell_of20 nP.out (j := 1) rfl
  have p2 := cell_of20 nP.out (j := 2) rfl
  have p3 := cell_of20 nP.out (j := 3) rfl
  have p4 := cell_of20 nP.out (j := 4) rfl
  have p5 := cell_of20 nP.out (j := 5) rfl
  have p6 := cell_of20 nP.out (j := 6) rfl
  have p7 := cell_of20 nP.out (j := 7) rfl
  go_wp2_with fail
  have hst := hid (bstr_ok b (pw [] (wempty)) _ hX.out (by simp [pw, wempty]))
  have hend : Hid (pw [] (wempty) = wempty) := by show _ = _; simp [pw]
  refine hst.out.mono ?_
  rintro e wn ⟨rfl, bz⟩
  have hbz := hid (hB.out.trans (bz.mono hwb.out))
  clear bz hst
  go_wp2_with fail
  go_ret2
  try rw [hend.out]
  exact ⟨rfl, hbz.out⟩

end Go.Proofs.YtkopcfpghklbbaaDoor
