/- answer's Text of an answer with an error, and of none. -/
import Derived.Test.YtkopcfpghklbbaaDoorDart20
namespace Go.Proofs.YtkopcfpghklbbaaDoor
open Go.RowKit
set_option linter.unusedVariables false

set_option maxRecDepth 100000 in
set_option maxHeartbeats 8000000 in
/-- It may not be. -/
theorem text_err (k z : Int) (x : An) (ha : Option Addr) (hn hc : Nat) (da : Option Addr) (dn dc : Nat) (ba : Option Addr) (bn bc : Nat) (w : World)
    (hck : ∀ w', Below w.heap.size w w' → Calls Tryd.prog 19 #[.int .i64 k, av x (.slice ha hn hc) (.slice da dn dc) (.slice ba bn bc)] w' fun e w'' => e = .returned (.tuple #[.agg zcs, .iface 93 (.int .i64 z)]) ∧ Below w'.heap.size w' w'') :
    Calls Tryd.prog 11 #[.int .i64 k, av x (.slice ha hn hc) (.slice da dn dc) (.slice ba bn bc)] w fun e w' => e = .returned (.tuple #[.string ⟨([] : List UInt8).toArray⟩, .iface 93 (.int .i64 z)]) ∧ Below w.heap.size w w' := by
  obtain ⟨err, hs, is, n, ds, c0, c1, c2, c3, sum, d⟩ := x
  have b1 := balloc20 w (.cells (acs ⟨err, hs, is, n, ds, c0, c1, c2, c3, sum, d⟩ (.slice ha hn hc) (.slice da dn dc) (.slice ba bn bc)) 34)
  have hc1 := hid (hck _ b1)
  replace b1 := hid b1
  clear hck
  go_enter Tryd.func11, Tryd.ntmps11
  go_wp2_with fail
  refine hc1.out.mono ?_
  rintro e w2 ⟨rfl, b2⟩
  have hB := hid (b1.out.trans (b2.mono b1.out.size))
  clear b2 hc1 b1
  go_wp2_with fail
  go_ret2
  exact ⟨rfl, hB.out.trans ((balloc20 w2 _).mono hB.out.size)⟩

set_option maxRecDepth 100000 in
set_option maxHeartbeats 8000000 in
/-- An answer that has an error alone. -/
theorem text_num (k z : Int) (hz : z ≠ 0) (h0 : -9223372036854775808 ≤ z) (h1 : z ≤ 9223372036854775807) (ha : Option Addr) (hc : Nat) (da : Option Addr) (dc : Nat) (ba : Option Addr) (bc : Nat) (w : World) (ht : Tab w.heap.size w)
    (hck : ∀ w', Below w.heap.size w w' → Calls Tryd.prog 19 #[.int .i64 k, .agg #[.int .i64 z, .slice ha 0 hc, .bool false, .int .i64 0, .slice da 0 dc, .int .i64 0, .int .i64 0, .int .i64 0, .int .i64 0, .int .i64 0, .slice ba 0 bc]] w' fun e w'' => e = .returned (.tuple #[.agg zcs, .nilIface]) ∧ Below w'.heap.size w' w'') :
    Calls Tryd.prog 11 #[.int .i64 k, .agg #[.int .i64 z, .slice ha 0 hc, .bool false, .int .i64 0, .slice da 0 dc, .int .i64 0, .int .i64 0, .int .i64 0, .int .i64 0, .int .i64 0, .slice ba 0 bc]] w fun e w' => e = .returned (.tuple #[.string ⟨(werror ++ Lib.itoa z).toArray⟩, .nilIface]) ∧ Below w.heap.size w w' := by
  have b1 := balloc20 w (.cells #[.int .i64 z, .slice ha 0 hc, .bool false, .int .i64 0, .slice da 0 dc, .int .i64 0, .int .i64 0, .int .i64 0, .int .i64 0, .int .i64 0, .slice ba 0 bc] 34)
  have nA := new_of20 w #[.int .i64 z, .slice ha 0 hc, .bool false, .int .i64 0, .slice da 0 dc, .int .i64 0, .int .i64 0, .int .i64 0, .int .i64 0, .int .i64 0, .slice ba 0 bc] 34
  have hc1 := hid (hck _ b1)
  replace nA := hid nA
  replace b1 := hid b1
  clear hck
  go_enter Tryd.func11, Tryd.ntmps11
  go_wp2_with fail
  refine hc1.out.mono ?_
  rintro e w2 ⟨rfl, b2⟩
  have hB := hid (b1.out.trans (b2.mono b1.out.size))
  replace nA := hid (kept20 nA.out b2)
  clear b2 hc1 b1
  go_upto_region 4 with fail
  have b3 := balloc20 w2 (.cells zcs 67)
  replace nA := hid (kept20 nA.out b3)
  replace hB := hid (hB.out.trans (b3.mono hB.out.size))
  obtain ⟨w3, hw3⟩ : ∃ w3, w2.alloc (.cells zcs 67) = w3 := ⟨_, rfl⟩
  rw [hw3] at nA hB
  try rw [hw3]
  clear hw3 b3
  have a0 := cell_of20 nA.out (j := 0) rfl
  have hit := hid (itoa_ok z h0 h1 (ht.more hB.out))
  go_wp2_with fail
  refine hit.out.mono ?_
  rintro e w4 ⟨rfl, b4⟩
  have hB2 := hid (hB.out.trans (b4.mono hB.out.size))
  clear b4 a0 nA hit
  have hsz : ¬ (9223372036854775807 < 6 + (Lib.itoa z).length) := by have := Lib.itoa_length_le z h0 h1; omega
  go_wp2_with fail
  go_ret2
  refine ⟨?_, hB2.out⟩
  rfl

end Go.Proofs.YtkopcfpghklbbaaDoor
