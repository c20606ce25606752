/- For every two numbers and every n, 'WireOrder' returns true: of two numbers of as many bytes the less one's bytes come first. -/
import Derived.Test.YtpccgdhiekbmpabFrame
import Derived.Test.YtpccgdhiekbmpabSums
import Derived.Deep.QuietTactic
import Derived.BigQuiet
namespace Go.Proofs.Ytpccgdhiekbmpab
open Go.RowKit
attribute [local simp] be_length

set_option maxHeartbeats 400000 in
theorem order_small (A B m a b : Nat) (n : Int) (w : World) (hk : (IntKind.u64.wrap n).tmod 8 = (m : Int)) (hm : m < 7)
    (ha : bits .and .u64 (A : Int) (IntKind.u64.wrap (IntKind.u64.wrap (2 ^ (8 * (1 + m))) - 1)) = (a : Int))
    (hb : bits .and .u64 (B : Int) (IntKind.u64.wrap (IntKind.u64.wrap (2 ^ (8 * (1 + m))) - 1)) = (b : Int))
    (hl : Op.bytesLess (be (1 + m) A) (be (1 + m) B) = decide ((a : Int) < (b : Int))) (he : (be (1 + m) A == be (1 + m) B) = ((a : Int) == (b : Int))) :
    Calls Try.prog 3 #[.int .u64 A, .int .u64 B, .int .i64 n] w fun e w' => e = .returned (.bool true) ∧ Below w.heap.size w w' := by
  go_enter Try.func3, Try.ntmps3
  go_wp2_with fail
  go_quiet (fail)
  go_wp2_with fail
  refine (put_nil _ _ A (1 + m) _ rfl (by omega) (by omega) (by omega)).mono ?_
  rintro e w1 ⟨g1, rfl, hp1, hb1⟩
  go_wp2_with fail
  refine (put_nil _ _ B (1 + m) _ rfl (by omega) (by omega) (by omega)).mono ?_
  rintro e w2 ⟨g2, rfl, hp2, hb2⟩
  have hs1 := string_at (n := 1 + m) (hp1.below hb2) (by simp)
  have hs2 := string_at (n := 1 + m) hp2 (by simp)
  have hbb := hb1.trans (hb2.mono hb1.size)
  clear hp1 hp2 hb1 hb2
  go_wp2_with fail
  refine (sure_any _).mono ?_
  rintro e w3 ⟨rfl, hb3⟩
  go_wp2_with fail
  go_ret
  exact ⟨rfl, (below_drewN (Below.refl _ _) nq).trans (hbb.trans (hb3.mono hbb.size))⟩

set_option maxHeartbeats 400000 in
theorem order_great (A B : Nat) (n : Int) (w : World) (hk : (IntKind.u64.wrap n).tmod 8 = 7)
    (hl : Op.bytesLess (be 8 A) (be 8 B) = decide ((A : Int) < (B : Int))) (he : (be 8 A == be 8 B) = ((A : Int) == (B : Int))) :
    Calls Try.prog 3 #[.int .u64 A, .int .u64 B, .int .i64 n] w fun e w' => e = .returned (.bool true) ∧ Below w.heap.size w w' := by
  go_enter Try.func3, Try.ntmps3
  go_wp2_with fail
  refine (put_nil _ _ A 8 _ rfl (by omega) (by omega) (by omega)).mono ?_
  rintro e w1 ⟨g1, rfl, hp1, hb1⟩
  go_wp2_with fail
  refine (put_nil _ _ B 8 _ rfl (by omega) (by omega) (by omega)).mono ?_
  rintro e w2 ⟨g2, rfl, hp2, hb2⟩
  have hs1 := string_at (n := 8) (hp1.below hb2) (by simp)
  have hs2 := string_at (n := 8) hp2 (by simp)
  have hbb := hb1.trans (hb2.mono hb1.size)
  clear hp1 hp2 hb1 hb2
  go_wp2_with fail
  refine (sure_any _).mono ?_
  rintro e w3 ⟨rfl, hb3⟩
  go_wp2_with fail
  go_ret
  exact ⟨rfl, hbb.trans (hb3.mono hbb.size)⟩

theorem order_any (a0 a1 a2 : Int) (w0 : (Lit.int .u64 a0).wf = true) (w1 : (Lit.int .u64 a1).wf = true) (w : World) :
    Calls Try.prog 3 #[.int .u64 a0, .int .u64 a1, .int .i64 a2] w fun e w' => e = .returned (.bool true) ∧ Below w.heap.size w w' := by
  obtain ⟨A, rfl, hA⟩ := wfU w0
  obtain ⟨B, rfl, hB⟩ := wfU w1
  obtain ⟨m, hm, hk⟩ := width_of a2
  by_cases h7 : m < 7
  · refine order_small A B m (A % 256 ^ (1 + m)) (B % 256 ^ (1 + m)) a2 w hk h7 (mask_of A m hA h7) (mask_of B m hB h7) ?_ ?_
    · rw [less_be]; simp only [Int.ofNat_lt]
    · rw [eq_be, Bool.eq_iff_iff]; simp only [decide_eq_true_eq, beq_iff_eq, Int.ofNat_inj]
  · obtain rfl : m = 7 := by omega
    have e8 : 256 ^ 8 = 18446744073709551616 := by decide
    refine order_great A B a2 w (by simpa using hk) ?_ ?_
    · rw [less_be, e8, Nat.mod_eq_of_lt hA, Nat.mod_eq_of_lt hB]; simp only [Int.ofNat_lt]
    · rw [eq_be, e8, Nat.mod_eq_of_lt hA, Nat.mod_eq_of_lt hB, Bool.eq_iff_iff]; simp only [decide_eq_true_eq, beq_iff_eq, Int.ofNat_inj]

end Go.Proofs.Ytpccgdhiekbmpab
