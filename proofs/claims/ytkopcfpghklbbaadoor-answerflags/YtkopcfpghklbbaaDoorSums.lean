/- Plain facts on numbers, masks and the order of bytes: of no program's text. -/
import Derived.Test.YtkopcfpghklbbaaDoorBytes
import Derived.OpenShut
namespace Go.Proofs.YtkopcfpghklbbaaDoor
open Go.RowKit
attribute [local simp] be_length

theorem wrapU (n : Int) : IntKind.u64.wrap n = n % 18446744073709551616 := by
  simp [IntKind.wrap, IntKind.signed, IntKind.bits]

/-- 1 + int(uint(n) % 8) is one to eight. -/
theorem width_of (n : Int) : ∃ m : Nat, m < 8 ∧ (IntKind.u64.wrap n).tmod 8 = (m : Int) := by
  refine ⟨((IntKind.u64.wrap n).tmod 8).toNat, ?_, ?_⟩
  · rw [wrapU, Int.tmod_eq_emod_of_nonneg (by omega)]; omega
  · rw [wrapU, Int.tmod_eq_emod_of_nonneg (by omega)]; omega

theorem pow_le7 (m : Nat) (hm : m < 7) : 256 ^ (1 + m) ≤ 72057594037927936 := by
  have : 256 ^ (1 + m) ≤ 256 ^ 7 := Nat.pow_le_pow_right (by omega) (by omega)
  simpa using this

theorem mask_of (A m : Nat) (hA : A < 18446744073709551616) (hm : m < 7) :
    bits .and .u64 (A : Int) (IntKind.u64.wrap (IntKind.u64.wrap (2 ^ (8 * (1 + m))) - 1)) = ((A % 256 ^ (1 + m) : Nat) : Int) := by
  have e : (2 : Int) ^ (8 * (1 + m)) = ((256 ^ (1 + m) : Nat) : Int) := by
    rw [Int.natCast_pow, show ((256 : Nat) : Int) = 2 ^ 8 from by decide, ← Int.pow_mul]
  have hp := pow_le7 m hm
  have h1 : 1 ≤ 256 ^ (1 + m) := Nat.pos_of_ne_zero (by simp)
  have hw : IntKind.u64.wrap (IntKind.u64.wrap (2 ^ (8 * (1 + m))) - 1) = ((256 ^ (1 + m) - 1 : Nat) : Int) := by
    rw [e, wrapU, wrapU]
    generalize 256 ^ (1 + m) = q at *
    omega
  rw [hw, bits_and_u64_nat A _ hA (by omega)]
  have e2 : 256 ^ (1 + m) = 2 ^ (8 * (1 + m)) := by rw [Nat.pow_mul]
  rw [e2, Nat.and_two_pow_sub_one_eq_mod]

theorem less_be (n a b : Nat) : Op.bytesLess (be n a) (be n b) = decide (a % 256 ^ n < b % 256 ^ n) := by
  induction n with
  | zero => simp [be, Op.bytesLess, Nat.mod_one]
  | succ n ih =>
    rw [be, be, Op.bytesLess, ih, mod_succ, mod_succ]
    have hx : a % 256 ^ n < 256 ^ n := Nat.mod_lt _ (Nat.pos_of_ne_zero (by simp))
    have hy : b % 256 ^ n < 256 ^ n := Nat.mod_lt _ (Nat.pos_of_ne_zero (by simp))
    have hp : a / 256 ^ n % 256 < 256 := Nat.mod_lt _ (by omega)
    have hq : b / 256 ^ n % 256 < 256 := Nat.mod_lt _ (by omega)
    have e1 : (UInt8.ofNat (a / 256 ^ n) < UInt8.ofNat (b / 256 ^ n)) ↔ a / 256 ^ n % 256 < b / 256 ^ n % 256 := by
      rw [UInt8.lt_iff_toNat_lt]; simp
    have e2 : (UInt8.ofNat (a / 256 ^ n) = UInt8.ofNat (b / 256 ^ n)) ↔ a / 256 ^ n % 256 = b / 256 ^ n % 256 := by
      rw [← UInt8.toNat_inj]; simp
    rw [Bool.eq_iff_iff]
    simp only [Bool.or_eq_true, Bool.and_eq_true, decide_eq_true_eq, beq_iff_eq, e1, e2]
    generalize a / 256 ^ n % 256 = p at *
    generalize b / 256 ^ n % 256 = q at *
    generalize a % 256 ^ n = x at *
    generalize b % 256 ^ n = y at *
    generalize 256 ^ n = k at *
    constructor
    · rintro (h | ⟨rfl, h⟩)
      · have : (p + 1) * k ≤ q * k := Nat.mul_le_mul_right _ (by omega)
        rw [Nat.add_mul] at this
        omega
      · omega
    · intro h
      by_cases hpq : p < q
      · exact .inl hpq
      · right
        by_cases he : p = q
        · subst he; exact ⟨rfl, by omega⟩
        · exfalso
          have : (q + 1) * k ≤ p * k := Nat.mul_le_mul_right _ (by omega)
          rw [Nat.add_mul] at this
          omega

theorem num_inj_be (n a b : Nat) : be n a = be n b ↔ a % 256 ^ n = b % 256 ^ n := by
  constructor
  · intro h
    rw [← num_be, ← num_be, h]
  · intro h
    induction n with
    | zero => rfl
    | succ n ih =>
      rw [mod_succ, mod_succ] at h
      have hx : a % 256 ^ n < 256 ^ n := Nat.mod_lt _ (Nat.pos_of_ne_zero (by simp))
      have hy : b % 256 ^ n < 256 ^ n := Nat.mod_lt _ (Nat.pos_of_ne_zero (by simp))
      have hd : a % 256 ^ n = b % 256 ^ n := by
        have := congrArg (· % 256 ^ n) h
        simpa [Nat.mul_add_mod', Nat.mod_eq_of_lt hx, Nat.mod_eq_of_lt hy] using this
      have hpos : 0 < 256 ^ n := Nat.pos_of_ne_zero (by simp)
      have hq : a / 256 ^ n % 256 = b / 256 ^ n % 256 := by
        rw [hd] at h
        exact Nat.eq_of_mul_eq_mul_right hpos (by omega)
      rw [be, be, ih hd]
      congr 1
      rw [← UInt8.toNat_inj]
      simpa using hq

theorem eq_be (n a b : Nat) : (be n a == be n b) = decide (a % 256 ^ n = b % 256 ^ n) := by
  rw [Bool.eq_iff_iff]
  simp [num_inj_be]

/-- 'v<<8 | x' where nothing is lost. -/
theorem or_byte (x : Nat) (b : UInt8) (hx : x < 72057594037927936) : bits .or .u64 (IntKind.u64.wrap ((x : Int) * 256)) (IntKind.u64.wrap (b.toNat : Int)) = ((256 * x + b.toNat : Nat) : Int) := by
  have hb := b.toNat_lt
  have e1 : IntKind.u64.wrap ((x : Int) * 256) = ((2 ^ 8 * x : Nat) : Int) := by rw [wrapU]; omega
  have e2 : IntKind.u64.wrap (b.toNat : Int) = (b.toNat : Int) := by rw [wrapU]; omega
  rw [e1, e2, bits_or_u64_nat _ _ (by omega) (by omega), ← Nat.two_pow_add_eq_or_of_lt (by omega)]

theorem num_lt7 (l : List UInt8) (h : l.length ≤ 7) : num l < 72057594037927936 := by
  have h1 := num_lt l
  have h2 : 256 ^ l.length ≤ 256 ^ 7 := Nat.pow_le_pow_right (by omega) h
  have h3 : 256 ^ 7 = 72057594037927936 := by decide
  omega

theorem num_lt8 (l : List UInt8) (h : l.length ≤ 8) : num l < 18446744073709551616 := by
  have h1 := num_lt l
  have h2 : 256 ^ l.length ≤ 256 ^ 8 := Nat.pow_le_pow_right (by omega) h
  have h3 : 256 ^ 8 = 18446744073709551616 := by decide
  omega

theorem wrapU32 (n : Int) : IntKind.u32.wrap n = n % 4294967296 := by
  simp [IntKind.wrap, IntKind.signed, IntKind.bits]

/-- A number of 32 bits with a sign, as one without, and back. -/
theorem signs_of {v : Int} (h : (Lit.int .i32 v).wf = true) : ∃ V : Nat, IntKind.u32.wrap v = (V : Int) ∧ IntKind.u64.wrap (V : Int) = (V : Int) ∧ V % 256 ^ 4 = V ∧ (wrap32 (IntKind.u32.wrap ((V % 256 ^ 4 : Nat) : Int)) == v) = true := by
  have hb := bounds_i32 h
  refine ⟨(IntKind.u32.wrap v).toNat, ?_, ?_, ?_, ?_⟩
  · rw [wrapU32]; omega
  · rw [wrapU, wrapU32]; omega
  · have : 256 ^ 4 = 4294967296 := by decide
    rw [this, wrapU32]; omega
  · have : 256 ^ 4 = 4294967296 := by decide
    rw [this, wrapU32, wrapU32, beq_iff_eq]
    unfold wrap32
    omega

theorem wfU {a : Int} (h : (Lit.int .u64 a).wf = true) : ∃ A : Nat, a = A ∧ A < 18446744073709551616 := by
  have := bounds_u64 h
  exact ⟨a.toNat, by omega, by omega⟩

end Go.Proofs.YtkopcfpghklbbaaDoor
