/- Frames laid one behind the other: plain facts, of no program. -/
import Derived.Test.YtpccgdhiekbmpaaSums
namespace Go.Proofs.Ytpccgdhiekbmpaa
open Go.RowKit
attribute [local simp] be_length

/-- The frame of these bytes. -/
def fr (l : List UInt8) : List UInt8 := be 4 l.length ++ l

theorem fr_length (l : List UInt8) : (fr l).length = 4 + l.length := by simp [fr]

/-- The frames of the first k lists. -/
def cat (L : Nat → List UInt8) : Nat → List UInt8
  | 0 => []
  | k + 1 => cat L k ++ fr (L k)

theorem cat_length (L : Nat → List UInt8) (k : Nat) (h : ∀ r, r < k → (L r).length ≤ 2000) : (cat L k).length ≤ 2004 * k := by
  induction k with
  | zero => simp [cat]
  | succ k ih =>
    have h1 := ih (fun r hr => h r (by omega))
    have h2 := h k (by omega)
    rw [cat, List.length_append, fr_length]
    omega

/-- What is left when j lists of M are not yet cut off, T behind them. -/
def rem (L : Nat → List UInt8) (M : Nat) (T : List UInt8) : Nat → List UInt8
  | 0 => T
  | j + 1 => fr (L (M - (j + 1))) ++ rem L M T j

theorem cat_rem (L : Nat → List UInt8) (M : Nat) (T : List UInt8) (k : Nat) (hk : k ≤ M) : cat L k ++ rem L M T (M - k) = cat L M ++ T := by
  induction h : M - k generalizing k with
  | zero =>
    obtain rfl : k = M := by omega
    simp [rem]
  | succ j ih =>
    have e1 : M - (k + 1) = j := by omega
    have e2 : M - (j + 1) = k := by omega
    have := ih (k + 1) (by omega) e1
    rw [rem, e2, ← List.append_assoc]
    rw [cat] at this
    exact this

theorem rem_step (L : Nat → List UInt8) (M : Nat) (T : List UInt8) (k : Nat) (hk : k < M) : rem L M T (M - k) = be 4 (L k).length ++ (L k ++ rem L M T (M - (k + 1))) := by
  obtain ⟨j, hj⟩ : ∃ j, M - k = j + 1 := ⟨M - k - 1, by omega⟩
  rw [hj, rem, show M - (j + 1) = k from by omega, show M - (k + 1) = j from by omega, fr, List.append_assoc]

theorem rem_length (L : Nat → List UInt8) (M : Nat) (T : List UInt8) (k : Nat) (hk : k < M) : (rem L M T (M - k)).length = 4 + (L k).length + (rem L M T (M - (k + 1))).length := by
  rw [rem_step L M T k hk]
  simp
  omega

end Go.Proofs.Ytpccgdhiekbmpaa
