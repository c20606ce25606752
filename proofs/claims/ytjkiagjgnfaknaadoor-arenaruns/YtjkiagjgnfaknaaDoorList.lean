/- Lists of truths by their places. -/
import Derived.Test.YtjkiagjgnfaknaaDoorCalls
import Derived.Test.YtjkiagjgnfaknaaDoorErrAs
namespace Go.Proofs.YtjkiagjgnfaknaaDoor
open Go.RowKit

/-- What the calls read of the program's variables. -/
def Env (w : World) : Prop := Handle w ∧ Tab w

theorem Env.lt {w : World} (h : Env w) : 2 ≤ w.heap.size := by
  have := World.block_lt_of_cell? w _ (h.2 0 (by decide))
  exact this

theorem Env.of {w w' : World} {lo hi : Nat} (h : Env w) (hw : Within lo hi w w') (ho : 2 ≤ lo) : Env w' := ⟨hw.cell h.1 (Or.inl (by simp; omega)), h.2.of hw (by omega)⟩

theorem Env.below {w w' : World} (h : Env w) (hw : Below w.heap.size w w') : Env w' := h.of (Within.ofBelow hw w.heap.size w.heap.size) h.lt

/-- The list of K truths. -/
def L (K : Nat) (p : Nat → Bool) : List Bool := (List.range K).map p

@[simp] theorem L_length (K : Nat) (p : Nat → Bool) : (L K p).length = K := by simp [L]

theorem L_get (K : Nat) (p : Nat → Bool) (j : Nat) : (L K p)[j]? = if j < K then some (p j) else none := by
  unfold L
  rw [List.getElem?_map]
  by_cases h : j < K
  · simp [h]
  · simp [h]

theorem L_is (K : Nat) (p : Nat → Bool) (j : Nat) (b : Bool) : (L K p)[j]? = some b ↔ j < K ∧ p j = b := by
  rw [L_get]
  by_cases h : j < K <;> simp [h]

theorem L_ext {K : Nat} {p q : Nat → Bool} (h : ∀ j, j < K → p j = q j) : L K p = L K q := by
  apply List.ext_getElem?
  intro j
  rw [L_get, L_get]
  by_cases hj : j < K
  · simp [hj, h j hj]
  · simp [hj]

theorem L_set {K : Nat} {p q : Nat → Bool} {x : Nat} {b : Bool} (hx : x < K) (hq : q x = b) (h : ∀ j, j < K → j ≠ x → p j = q j) : (L K p).set x b = L K q := by
  apply List.ext_getElem?
  intro j
  rw [List.getElem?_set, L_get, L_get]
  by_cases hj : x = j
  · subst hj; simp [hx, hq]
  · by_cases hk : j < K
    · simp [hj, hk, h j hk (fun e => hj e.symm)]
    · simp [hj, hk]

theorem L_false (K : Nat) : List.replicate K false = L K (fun _ => false) := by
  apply List.ext_getElem?
  intro j
  rw [L_get, List.getElem?_replicate]

theorem L_true (K : Nat) : (L K (fun _ => true)).count true = K := by
  have : L K (fun _ => true) = List.replicate K true := by
    apply List.ext_getElem?
    intro j
    rw [L_get, List.getElem?_replicate]
  rw [this, List.count_replicate]
  simp

/-- The least free place. -/
theorem L_least {K : Nat} {p : Nat → Bool} {x : Nat} (hx : x < K) (h0 : p x = false) (h : ∀ j, j < x → p j = true) : Least (fun i => (L K p)[i]? = some false) 0 x := by
  refine ⟨(L_is K p x false).2 ⟨hx, h0⟩, Nat.zero_le _, fun y hy _ => ?_⟩
  have hy' : (L K p)[y]? = some false := hy
  rw [L_is] at hy'
  rcases Nat.lt_or_ge y x with h1 | h1
  · rw [h y h1] at hy'; cases hy'.2
  · exact h1

/-- '1 + int(uint(n) % M)'. -/
theorem mod_up (n M : Int) (h1 : 1 ≤ M) (h2 : M ≤ 1000000) : ∃ K : Nat, wrap64 (1 + wrap64 ((IntKind.u64.wrap n).tmod M)) = (K : Int) ∧ 1 ≤ K ∧ (K : Int) ≤ M := by
  have e : (IntKind.u64.wrap n).tmod M = n % 18446744073709551616 % M := by
    rw [IntKind.wrap_u64, Int.tmod_eq_emod_of_nonneg (by omega)]
  have g1 : 0 ≤ n % 18446744073709551616 % M := Int.emod_nonneg _ (by omega)
  have g2 : n % 18446744073709551616 % M < M := Int.emod_lt_of_pos _ (by omega)
  rw [e]
  generalize n % 18446744073709551616 % M = r at g1 g2
  refine ⟨(1 + r).toNat, ?_, by omega, by omega⟩
  have w1 : wrap64 r = r := IntWalk.wrap64_in r ⟨by omega, by omega⟩
  have w2 : wrap64 (1 + r) = 1 + r := IntWalk.wrap64_in _ ⟨by omega, by omega⟩
  rw [w1, w2]
  omega

end Go.Proofs.YtjkiagjgnfaknaaDoor
