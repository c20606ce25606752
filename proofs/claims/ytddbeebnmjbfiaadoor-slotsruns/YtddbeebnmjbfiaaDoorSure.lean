/- Lists of truths by their places; 'sure' of the laws. -/
import Derived.Test.YtddbeebnmjbfiaaDoorCalls
import Derived.Test.YtddbeebnmjbfiaaDoorErrAs
namespace Go.Proofs.YtddbeebnmjbfiaaDoor
open Go.RowKit

/-- What the calls read of the program's variables. -/
def Env (w : World) : Prop := Handle w ∧ Tab w

theorem Env.lt {w : World} (h : Env w) : 2 ≤ w.heap.size := by
  have := World.block_lt_of_cell? w _ (h.2 0 (by decide))
  exact this

theorem Env.of {w w' : World} {lo hi : Nat} (h : Env w) (hw : Within lo hi w w') (ho : 2 ≤ lo) : Env w' := ⟨hw.cell h.1 (Or.inl (by simp; omega)), h.2.of hw (by omega)⟩

theorem Env.below {w w' : World} (h : Env w) (hw : Below w.heap.size w w') : Env w' := h.of (Within.ofBelow hw w.heap.size w.heap.size) h.lt

/-- The list of K truths. -/
def L (K : Nat) (p : Nat → Bool) : List Bool := (List.range K).map p

@[simp] theorem L_length (K : Nat) (p : Nat → Bool) : (L K p).length = K := by simp [L]

theorem L_get (K : Nat) (p : Nat → Bool) (j : Nat) : (L K p)[j]? = if j < K then some (p j) else none := by
  unfold L
  rw [List.getElem?_map]
  by_cases h : j < K
  · simp [h]
  · simp [h]

theorem L_is (K : Nat) (p : Nat → Bool) (j : Nat) (b : Bool) : (L K p)[j]? = some b ↔ j < K ∧ p j = b := by
  rw [L_get]
  by_cases h : j < K <;> simp [h]

theorem L_ext {K : Nat} {p q : Nat → Bool} (h : ∀ j, j < K → p j = q j) : L K p = L K q := by
  apply List.ext_getElem?
  intro j
  rw [L_get, L_get]
  by_cases hj : j < K
  · simp [hj, h j hj]
  · simp [hj]

theorem L_set {K : Nat} {p q : Nat → Bool} {x : Nat} {b : Bool} (hx : x < K) (hq : q x = b) (h : ∀ j, j < K → j ≠ x → p j = q j) : (L K p).set x b = L K q := by
  apply List.ext_getElem?
  intro j
  rw [List.getElem?_set, L_get, L_get]
  by_cases hj : x = j
  · subst hj; simp [hx, hq]
  · by_cases hk : j < K
    · simp [hj, hk, h j hk (fun e => hj e.symm)]
    · simp [hj, hk]

theorem L_false (K : Nat) : List.replicate K false = L K (fun _ => false) := by
  apply List.ext_getElem?
  intro j
  rw [L_get, List.getElem?_replicate]

theorem L_true (K : Nat) : (L K (fun _ => true)).count true = K := by
  have : L K (fun _ => true) = List.replicate K true := by
    apply List.ext_getElem?
    intro j
    rw [L_get, List.getElem?_replicate]
  rw [this, List.count_replicate]
  simp

/-- The least free place. -/
theorem L_least {K : Nat} {p : Nat → Bool} {x : Nat} (hx : x < K) (h0 : p x = false) (h : ∀ j, j < x → p j = true) : Least (fun i => (L K p)[i]? = some false) 0 x := by
  refine ⟨(L_is K p x false).2 ⟨hx, h0⟩, Nat.zero_le _, fun y hy _ => ?_⟩
  have hy' : (L K p)[y]? = some false := hy
  rw [L_is] at hy'
  rcases Nat.lt_or_ge y x with h1 | h1
  · rw [h y h1] at hy'; cases hy'.2
  · exact h1

/-- '1 + int(uint(n) % M)'. -/
theorem mod_up (n M : Int) (h1 : 1 ≤ M) (h2 : M ≤ 1000000) : ∃ K : Nat, wrap64 (1 + wrap64 ((IntKind.u64.wrap n).tmod M)) = (K : Int) ∧ 1 ≤ K ∧ (K : Int) ≤ M := by
  have e : (IntKind.u64.wrap n).tmod M = n % 18446744073709551616 % M := by
    rw [IntKind.wrap_u64, Int.tmod_eq_emod_of_nonneg (by omega)]
  have g1 : 0 ≤ n % 18446744073709551616 % M := Int.emod_nonneg _ (by omega)
  have g2 : n % 18446744073709551616 % M < M := Int.emod_lt_of_pos _ (by omega)
  rw [e]
  generalize n % 18446744073709551616 % M = r at g1 g2
  refine ⟨(1 + r).toNat, ?_, by omega, by omega⟩
  have w1 : wrap64 r = r := IntWalk.wrap64_in r ⟨by omega, by omega⟩
  have w2 : wrap64 (1 + r) = 1 + r := IntWalk.wrap64_in _ ⟨by omega, by omega⟩
  rw [w1, w2]
  omega

set_option maxHeartbeats 2000000 in
theorem sure_ok (w : World) (hT : Tab w) (h2 : 2 ≤ w.heap.size) : Calls Tryd.prog 24 #[] w fun e w' => e = .returned (.bool true) ∧ Below w.heap.size w w' := by
  go_enter Tryd.func24, Tryd.ntmps24
  go_wp2_with fail
  refine (new_ok 5 _ (by decide) (by decide)).mono ?_
  rintro e w1 ⟨sb, rfl, s1, b1⟩
  rw [L_false] at s1
  have t1 := hT.of (Within.ofBelow b1 w.heap.size w.heap.size) (by omega)
  have hp := s1.pos
  go_wp2_with fail
  refine (take_hit w.heap.size w1.heap.size sb 0 _ _ s1 t1 (L_least (by decide) rfl (by omega))).mono ?_
  rintro e w2 ⟨rfl, s2, v2⟩
  rw [L_set (x := 0) (b := true) (q := fun j => decide (j < 1)) (by decide) rfl (fun j _ h => by simp; omega)] at s2
  have t2 := t1.of v2 (by omega)
  go_wp2_with fail
  refine (take_hit w.heap.size w1.heap.size sb 1 _ _ s2 t2 (L_least (by decide) rfl (by simp))).mono ?_
  rintro e w3 ⟨rfl, s3, v3⟩
  rw [L_set (x := 1) (b := true) (q := fun j => decide (j < 2)) (by decide) rfl (fun j _ h => by simp; omega)] at s3
  have t3 := t2.of v3 (by omega)
  go_wp2_with fail
  refine (take_hit w.heap.size w1.heap.size sb 2 _ _ s3 t3 (L_least (by decide) rfl (by simp))).mono ?_
  rintro e w4 ⟨rfl, s4, v4⟩
  rw [L_set (x := 2) (b := true) (q := fun j => decide (j < 3)) (by decide) rfl (fun j _ h => by simp; omega)] at s4
  have t4 := t3.of v4 (by omega)
  go_wp2_with fail
  refine (free_hit w.heap.size w1.heap.size sb 1 _ _ s4 ((L_is _ _ _ _).2 ⟨by decide, rfl⟩)).mono ?_
  rintro e w5 ⟨rfl, s5, v5⟩
  rw [L_set (x := 1) (b := false) (q := fun j => decide (j < 3 ∧ j ≠ 1)) (by decide) rfl (fun j _ h => by simp [h])] at s5
  have t5 := t4.of v5 (by omega)
  go_wp2_with fail
  refine (take_hit w.heap.size w1.heap.size sb 1 _ _ s5 t5 (L_least (by decide) rfl (fun j hj => by obtain rfl : j = 0 := by omega
                                                                                                    rfl))).mono ?_
  rintro e w6 ⟨rfl, s6, v6⟩
  have hb : Below w.heap.size w w6 := b1.trans (((((v2.trans v3).trans v4).trans v5).trans v6).below (Nat.le_refl _) b1.size)
  clear s1 s2 s3 s4 s5 s6 t1 t2 t3 t4 t5 v2 v3 v4 v5 v6 b1
  go_wp2_with fail
  go_ret
  exact ⟨rfl, hb⟩

end Go.Proofs.YtddbeebnmjbfiaaDoor
