/- The degrees together: plain mathematics. -/
import Derived.Test.YtdlggnibgnflnabDoorDarts10
import Derived.Test.YtdlggnibgnflnabDoorCo10
namespace Go.Proofs.YtdlggnibgnflnabDoor
set_option linter.unusedVariables false

def allL (R : Nat → List Nat) : Nat → List Nat
  | 0 => []
  | n + 1 => allL R n ++ R n

theorem allL_len (R : Nat → List Nat) : ∀ n, (allL R n).length = sumL R n
  | 0 => rfl
  | n + 1 => by rw [allL, List.length_append, allL_len R n, sumL]

theorem allL_mem (R : Nat → List Nat) : ∀ n d, d ∈ allL R n ↔ ∃ v, v < n ∧ d ∈ R v
  | 0, d => by simp [allL]
  | n + 1, d => by
    rw [allL, List.mem_append, allL_mem R n]
    constructor
    · rintro (⟨v, hv, hd⟩ | hd)
      · exact ⟨v, by omega, hd⟩
      · exact ⟨n, by omega, hd⟩
    · rintro ⟨v, hv, hd⟩
      by_cases e : v = n
      · subst e; exact .inr hd
      · exact .inl ⟨v, by omega, hd⟩

theorem allL_nd {V E : Nat} {R : Nat → List Nat} (h : Tn V E R) : ∀ n, n ≤ V → (allL R n).Nodup
  | 0, _ => by simp [allL]
  | n + 1, hn => by
    rw [allL]
    refine List.nodup_append.2 ⟨allL_nd h n (by omega), h.nd n (by omega), fun a ha b hb e => ?_⟩
    subst e
    obtain ⟨v, hv, hd⟩ := (allL_mem R n a).1 ha
    have := h.one v n a (by omega) (by omega) hd hb
    omega

theorem laid_nd (V : Nat) (R : Nat → List Nat) : ∀ k, (laid V R k).Nodup
  | 0 => by simp [laid]
  | k + 1 => by
    by_cases h : In V R k
    · rw [laid_yes h]
      refine List.nodup_append.2 ⟨laid_nd V R k, by simp, fun a ha b hb e => ?_⟩
      subst e
      have := (mem_laid.1 ha).1
      simp at hb
      omega
    · rw [laid_no h]; exact laid_nd V R k

open Classical in
/-- How many of the first edges are laid. -/
noncomputable def cntE (V : Nat) (R : Nat → List Nat) : Nat → Nat
  | 0 => 0
  | k + 1 => cntE V R k + (if In V R (2 * k) then 1 else 0)

theorem cntE_yes {V : Nat} {R : Nat → List Nat} {k : Nat} (h : In V R (2 * k)) : cntE V R (k + 1) = cntE V R k + 1 := by rw [cntE, if_pos h]
theorem cntE_no {V : Nat} {R : Nat → List Nat} {k : Nat} (h : ¬ In V R (2 * k)) : cntE V R (k + 1) = cntE V R k := by rw [cntE, if_neg h, Nat.add_zero]
theorem cntE_le (V : Nat) (R : Nat → List Nat) : ∀ k, cntE V R k ≤ k
  | 0 => Nat.le_refl _
  | k + 1 => by
    have := cntE_le V R k
    by_cases h : In V R (2 * k)
    · rw [cntE_yes h]; omega
    · rw [cntE_no h]; omega

theorem laid_cnt {V E : Nat} {R : Nat → List Nat} (t : Tw V E R) : ∀ k, k ≤ E → (laid V R (2 * k)).length = 2 * cntE V R k
  | 0, _ => rfl
  | k + 1, hk => by
    have ih := laid_cnt t k (by omega)
    rw [show 2 * (k + 1) = 2 * k + 1 + 1 from by omega]
    by_cases h : In V R (2 * k)
    · rw [laid_yes ((t k (by omega)).1 h), laid_yes h, cntE_yes h]
      simp
      omega
    · rw [laid_no (fun q => h ((t k (by omega)).2 q)), laid_no h, cntE_no h, ih]

theorem sum_twice {V E : Nat} {R : Nat → List Nat} (h : Tn V E R) (t : Tw V E R) : sumL R V = 2 * cntE V R E := by
  rw [← laid_cnt t E (Nat.le_refl _), ← allL_len]
  refine Nat.le_antisymm (pig _ _ (allL_nd h V (Nat.le_refl _)) fun x hx => ?_) (pig _ _ (laid_nd V R _) fun x hx => ?_)
  · obtain ⟨v, hv, hd⟩ := (allL_mem R V x).1 hx
    exact mem_laid.2 ⟨h.low v x hv hd, v, hv, hd⟩
  · obtain ⟨v, hv, hd⟩ := (mem_laid.1 hx).2
    exact (allL_mem R V x).2 ⟨v, hv, hd⟩

theorem half_in {V E : Nat} {R : Nat → List Nat} (t : Tw V E R) {d : Nat} (hl : d < 2 * E) (hd : In V R d) : In V R (2 * (d / 2)) ∧ d / 2 < E := by
  refine ⟨?_, by omega⟩
  by_cases h : d % 2 = 0
  · rw [show 2 * (d / 2) = d from by omega]; exact hd
  · exact (t (d / 2) (by omega)).2 (by rw [show 2 * (d / 2) + 1 = d from by omega]; exact hd)

theorem sumL_le {V E : Nat} {R : Nat → List Nat} (h : Tn V E R) (n : Nat) (hn : n ≤ V) : sumL R n ≤ 2 * E := by
  rw [← allL_len]
  have := pig (allL R n) (List.range (2 * E)) (allL_nd h n hn) (fun x hx => by
    obtain ⟨v, hv, hd⟩ := (allL_mem R n x).1 hx
    exact List.mem_range.2 (h.low v x (by omega) hd))
  simpa using this

end Go.Proofs.YtdlggnibgnflnabDoor
