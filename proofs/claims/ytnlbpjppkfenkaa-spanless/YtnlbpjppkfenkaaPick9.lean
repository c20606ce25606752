/- Edges picked one by one: plain mathematics; how many groups a row of labels has. -/
import Derived.Test.YtnlbpjppkfenkaaRef9
import Derived.Test.YtnlbpjppkfenkaaMore9
namespace Go.Proofs.Ytnlbpjppkfenkaa
open Go.RowKit
set_option linter.unusedVariables false

section
variable {A B : Nat → Nat} {m : Nat} {L : Nat → Nat → Prop}

theorem kr_idle {f : Nat → Nat} : ∀ (is : List Nat), (∀ i, i ∈ is → f (A i) = f (B i)) → kr A B f is = [] ∧ jl A B f is = f
  | [], _ => ⟨rfl, rfl⟩
  | i :: is, h => by
    have h1 := h i List.mem_cons_self
    have ih := kr_idle is (fun k hk => h k (List.mem_cons_of_mem _ hk))
    unfold kr jl
    rw [if_pos h1, jn_same h1]
    exact ih

/-- The least one that joins is the next one. -/
theorem pick {so a b : List Nat} (l : Lin m L) (h : So m L so) (e : so = a ++ b) {t : Nat} (ht : t < m) (hj : jl A B (fun x => x) a (A t) ≠ jl A B (fun x => x) a (B t)) (hmin : ∀ i, i < m → jl A B (fun x => x) a (A i) ≠ jl A B (fun x => x) a (B i) → i = t ∨ L t i) :
    ∃ a' b', so = a' ++ b' ∧ kr A B (fun x => x) a' = kr A B (fun x => x) a ++ [t] ∧ jl A B (fun x => x) a' = jn (jl A B (fun x => x) a) (A t) (B t) := by
  have hts := (h.mem t).2 ht
  rw [e] at hts
  rcases List.mem_append.1 hts with h1 | h1
  · exact absurd (jl_edge a h1) hj
  · obtain ⟨b1, b2, rfl⟩ := List.append_of_mem h1
    have hord := h.ord
    rw [e, List.pairwise_append] at hord
    obtain ⟨_, h3, _⟩ := hord
    rw [List.pairwise_append] at h3
    obtain ⟨_, _, h4⟩ := h3
    have hidle : ∀ i, i ∈ b1 → jl A B (fun x => x) a (A i) = jl A B (fun x => x) a (B i) := fun i hi => by
      have hit := h4 i hi t List.mem_cons_self
      refine Classical.not_not.1 (fun hne => ?_)
      have him : i < m := (h.mem i).1 (by rw [e]; exact List.mem_append_right _ (List.mem_append_left _ hi))
      rcases hmin i him hne with rfl | h5
      · exact l.irr _ hit
      · exact l.irr _ (l.tr _ _ _ hit h5)
    obtain ⟨k1, k2⟩ := kr_idle b1 hidle
    refine ⟨a ++ b1 ++ [t], b2, by rw [e]; simp, ?_, ?_⟩
    · rw [kr_append, kr_append, k1, jl_append, k2, List.append_nil]
      congr 1
      unfold kr
      rw [if_neg hj]
      rfl
    · rw [jl_append, jl_append, k2]
      rfl

theorem pick_none {so a b : List Nat} (h : So m L so) (e : so = a ++ b) (hn : ∀ i, i < m → jl A B (fun x => x) a (A i) = jl A B (fun x => x) a (B i)) : kr A B (fun x => x) so = kr A B (fun x => x) a := by
  obtain ⟨k1, _⟩ := kr_idle (A := A) (B := B) b (fun i hi => hn i ((h.mem i).1 (by rw [e]; exact List.mem_append_right _ hi)))
  rw [e, kr_append, k1, List.append_nil]
end

/-- The order that is asked for. -/
def Lg (gr : Bool) (W : Nat → Int) : Nat → Nat → Prop := if gr then Gt W else Lw W

theorem Lg.lin (gr : Bool) (W : Nat → Int) (m : Nat) : Lin m (Lg gr W) := by
  cases gr
  · exact Lw.lin W m
  · exact Gt.lin W m

open Classical in
theorem Lg.less (gr : Bool) (W : Nat → Int) {i k : Nat} (h : i ≠ k) : (decide (Lw W i k) != gr) = decide (Lg gr W i k) := by
  cases gr
  · unfold Lg; simp
  · unfold Lg Gt
    simp only [if_true]
    by_cases h1 : Lw W i k
    · have h2 : ¬ Lw W k i := fun h2 => (Lw.lin W (i + k + 1)).irr _ ((Lw.lin W (i + k + 1)).tr _ _ _ h1 h2)
      simp [h1, h2]
    · have h2 : Lw W k i := ((Lw.lin W (i + k + 1)).tot i k (by omega) (by omega) h).resolve_left h1
      simp [h1, h2]

/-- How many labels are their own, as the row lies. -/
def fixM (n : Nat) (w : World) (v : Value) : Nat := cnt (fun j => match v with
  | .slice (some a) _ _ => match w.cell? ⟨a.block, j, none⟩ with
    | some (.int _ z) => z == (j : Int)
    | _ => false
  | _ => false) n

theorem fixM_is {n : Nat} {w : World} {v : Value} {f : Nat → Nat} (h : Ls w v n f) : fixM n w v = fix n f := by
  obtain ⟨b, cap, rfl, _, _, _, _, _, hc⟩ := h
  unfold fixM fix
  refine cnt_congr (fun j hj => ?_)
  simp only [hc j hj]
  rw [Bool.eq_iff_iff]
  simp
  omega

end Go.Proofs.Ytnlbpjppkfenkaa
