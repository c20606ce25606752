/- Least trees: what the laws ask: plain mathematics. -/
import Derived.Test.YtnlbpjppkfenkaaSum9
namespace Go.Proofs.Ytnlbpjppkfenkaa
set_option linter.unusedVariables false

theorem cnt_filter (p : Nat → Bool) : ∀ n, cnt p n = ((List.range n).filter p).length
  | 0 => rfl
  | n + 1 => by
    rw [List.range_succ, List.filter_append, List.length_append, ← cnt_filter p n]
    show cnt p n + (if p n = true then 1 else 0) = _
    cases h : p n <;> simp [h]

section
variable {A B : Nat → Nat} {m : Nat} {L : Nat → Nat → Prop} {so : List Nat}

/-- The marks, by their places, are those that join. -/
theorem So.marked (l : Lin m L) (h : So m L so) : ((List.range m).filter (fun i => decide (i ∈ kr A B (fun x => x) so))).Perm (kr A B (fun x => x) so) := by
  have hn : (kr A B (fun x => x) so).Nodup := (kr_sub _ so).nodup (h.nodup l)
  have hn2 : ((List.range m).filter (fun i => decide (i ∈ kr A B (fun x => x) so))).Nodup := List.Nodup.sublist List.filter_sublist List.nodup_range
  refine (List.perm_ext_iff_of_nodup hn2 hn).2 (fun i => ?_)
  rw [List.mem_filter, List.mem_range]
  constructor
  · intro h1; simpa using h1.2
  · intro h1; exact ⟨((h.kr_mem l).1 h1).1, by simpa using h1⟩

theorem So.many (l : Lin m L) (h : So m L so) : cnt (fun i => decide (i ∈ kr A B (fun x => x) so)) m = (kr A B (fun x => x) so).length := by
  rw [cnt_filter]
  exact (h.marked l).length_eq

theorem So.joins {n : Nat} (l : Lin m L) (h : So m L so) (hn : ∀ i, i < m → A i < n ∧ B i < n) : cnt (fun i => decide (i ∈ kr A B (fun x => x) so)) m = (kr A B (fun x => x) (List.range m)).length := by
  rw [h.many l]
  exact kr_many (n := n) (fun i => by rw [h.mem, List.mem_range]) (fun i hi => hn i ((h.mem i).1 hi))

/-- A loop is never marked. -/
theorem So.loop (l : Lin m L) (h : So m L so) {i : Nat} (he : A i = B i) : i ∉ kr A B (fun x => x) so := fun hi => by
  have := ((h.kr_mem l).1 hi).2
  unfold Mkd at this
  rw [he] at this
  exact this (.refl _)

theorem kr_range_same {j : Nat} (h : jl A B (fun x => x) (List.range j) (A j) = jl A B (fun x => x) (List.range j) (B j)) : kr A B (fun x => x) (List.range (j + 1)) = kr A B (fun x => x) (List.range j) := by
  rw [List.range_succ, kr_append]
  conv => lhs; arg 2; unfold kr
  rw [if_pos h]
  simp [kr]

theorem kr_range_new {j : Nat} (h : jl A B (fun x => x) (List.range j) (A j) ≠ jl A B (fun x => x) (List.range j) (B j)) : kr A B (fun x => x) (List.range (j + 1)) = kr A B (fun x => x) (List.range j) ++ [j] := by
  rw [List.range_succ, kr_append]
  conv => lhs; arg 2; unfold kr
  rw [if_neg h]
  rfl

theorem jl_range (f : Nat → Nat) (j : Nat) : jl A B f (List.range (j + 1)) = jn (jl A B f (List.range j)) (A j) (B j) := by
  rw [List.range_succ, jl_append]; rfl

/-- The marked ones up to a place. -/
def mk9 (p : Nat → Bool) (j : Nat) : List Nat := (List.range j).filter p

theorem mk9_yes {p : Nat → Bool} {j : Nat} (h : p j = true) : mk9 p (j + 1) = mk9 p j ++ [j] := by
  unfold mk9; rw [List.range_succ, List.filter_append]; simp [h]
theorem mk9_no {p : Nat → Bool} {j : Nat} (h : p j = false) : mk9 p (j + 1) = mk9 p j := by
  unfold mk9; rw [List.range_succ, List.filter_append]; simp [h]

theorem mk9_split {p : Nat → Bool} {j m : Nat} (hj : j < m) (h : p j = true) : ∃ r, mk9 p m = mk9 p j ++ j :: r := by
  induction m with
  | zero => omega
  | succ m ih =>
    by_cases e : j = m
    · subst e; exact ⟨[], mk9_yes h⟩
    · obtain ⟨r, hr⟩ := ih (by omega)
      cases hp : p m
      · exact ⟨r, by rw [mk9_no hp]; exact hr⟩
      · exact ⟨r ++ [m], by rw [mk9_yes hp, hr]; simp⟩

/-- Each marked one joins when its turn comes, by places too. -/
theorem So.turn {n : Nat} (l : Lin m L) (h : So m L so) (hn : ∀ i, i < m → A i < n ∧ B i < n) {p : Nat → Bool} (hp : ∀ i, p i = decide (i ∈ kr A B (fun x => x) so)) {j : Nat} (hj : j < m) (hpj : p j = true) : jl A B (fun x => x) (mk9 p j) (A j) ≠ jl A B (fun x => x) (mk9 p j) (B j) := by
  intro he
  have hpp : p = fun i => decide (i ∈ kr A B (fun x => x) so) := funext hp
  have hf : Fst A B n (kr A B (fun x => x) so) := kr_forest (fun i hi => hn i ((h.mem i).1 hi))
  have hf2 : Fst A B n (mk9 p m) := hf.perm (by unfold mk9; rw [hpp]; exact (h.marked l).symm)
  have hall := hf2.all (fun i hi => hn i (by unfold mk9 at hi; exact List.mem_range.1 (List.mem_filter.1 hi).1))
  obtain ⟨r, hr⟩ := mk9_split hj hpj
  rw [hr, kr_append] at hall
  have h1 := (kr_sub (A := A) (B := B) (fun x => x) (mk9 p j)).length_le
  have h2 := (kr_sub (A := A) (B := B) (jl A B (fun x => x) (mk9 p j)) r).length_le
  have h3 := congrArg List.length hall
  conv at h3 => lhs; rw [List.length_append]; arg 2; unfold kr
  rw [if_pos he] at h3
  simp only [List.length_append, List.length_cons] at h3
  omega

/-- The marked ones join all that all join. -/
theorem So.allLab (l : Lin m L) (h : So m L so) {p : Nat → Bool} (hp : ∀ i, p i = decide (i ∈ kr A B (fun x => x) so)) : jl A B (fun x => x) (mk9 p m) = jl A B (fun x => x) (List.range m) := by
  have hpp : p = fun i => decide (i ∈ kr A B (fun x => x) so) := funext hp
  have h1 : jl A B (fun x => x) (mk9 p m) = jl A B (fun x => x) (kr A B (fun x => x) so) := lab_mem (fun i => by
    unfold mk9; rw [hpp]; exact (h.marked l).mem_iff)
  rw [h1, jl_kr]
  exact lab_mem (fun i => by rw [h.mem, List.mem_range])

theorem So.total {W : Nat → Int} (l : Lin m L) (h : So m L so) {p : Nat → Bool} (hp : ∀ i, p i = decide (i ∈ kr A B (fun x => x) so)) : wsum W (mk9 p m) = wsum W (kr A B (fun x => x) so) := by
  have hpp : p = fun i => decide (i ∈ kr A B (fun x => x) so) := funext hp
  unfold mk9
  rw [hpp]
  exact isum_perm ((h.marked l).map W)

/-- The lesser marked ones join the ends of one that is not marked. -/
theorem So.ring (l : Lin m L) (h : So m L so) {i : Nat} (hi : i < m) (hn : i ∉ kr A B (fun x => x) so) {q : Nat → Bool} (hq : ∀ j, j < m → (q j = true ↔ j ∈ kr A B (fun x => x) so ∧ L j i)) : jl A B (fun x => x) (mk9 q m) (A i) = jl A B (fun x => x) (mk9 q m) (B i) := by
  rw [lab_iff]
  refine (l.by_marked h hi (fun hm => hn ((h.kr_mem l).2 ⟨hi, hm⟩))).mono (fun j hj => ?_)
  unfold mk9
  rw [List.mem_filter, List.mem_range]
  exact ⟨hj.1, (hq j hj.1).2 ⟨(h.kr_mem l).2 ⟨hj.1, hj.2.2⟩, hj.2.1⟩⟩
end

theorem jl_le {A B : Nat → Nat} (is : List Nat) (x : Nat) : jl A B (fun x => x) is x ≤ x := (jl_lab Lab.start is).le x

end Go.Proofs.Ytnlbpjppkfenkaa
