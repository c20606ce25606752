/- The reference's lists held against the sequences: in lists alone. -/
import Derived.Test.YtpelpcplagfdiaaDoorLaws4
import Derived.Test.YtpelpcplagfdiaaDoorNew4
namespace Go.Proofs.YtpelpcplagfdiaaDoor
open Go.RowKit
set_option linter.unusedVariables false

/-- All lists but two. -/
def wo (ls : List (List Nat)) (a b : Nat) : List (List Nat) := (ls.zipIdx.filter (fun p => p.2 != a && p.2 != b)).map Prod.fst

theorem wo_next (ls : List (List Nat)) (a b i : Nat) (l : List Nat) (h : ls[i]? = some l) : wo (ls.take (i + 1)) a b = wo (ls.take i) a b ++ (if i ≠ a ∧ i ≠ b then [l] else []) := by
  have hi := (List.getElem?_eq_some_iff.1 h).1
  unfold wo
  rw [List.take_add_one, h, List.zipIdx_append, List.filter_append, List.map_append]
  congr 1
  have hl : 0 + (ls.take i).length = i := by rw [List.length_take]; omega
  rw [hl]
  by_cases hc : i ≠ a ∧ i ≠ b
  · rw [if_pos hc]; simp [hc]
  · rw [if_neg hc]
    have : (i != a && i != b) = false := by
      rw [Bool.and_eq_false_iff]
      by_cases h1 : i = a
      · exact Or.inl (by simp [h1])
      · by_cases h2 : i = b
        · exact Or.inr (by simp [h2])
        · exact absurd ⟨h1, h2⟩ hc
    simp only [Option.toList_some, List.zipIdx_cons, List.zipIdx_nil, List.filter_cons, this, List.filter_nil]
    rfl

theorem wo_mem {ls : List (List Nat)} {a b : Nat} {l : List Nat} : l ∈ wo ls a b ↔ ∃ i, ls[i]? = some l ∧ i ≠ a ∧ i ≠ b := by
  unfold wo
  rw [List.mem_map]
  constructor
  · rintro ⟨⟨l', i⟩, hm, rfl⟩
    rw [List.mem_filter] at hm
    refine ⟨i, List.mem_zipIdx_iff_getElem?.1 hm.1, ?_⟩
    simpa using hm.2
  · rintro ⟨i, h1, h2, h3⟩
    refine ⟨(l, i), ?_, rfl⟩
    rw [List.mem_filter]
    exact ⟨List.mem_zipIdx_iff_getElem?.2 h1, by simp [h2, h3]⟩

theorem wo_nd {ls : List (List Nat)} {a b : Nat} (h : ls.Nodup) : (wo ls a b).Nodup := by
  unfold wo
  have hs : ((ls.zipIdx.filter (fun p => p.2 != a && p.2 != b)).map Prod.fst).Sublist (ls.zipIdx.map Prod.fst) := List.filter_sublist.map _
  rw [List.zipIdx_map_fst] at hs
  exact hs.nodup h

/-- The lists are the sequences, each once. -/
structure Tie (K : Nat) (ls : List (List Nat)) (seq : Nat → List Nat) : Prop where
  into : ∀ x, 1 ≤ x → x ≤ K → seq x ∈ ls
  out : ∀ l, l ∈ ls → ∃ x, 1 ≤ x ∧ x ≤ K ∧ l = seq x
  nd : ls.Nodup

section
variable {K : Nat} {ls : List (List Nat)} {seq seq' : Nat → List Nat}

theorem Tie.alone (t : Tie K ls seq) {i j : Nat} {l : List Nat} (hi : ls[i]? = some l) (hj : ls[j]? = some l) : i = j :=
  (List.getElem?_inj (List.getElem?_eq_some_iff.1 hi).1 t.nd).1 (hi.trans hj.symm)

theorem Tie.len (t : Tie K ls seq) : ls.length ≤ K := by
  have : ls.length ≤ ((List.range K).map (fun i => seq (i + 1))).length := t.nd.length_le_of_subset (fun l hl => by
    obtain ⟨x, h1, h2, rfl⟩ := t.out l hl
    rw [List.mem_map]
    exact ⟨x - 1, List.mem_range.2 (by omega), by rw [show x - 1 + 1 = x by omega]⟩)
  simpa using this

theorem Part.few (p : Part K seq) {x : Nat} (h1 : x ≠ 0) (h2 : x ≤ K) : (seq x).length ≤ K := by
  have hs : (seq x).length ≤ (List.range' 1 K).length := (p.nd x h1).length_le_of_subset (fun z hz => by
    have h3 := p.le x z h1 h2 hz
    have h4 := (p.mem x z h1 hz).2
    rw [List.mem_range'_1]; omega)
  simpa using hs

theorem Tie.replace (t : Tie K ls seq) (p : Part K seq) {x y i j : Nat} {nl : List (List Nat)} (hx0 : x ≠ 0) (hxK : x ≤ K) (hy0 : y ≠ 0) (hyK : y ≤ K) (hi : ls[i]? = some (seq x)) (hj : ls[j]? = some (seq y))
    (ho : ∀ z, z ∉ seq x → z ∉ seq y → seq' z = seq z) (hin : ∀ z, z ∈ seq x ∨ z ∈ seq y → seq' z ∈ nl) (hnl : ∀ l, l ∈ nl → ∃ z, (z ∈ seq x ∨ z ∈ seq y) ∧ z ∈ l ∧ l = seq' z) (hnd : nl.Nodup) : Tie K (wo ls i j ++ nl) seq' := by
  have hwo : ∀ l, l ∈ wo ls i j → ∃ z, z ≠ 0 ∧ z ≤ K ∧ l = seq z ∧ z ∉ seq x ∧ z ∉ seq y := fun l hl => by
    obtain ⟨k, hk, ki, kj⟩ := wo_mem.1 hl
    obtain ⟨z, h1, h2, rfl⟩ := t.out l (List.mem_of_getElem? hk)
    refine ⟨z, by omega, h2, rfl, fun hm => ki (t.alone hk ?_), fun hm => kj (t.alone hk ?_)⟩
    · rw [hi, (p.mem x z hx0 hm).1]
    · rw [hj, (p.mem y z hy0 hm).1]
  have hD : ∀ z, z ∈ seq x ∨ z ∈ seq y → z ≠ 0 ∧ z ≤ K := fun z hz => by
    rcases hz with hz | hz
    · exact ⟨(p.mem x z hx0 hz).2, p.le x z hx0 hxK hz⟩
    · exact ⟨(p.mem y z hy0 hz).2, p.le y z hy0 hyK hz⟩
  refine ⟨fun z h1 h2 => ?_, fun l hl => ?_, ?_⟩
  · rw [List.mem_append]
    by_cases hz : z ∈ seq x ∨ z ∈ seq y
    · exact Or.inr (hin z hz)
    · refine Or.inl (wo_mem.2 ?_)
      have hz1 : z ∉ seq x := fun c => hz (Or.inl c)
      have hz2 : z ∉ seq y := fun c => hz (Or.inr c)
      rw [ho z hz1 hz2]
      obtain ⟨k, hk⟩ := List.getElem?_of_mem (t.into z h1 h2)
      refine ⟨k, hk, fun e => ?_, fun e => ?_⟩
      · rw [e, hi] at hk
        injection hk with hk
        exact hz1 (by rw [hk]; exact p.self z (by omega))
      · rw [e, hj] at hk
        injection hk with hk
        exact hz2 (by rw [hk]; exact p.self z (by omega))
  · rcases List.mem_append.1 hl with hl | hl
    · obtain ⟨z, h1, h2, rfl, h3, h4⟩ := hwo l hl
      exact ⟨z, by omega, h2, (ho z h3 h4).symm⟩
    · obtain ⟨z, h1, _, rfl⟩ := hnl l hl
      have := hD z h1
      exact ⟨z, by omega, this.2, rfl⟩
  · rw [List.nodup_append]
    refine ⟨wo_nd t.nd, hnd, fun l h1 l' h2 e => ?_⟩
    subst e
    obtain ⟨z0, q1, q2, e0, q3, q4⟩ := hwo l h1
    obtain ⟨z, q5, q6, _⟩ := hnl l h2
    rw [e0] at q6
    have e1 := (p.mem z0 z q1 q6).1
    rcases q5 with q5 | q5
    · exact q3 (by rw [← (p.mem x z hx0 q5).1, e1]; exact p.self z0 q1)
    · exact q4 (by rw [← (p.mem y z hy0 q5).1, e1]; exact p.self z0 q1)

theorem tie_new (K : Nat) : Tie K ((List.range K).map (fun i => [i + 1])) one := by
  refine ⟨fun x h1 h2 => ?_, fun l hl => ?_, ?_⟩
  · rw [List.mem_map]
    exact ⟨x - 1, List.mem_range.2 (by omega), by rw [show x - 1 + 1 = x by omega]; rfl⟩
  · obtain ⟨i, hi, rfl⟩ := List.mem_map.1 hl
    exact ⟨i + 1, by omega, by have := List.mem_range.1 hi; omega, rfl⟩
  · unfold List.Nodup
    rw [List.pairwise_map]
    refine List.Pairwise.imp (fun {a b} h e => ?_) (List.nodup_range (n := K))
    injection e with e
    omega
end

end Go.Proofs.YtpelpcplagfdiaaDoor
