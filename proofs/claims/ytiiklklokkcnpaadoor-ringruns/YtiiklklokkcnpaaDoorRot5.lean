/- Cycles as sequences: a sequence from one of its items on, round; split, merged, turned. -/
import Derived.Test.YtiiklklokkcnpaaDoorLaws4
namespace Go.Proofs.YtiiklklokkcnpaaDoor
open Go.RowKit
set_option linter.unusedVariables false

/-- The list from x on, and round. -/
def rot (l : List Nat) (x : Nat) : List Nat := l.dropWhile (fun y => y != x) ++ l.takeWhile (fun y => y != x)

theorem until_split {A B : List Nat} {x : Nat} (h : x ∉ A) : (A ++ x :: B).takeWhile (fun y => y != x) = A ∧ (A ++ x :: B).dropWhile (fun y => y != x) = x :: B := by
  have hp : ∀ a ∈ A, (fun y => y != x) a = true := fun a ha => by simp; exact fun e => h (e ▸ ha)
  rw [List.takeWhile_append_of_pos hp, List.dropWhile_append_of_pos hp]
  simp

theorem rot_split {A B : List Nat} {x : Nat} (h : x ∉ A) : rot (A ++ x :: B) x = x :: (B ++ A) := by
  unfold rot
  rw [(until_split h).1, (until_split h).2]
  rfl

theorem rot_mem {l : List Nat} {x y : Nat} : y ∈ rot l x ↔ y ∈ l := by
  unfold rot
  rw [List.mem_append, or_comm, ← List.mem_append, List.takeWhile_append_dropWhile]

theorem rot_len (l : List Nat) (x : Nat) : (rot l x).length = l.length := by
  unfold rot
  rw [List.length_append, Nat.add_comm, ← List.length_append, List.takeWhile_append_dropWhile]

theorem rot_nd {l : List Nat} {x : Nat} (h : l.Nodup) : (rot l x).Nodup := by
  have hp : (rot l x).Perm l := by
    unfold rot
    refine List.perm_append_comm.trans ?_
    rw [List.takeWhile_append_dropWhile]
  exact hp.nodup_iff.2 h

theorem rot_head {l : List Nat} {x : Nat} (h : x ∈ l) : ∃ T, rot l x = x :: T := by
  obtain ⟨A, B, rfl, hA⟩ := List.eq_append_cons_of_mem h
  exact ⟨_, rot_split hA⟩

theorem rot_at {l : List Nat} {x i : Nat} (hn : l.Nodup) (hi : l[i]? = some x) : rot l x = l.drop i ++ l.take i := by
  obtain ⟨hlt, hx⟩ := List.getElem?_eq_some_iff.1 hi
  have e : l = l.take i ++ x :: l.drop (i + 1) := by
    rw [← hx, ← List.drop_eq_getElem_cons hlt, List.take_append_drop]
  have hA : x ∉ l.take i := fun hm => by
    rw [e, List.nodup_append] at hn
    exact hn.2.2 x hm x List.mem_cons_self rfl
  have := rot_split (B := l.drop (i + 1)) hA
  rw [← e] at this
  rw [this, List.drop_eq_getElem_cons hlt, hx]
  rfl

theorem rot_get {l : List Nat} {x i j : Nat} (hn : l.Nodup) (hi : l[i]? = some x) (hj : j < l.length) : (rot l x)[j]? = l[(i + j) % l.length]? := by
  have hlt := (List.getElem?_eq_some_iff.1 hi).1
  rw [rot_at hn hi, List.getElem?_append, List.length_drop]
  split
  · rw [List.getElem?_drop, Nat.mod_eq_of_lt (by omega)]
  · rw [List.getElem?_take, if_pos (by omega), Nat.mod_eq_sub_mod (by omega), Nat.mod_eq_of_lt (by omega)]
    congr 1; omega

theorem rot_self {l : List Nat} {x : Nat} {T : List Nat} (h : l = x :: T) : rot l x = l := by
  rw [h]
  have := rot_split (A := []) (B := T) (x := x) (by simp)
  simpa using this

theorem rot_rot {l : List Nat} {x y : Nat} (hn : l.Nodup) (hx : x ∈ l) (hy : y ∈ l) : rot (rot l x) y = rot l y := by
  obtain ⟨i, hi⟩ := List.getElem?_of_mem hx
  obtain ⟨p, hp⟩ := List.getElem?_of_mem (rot_mem (x := x).2 hy)
  have hil := (List.getElem?_eq_some_iff.1 hi).1
  have hpl := (List.getElem?_eq_some_iff.1 hp).1
  rw [rot_len] at hpl
  have hq := hp
  rw [rot_get hn hi hpl] at hq
  apply List.ext_getElem?
  intro j
  by_cases hj : j < l.length
  · rw [rot_get (rot_nd hn) hp (by rw [rot_len]; exact hj), rot_len, rot_get hn hi (Nat.mod_lt _ (by omega)), rot_get hn hq hj]
    congr 1
    rw [Nat.add_mod_mod, Nat.mod_add_mod, Nat.add_assoc]
  · rw [List.getElem?_eq_none (by rw [rot_len, rot_len]; omega), List.getElem?_eq_none (by rw [rot_len]; omega)]

/-- The sequences when one begins with x. -/
def turnS (seq : Nat → List Nat) (x : Nat) : Nat → List Nat := fun y => if y ∈ seq x then rot (seq x) x else seq y

/-- When a cycle is split: from x on up to y, and from y on. -/
def splS (seq : Nat → List Nat) (x y : Nat) : Nat → List Nat := cutS seq ((rot (seq x) x).takeWhile (fun z => z != y)) y ((rot (seq x) x).dropWhile (fun z => z != y)).tail

/-- When two are merged. -/
def mrgS (seq : Nat → List Nat) (x y : Nat) : Nat → List Nat := fun z => if z ∈ seq x ∨ z ∈ seq y then rot (seq x) x ++ rot (seq y) y else seq z

section
variable {n : Nat} {seq : Nat → List Nat}

theorem Part.other (h : Part n seq) {x y : Nat} (hx : x ≠ 0) (hy : y ≠ 0) (hne : seq x ≠ seq y) : y ∉ seq x := fun hm => hne (h.mem x y hx hm).1.symm

theorem Part.one (h : Part n seq) {x y : Nat} (hx : x ≠ 0) (hy : y ≠ 0) : seq x = seq y ↔ y ∈ seq x := ⟨fun e => by rw [e]; exact h.self y hy, fun hm => (h.mem x y hx hm).1.symm⟩

theorem splS_of {x y : Nat} {P Q : List Nat} (e : rot (seq x) x = P ++ y :: Q) (hP : y ∉ P) : splS seq x y = cutS seq P y Q := by
  unfold splS
  rw [e, (until_split hP).1, (until_split hP).2]
  rfl

theorem turnS_self (h : Part n seq) {x : Nat} (hx : x ≠ 0) : turnS seq x x = rot (seq x) x := by
  unfold turnS; rw [if_pos (h.self x hx)]

theorem turnS_in {x y : Nat} (hy : y ∈ seq x) : turnS seq x y = rot (seq x) x := by
  unfold turnS; rw [if_pos hy]

theorem turnS_out {x y : Nat} (hy : y ∉ seq x) : turnS seq x y = seq y := by
  unfold turnS; rw [if_neg hy]

/-- It begins with x already. -/
theorem turnS_at (h : Part n seq) {x : Nat} {B : List Nat} (hx : x ≠ 0) (e : seq x = x :: B) : turnS seq x = seq := by
  funext y
  by_cases hy : y ∈ seq x
  · rw [turnS_in hy, rot_self e, (h.mem x y hx hy).1]
  · rw [turnS_out hy]

theorem cutS_nil2 (h : Part n seq) {x : Nat} {B : List Nat} (hx : x ≠ 0) (e : seq x = x :: B) : cutS seq [] x B = seq := by
  funext y
  unfold cutS
  rw [if_neg (by simp)]
  split
  · next hm => rw [← e] at hm ⊢; exact (h.mem x y hx hm).1.symm
  · rfl

/-- Cut ahead of x, and what stood there joined behind. -/
theorem turnS_cut (h : Part n seq) {x f : Nat} {A B : List Nat} (hx : x ≠ 0) (e : seq x = A ++ x :: B) (hf : f ∈ A) : joinS (cutS seq A x B) x f = turnS seq x ∧ cutS seq A x B x ≠ cutS seq A x B f := by
  have hn := h.nd x hx
  rw [e, List.nodup_append] at hn
  have hA : x ∉ A := fun hm => hn.2.2 x hm x List.mem_cons_self rfl
  have e1 : cutS seq A x B x = x :: B := by unfold cutS; rw [if_neg hA, if_pos List.mem_cons_self]
  have e2 : cutS seq A x B f = A := by unfold cutS; rw [if_pos hf]
  refine ⟨?_, ?_⟩
  · funext y
    unfold joinS
    rw [e1, e2]
    have hm : (y ∈ x :: B ∨ y ∈ A) ↔ y ∈ seq x := by rw [e, List.mem_append, or_comm]
    by_cases hy : y ∈ seq x
    · rw [if_pos (hm.2 hy), turnS_in hy, e, rot_split hA]; rfl
    · have hy' := fun c => hy (hm.1 c)
      rw [if_neg hy', turnS_out hy]
      unfold cutS
      rw [if_neg (fun c => hy' (Or.inr c)), if_neg (fun c => hy' (Or.inl c))]
  · rw [e1, e2]
    intro c
    exact hA (c ▸ List.mem_cons_self)

theorem split_is (h : Part n seq) {x y : Nat} {P Q : List Nat} (hx : x ≠ 0) (e : rot (seq x) x = P ++ y :: Q) : cutS (turnS seq x) P y Q = splS seq x y := by
  have hn := rot_nd (x := x) (h.nd x hx)
  rw [e, List.nodup_append] at hn
  have hP : y ∉ P := fun hm => hn.2.2 y hm y List.mem_cons_self rfl
  rw [splS_of e hP]
  funext z
  unfold cutS
  by_cases h1 : z ∈ P
  · rw [if_pos h1, if_pos h1]
  · rw [if_neg h1, if_neg h1]
    by_cases h2 : z ∈ y :: Q
    · rw [if_pos h2, if_pos h2]
    · rw [if_neg h2, if_neg h2, turnS_out]
      intro hm
      have := rot_mem (x := x).2 hm
      rw [e, List.mem_append] at this
      exact this.elim h1 h2

theorem merge_is (h : Part n seq) {x y : Nat} (hx : x ≠ 0) (hy : y ≠ 0) (hne : seq x ≠ seq y) : joinS (turnS (turnS seq x) y) x y = mrgS seq x y ∧ turnS (turnS seq x) y x ≠ turnS (turnS seq x) y y := by
  have hyx : y ∉ seq x := h.other hx hy hne
  have hxy : x ∉ seq y := h.other hy hx (Ne.symm hne)
  have e0 : turnS seq x y = seq y := turnS_out hyx
  have e1 : turnS (turnS seq x) y y = rot (seq y) y := by rw [turnS_in (by rw [e0]; exact h.self y hy), e0]
  have e2 : turnS (turnS seq x) y x = rot (seq x) x := by rw [turnS_out (by rw [e0]; exact hxy), turnS_self h hx]
  refine ⟨?_, ?_⟩
  · funext z
    unfold joinS mrgS
    rw [e1, e2]
    by_cases hz : z ∈ seq x ∨ z ∈ seq y
    · rw [if_pos hz, if_pos (hz.imp rot_mem.2 rot_mem.2)]
    · rw [if_neg hz, if_neg (fun c => hz (c.imp rot_mem.1 rot_mem.1)), turnS_out (by rw [e0]; exact fun c => hz (Or.inr c)), turnS_out (fun c => hz (Or.inl c))]
  · rw [e1, e2]
    intro c
    have : x ∈ rot (seq x) x := rot_mem.2 (h.self x hx)
    rw [c] at this
    exact hxy (rot_mem.1 this)

theorem splS_first (h : Part n seq) {x y : Nat} {P Q : List Nat} (hx : x ≠ 0) (e : rot (seq x) x = P ++ y :: Q) (z : Nat) (hz : z ∈ P) : splS seq x y z = P := by
  have hn := rot_nd (x := x) (h.nd x hx)
  rw [e, List.nodup_append] at hn
  rw [splS_of e (fun hm => hn.2.2 y hm y List.mem_cons_self rfl)]
  unfold cutS
  rw [if_pos hz]

theorem splS_second (h : Part n seq) {x y : Nat} {P Q : List Nat} (hx : x ≠ 0) (e : rot (seq x) x = P ++ y :: Q) (z : Nat) (hz : z ∈ y :: Q) : splS seq x y z = y :: Q := by
  have hn := rot_nd (x := x) (h.nd x hx)
  rw [e, List.nodup_append] at hn
  rw [splS_of e (fun hm => hn.2.2 y hm y List.mem_cons_self rfl)]
  unfold cutS
  rw [if_neg (fun hm => hn.2.2 z hm z hz rfl), if_pos hz]

/-- What the second of two items splits. -/
theorem rot_parts (h : Part n seq) {x y : Nat} (hx : x ≠ 0) (hne : x ≠ y) (hy : y ∈ seq x) : ∃ P Q, rot (seq x) x = x :: P ++ y :: Q ∧ y ∉ x :: P := by
  obtain ⟨A, B, e, hA⟩ := List.eq_append_cons_of_mem (rot_mem (x := x).2 hy)
  obtain ⟨T, hT⟩ := rot_head (h.self x hx)
  cases A with
  | nil => rw [e] at hT; injection hT with hT _; exact absurd hT.symm hne
  | cons a A =>
    have : a = x := by rw [e] at hT; injection hT
    subst this
    exact ⟨A, B, e, hA⟩
end

end Go.Proofs.YtiiklklokkcnpaaDoor
