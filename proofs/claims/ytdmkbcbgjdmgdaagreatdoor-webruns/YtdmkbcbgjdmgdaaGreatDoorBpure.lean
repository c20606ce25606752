/- Trees told by what each hangs on; roads: plain facts, of no program. Faces hung together by ties, and the woods that keep them: plain facts, of no program. A search over faces by ties: plain facts, of no program. Faces strung as paths, ties as nodes between them: their links, and what is done to them: plain facts, of no program. A face turned, split, merged: its links: plain facts, of no program. Faces as cycles: the same from each item on; split and merged: plain facts, of no program. -/
import Derived.Test.YtdmkbcbgjdmgdaaGreatDoorBseqd
import Derived.WalkKit
namespace Go.Proofs.YtdmkbcbgjdmgdaaGreatDoor
open Go.RowKit
set_option linter.unusedVariables false

/-- One behind another, the first one hanging on q. -/
def Chn (par : Nat → Nat) : Nat → List Nat → Prop
  | _, [] => True
  | q, y :: l => par y = q ∧ Chn par y l

def lst : Nat → List Nat → Nat
  | q, [] => q
  | _, y :: l => lst y l

theorem lst_app (q x : Nat) : ∀ l, lst q (l ++ [x]) = x
  | [] => rfl
  | y :: l => lst_app y x l

theorem lst_cat (q : Nat) : ∀ a b, lst q (a ++ b) = lst (lst q a) b
  | [], _ => rfl
  | y :: a, b => lst_cat y a b

theorem lst_mem (q : Nat) : ∀ l, l ≠ [] → lst q l ∈ l
  | [], h => absurd rfl h
  | [y], _ => by simp [lst]
  | y :: z :: l, _ => List.mem_cons_of_mem _ (lst_mem y (z :: l) (by simp))

theorem lst_any (q q' : Nat) : ∀ l, l ≠ [] → lst q l = lst q' l
  | [], h => absurd rfl h
  | _ :: _, _ => rfl

theorem split_last (q : Nat) : ∀ l, l ≠ [] → ∃ l0, l = l0 ++ [lst q l]
  | [], h => absurd rfl h
  | [y], _ => ⟨[], rfl⟩
  | y :: z :: l, _ => by
    obtain ⟨l0, h⟩ := split_last y (z :: l) (by simp)
    exact ⟨y :: l0, by rw [show lst q (y :: z :: l) = lst y (z :: l) from rfl, List.cons_append]; exact congrArg _ h⟩

variable {par par' : Nat → Nat}

theorem chn_append {q : Nat} : ∀ {a b : List Nat}, Chn par q (a ++ b) ↔ Chn par q a ∧ Chn par (lst q a) b
  | [], b => by simp [Chn, lst]
  | y :: a, b => by
    simp only [List.cons_append, Chn, lst]
    rw [chn_append (q := y) (a := a) (b := b)]
    exact and_assoc.symm

theorem chn_congr {q : Nat} : ∀ {l : List Nat}, (∀ y, y ∈ l → par' y = par y) → Chn par q l → Chn par' q l
  | [], _, _ => trivial
  | y :: l, h, hc => ⟨(h y List.mem_cons_self).trans hc.1, chn_congr (fun z hz => h z (List.mem_cons_of_mem _ hz)) hc.2⟩

/-- How deep a node hangs. -/
def Dp (par : Nat → Nat) : Nat → Nat → Prop
  | 0, x => x = 0
  | k + 1, x => x ≠ 0 ∧ Dp par k (par x)

def Acy (par : Nat → Nat) : Prop := ∀ x, ∃ k, Dp par k x

theorem Dp.uniq : ∀ {k j x : Nat}, Dp par k x → Dp par j x → k = j
  | 0, 0, _, _, _ => rfl
  | 0, _ + 1, _, h, g => absurd h g.1
  | _ + 1, 0, _, h, g => absurd g h.1
  | k + 1, j + 1, x, h, g => by rw [Dp.uniq h.2 g.2]

theorem Dp.chn : ∀ {l : List Nat} {q k : Nat}, Dp par k q → (∀ y, y ∈ l → y ≠ 0) → Chn par q l → ∀ y, y ∈ l → ∃ j, k < j ∧ Dp par j y
  | [], _, _, _, _, _, y, hy => by cases hy
  | z :: l, q, k, hq, h0, hc, y, hy => by
    have hz : Dp par (k + 1) z := ⟨h0 z List.mem_cons_self, by rw [hc.1]; exact hq⟩
    rcases List.mem_cons.1 hy with rfl | hy
    · exact ⟨k + 1, by omega, hz⟩
    · obtain ⟨j, h1, h2⟩ := Dp.chn hz (fun y hy => h0 y (List.mem_cons_of_mem _ hy)) hc.2 y hy
      exact ⟨j, by omega, h2⟩

/-- What a chain hangs on is not of it. -/
theorem Acy.not_mem (h : Acy par) {q : Nat} {l : List Nat} (h0 : ∀ y, y ∈ l → y ≠ 0) (hc : Chn par q l) : q ∉ l := fun hm => by
  obtain ⟨k, hk⟩ := h q
  obtain ⟨j, h1, h2⟩ := hk.chn h0 hc q hm
  have := hk.uniq h2
  omega

theorem Acy.nodup (h : Acy par) : ∀ {l : List Nat} {q : Nat}, (∀ y, y ∈ l → y ≠ 0) → Chn par q l → l.Nodup
  | [], _, _, _ => List.nodup_nil
  | y :: l, _, h0, hc => by
    have h0' : ∀ z, z ∈ l → z ≠ 0 := fun z hz => h0 z (List.mem_cons_of_mem _ hz)
    exact List.nodup_cons.2 ⟨h.not_mem h0' hc.2, h.nodup h0' hc.2⟩

/-- Two nodes are linked. -/
def Adj (par : Nat → Nat) (x y : Nat) : Prop := x ≠ 0 ∧ y ≠ 0 ∧ (par x = y ∨ par y = x)

theorem Adj.symm {x y : Nat} (h : Adj par x y) : Adj par y x := ⟨h.2.1, h.1, h.2.2.symm⟩

theorem Acy.ne (h : Acy par) {x : Nat} (hx : x ≠ 0) : par x ≠ x := fun e => h.not_mem (q := x) (l := [x]) (by simp; exact hx) ⟨e, trivial⟩ List.mem_cons_self

/-- The last node's chain. -/
theorem chn_at {q y : Nat} {A B : List Nat} (h : Chn par q (A ++ y :: B)) : par y = lst q A := (chn_append.1 h).2.1

/-- The chain of a node, from the top on. -/
theorem Dp.road : ∀ {k x : Nat}, Dp par k x → x ≠ 0 → ∃ l, Chn par 0 (l ++ [x]) ∧ (∀ y, y ∈ l → y ≠ 0)
  | 0, _, h, hx => absurd h hx
  | k + 1, x, h, hx => by
    by_cases hp : par x = 0
    · exact ⟨[], ⟨hp, trivial⟩, by simp⟩
    · obtain ⟨l, h1, h2⟩ := Dp.road h.2 hp
      refine ⟨l ++ [par x], chn_append.2 ⟨h1, ?_, trivial⟩, ?_⟩
      · rw [lst_app]
      · intro y hy
        rcases List.mem_append.1 hy with hy | hy
        · exact h2 y hy
        · rw [List.mem_singleton] at hy; rw [hy]; exact hp

/-- Chains from the top on to one node are the same. -/
theorem Dp.same : ∀ {k x : Nat}, Dp par k x → x ≠ 0 → ∀ {a b : List Nat}, (∀ y, y ∈ a → y ≠ 0) → (∀ y, y ∈ b → y ≠ 0) → Chn par 0 (a ++ [x]) → Chn par 0 (b ++ [x]) → a = b
  | 0, x, h, hx, a, b, _, _, ha, hb => absurd h hx
  | k + 1, x, h, hx, a, b, na, nb, ha, hb => by
    have h1 := (chn_append.1 ha).2.1
    have h2 := (chn_append.1 hb).2.1
    by_cases hp : par x = 0
    · have key : ∀ c : List Nat, (∀ y, y ∈ c → y ≠ 0) → par x = lst 0 c → c = [] := fun c hc h3 => by
        cases c with
        | nil => rfl
        | cons z c => exact absurd (h3.symm.trans hp) (hc _ (lst_mem 0 (z :: c) (by simp)))
      rw [key a na h1, key b nb h2]
    · have key : ∀ c : List Nat, Chn par 0 (c ++ [x]) → ∃ c0, c = c0 ++ [par x] := fun c hc => by
        have h3 := (chn_append.1 hc).2.1
        cases c with
        | nil => exact absurd h3 hp
        | cons z c =>
          obtain ⟨c0, e⟩ := split_last 0 (z :: c) (by simp)
          exact ⟨c0, by rw [h3]; exact e⟩
      obtain ⟨a0, rfl⟩ := key a ha
      obtain ⟨b0, rfl⟩ := key b hb
      rw [Dp.same h.2 hp (fun y hy => na y (List.mem_append.2 (Or.inl hy))) (fun y hy => nb y (List.mem_append.2 (Or.inl hy))) (chn_append.1 ha).1 (chn_append.1 hb).1]

/-- The one that a list tells ahead of another one. -/
def prd : Nat → List Nat → Nat → Nat
  | _, [], _ => 0
  | q, z :: l, y => if y = z then q else prd z l y

theorem chn_prd : ∀ {l : List Nat} {q : Nat}, l.Nodup → Chn (prd q l) q l
  | [], _, _ => trivial
  | z :: l, q, h => by
    obtain ⟨h1, h2⟩ := List.nodup_cons.1 h
    refine ⟨if_pos rfl, chn_congr (par := prd z l) (fun y hy => ?_) (chn_prd h2)⟩
    show (if y = z then q else prd z l y) = prd z l y
    rw [if_neg (fun e : y = z => h1 (e ▸ hy))]

theorem adj_turn {l : List Nat} (hc : Chn par 0 l) (hc' : Chn par' 0 l.reverse) (ho : ∀ y, y ∉ l → par' y = par y) {x y : Nat} (h : Adj par x y) : Adj par' x y := by
  have key : ∀ x y, x ≠ 0 → par y = x → par' y = x ∨ par' x = y := fun x y hx e => by
    by_cases hy : y ∈ l
    · obtain ⟨A, B, rfl⟩ := List.append_of_mem hy
      have h1 := chn_at hc
      rw [e] at h1
      right
      cases A with
      | nil => exact absurd h1 hx
      | cons z A =>
        obtain ⟨A0, e0⟩ := split_last 0 (z :: A) (by simp)
        rw [← h1] at e0
        rw [e0] at hc'
        have e1 : (A0 ++ [x] ++ y :: B).reverse = (B.reverse ++ [y]) ++ x :: A0.reverse := by simp
        rw [e1] at hc'
        have := chn_at hc'
        rw [lst_app] at this
        exact this
    · exact Or.inl ((ho y hy).trans e)
  refine ⟨h.1, h.2.1, ?_⟩
  rcases h.2.2 with e | e
  · exact (key y x h.2.1 e)
  · exact (key x y h.1 e).symm

/-- A chain from the top on, turned round. -/
theorem reroot (hA : Acy par) {l : List Nat} (h0 : ∀ y, y ∈ l → y ≠ 0) (hc : Chn par 0 l) : ∃ par', Chn par' 0 l.reverse ∧ (∀ y, y ∉ l → par' y = par y) ∧ (∀ x y, Adj par' x y ↔ Adj par x y) ∧ Acy par' := by
  have hn := hA.nodup h0 hc
  have hr : l.reverse.Nodup := by
    unfold List.Nodup; rw [List.pairwise_reverse]; exact List.Pairwise.imp (fun h e => h e.symm) hn
  obtain ⟨par', hp⟩ : ∃ p : Nat → Nat, (fun y => if y ∈ l then prd 0 l.reverse y else par y) = p := ⟨_, rfl⟩
  have hin : ∀ y, y ∈ l → par' y = prd 0 l.reverse y := fun y hy => by rw [← hp]; exact if_pos hy
  have hout : ∀ y, y ∉ l → par' y = par y := fun y hy => by rw [← hp]; exact if_neg hy
  have hc' : Chn par' 0 l.reverse := chn_congr (fun y hy => hin y (List.mem_reverse.1 hy)) (chn_prd hr)
  refine ⟨par', hc', hout, fun x y => ⟨fun h => ?_, adj_turn hc hc' hout⟩, ?_⟩
  · exact adj_turn (par := par') (par' := par) (l := l.reverse) hc' (by rw [List.reverse_reverse]; exact hc) (fun y hy => (hout y (fun e => hy (List.mem_reverse.2 e))).symm) h
  · have hl : ∀ y, y ∈ l → ∃ k, Dp par' k y := fun y hy => by
      obtain ⟨j, _, hj⟩ := Dp.chn (k := 0) (q := 0) rfl (fun y hy => h0 y (List.mem_reverse.1 hy)) hc' y (List.mem_reverse.2 hy)
      exact ⟨j, hj⟩
    have : ∀ k x, Dp par k x → ∃ j, Dp par' j x := by
      intro k
      induction k with
      | zero => intro x hx; exact ⟨0, hx⟩
      | succ k ih =>
        intro x hx
        by_cases hm : x ∈ l
        · exact hl x hm
        · obtain ⟨j, hj⟩ := ih _ hx.2
          exact ⟨j + 1, hx.1, by rw [hout x hm]; exact hj⟩
    intro x
    obtain ⟨k, hk⟩ := hA x
    exact this k x hk

/-- The top of a node's tree. -/
def Top (par : Nat → Nat) (x r : Nat) : Prop := ∃ l, Chn par 0 (r :: l) ∧ lst r l = x ∧ ∀ y, y ∈ r :: l → y ≠ 0

theorem Top.ne {x r : Nat} (h : Top par x r) : x ≠ 0 := by
  obtain ⟨l, _, h2, h3⟩ := h
  have := lst_mem 0 (r :: l) (by simp)
  rw [show lst 0 (r :: l) = lst r l from rfl, h2] at this
  exact h3 x this

theorem Top.self {x : Nat} (hx : x ≠ 0) (h : par x = 0) : Top par x x := ⟨[], ⟨h, trivial⟩, rfl, by simp; exact hx⟩

theorem Top.uniq (hA : Acy par) {x r s : Nat} (h : Top par x r) (k : Top par x s) : r = s := by
  have hx := h.ne
  obtain ⟨l, h1, h2, h3⟩ := h
  obtain ⟨m, k1, k2, k3⟩ := k
  obtain ⟨d, hd⟩ := hA x
  obtain ⟨l0, e1⟩ := split_last 0 (r :: l) (by simp)
  obtain ⟨m0, e2⟩ := split_last 0 (s :: m) (by simp)
  rw [show lst 0 (r :: l) = lst r l from rfl, h2] at e1
  rw [show lst 0 (s :: m) = lst s m from rfl, k2] at e2
  rw [e1] at h1 h3
  rw [e2] at k1 k3
  have := hd.same hx (fun y hy => h3 y (List.mem_append.2 (Or.inl hy))) (fun y hy => k3 y (List.mem_append.2 (Or.inl hy))) h1 k1
  rw [this] at e1
  rw [← e2] at e1
  injection e1

theorem Top.down {x y r : Nat} (h : Top par x r) (hy : y ≠ 0) (e : par y = x) : Top par y r := by
  obtain ⟨l, h1, h2, h3⟩ := h
  refine ⟨l ++ [y], ?_, lst_app _ _ _, ?_⟩
  · show Chn par 0 ((r :: l) ++ [y])
    refine chn_append.2 ⟨h1, ?_, trivial⟩
    rw [show lst 0 (r :: l) = lst r l from rfl, h2]; exact e
  · intro z hz
    rw [← List.cons_append] at hz
    rcases List.mem_append.1 hz with hz | hz
    · exact h3 z hz
    · rw [List.mem_singleton] at hz; rw [hz]; exact hy

theorem Acy.top (hA : Acy par) {x : Nat} (hx : x ≠ 0) : ∃ r, Top par x r := by
  obtain ⟨k, hk⟩ := hA x
  obtain ⟨l, h1, h2⟩ := hk.road hx
  cases l with
  | nil => exact ⟨x, [], h1, rfl, by simp; exact hx⟩
  | cons r l =>
    refine ⟨r, l ++ [x], h1, lst_app _ _ _, ?_⟩
    intro z hz
    rw [← List.cons_append] at hz
    rcases List.mem_append.1 hz with hz | hz
    · exact h2 z hz
    · rw [List.mem_singleton] at hz; rw [hz]; exact hx

theorem Top.up (hA : Acy par) {x y r : Nat} (h : Top par y r) (hx : x ≠ 0) (e : par y = x) : Top par x r := by
  obtain ⟨s, hs⟩ := hA.top hx
  have := hs.down h.ne e
  rw [h.uniq hA this]
  exact hs

theorem Top.adj (hA : Acy par) {x y r : Nat} (h : Top par x r) (a : Adj par x y) : Top par y r := by
  rcases a.2.2 with e | e
  · exact h.up hA a.2.1 e
  · exact h.down a.2.1 e

theorem Top.chn {q r : Nat} : ∀ {l : List Nat}, Top par q r → (∀ y, y ∈ l → y ≠ 0) → Chn par q l → ∀ y, y ∈ l → Top par y r
  | [], _, _, _, y, hy => by cases hy
  | z :: l, h, h0, hc, y, hy => by
    have hz := h.down (h0 z List.mem_cons_self) hc.1
    rcases List.mem_cons.1 hy with rfl | hy
    · exact hz
    · exact Top.chn hz (fun y hy => h0 y (List.mem_cons_of_mem _ hy)) hc.2 y hy

/-- All of a chain have one top. -/
theorem Acy.one (hA : Acy par) {q : Nat} {l : List Nat} (h0 : ∀ y, y ∈ l → y ≠ 0) (hc : Chn par q l) {y z r : Nat} (hy : y ∈ l) (hz : z ∈ l) (h : Top par y r) : Top par z r := by
  by_cases hq : q = 0
  · subst hq
    cases l with
    | nil => cases hy
    | cons a l =>
      have ha : Top par a a := Top.self (h0 a List.mem_cons_self) hc.1
      have all : ∀ u, u ∈ a :: l → Top par u a := fun u hu => by
        rcases List.mem_cons.1 hu with rfl | hu
        · exact ha
        · exact Top.chn ha (fun y hy => h0 y (List.mem_cons_of_mem _ hy)) hc.2 u hu
      rw [h.uniq hA (all y hy)]; exact all z hz
  · obtain ⟨s, hs⟩ := hA.top hq
    rw [h.uniq hA (hs.chn h0 hc y hy)]
    exact hs.chn h0 hc z hz

/-- A walk from one node to another. -/
inductive Wk (adj : Nat → Nat → Prop) : Nat → Nat → List Nat → Prop
  | one (a : Nat) : a ≠ 0 → Wk adj a a [a]
  | step (a c b : Nat) (l : List Nat) : a ≠ 0 → adj a c → Wk adj c b l → Wk adj a b (a :: l)

/-- The road. -/
structure Rd (adj : Nat → Nat → Prop) (a b : Nat) (l : List Nat) : Prop where
  wk : Wk adj a b l
  nd : l.Nodup

variable {adj adj' : Nat → Nat → Prop}

theorem Wk.head {a b : Nat} {l : List Nat} (h : Wk adj a b l) : ∃ m, l = a :: m ∧ lst a m = b := by
  induction h with
  | one a _ => exact ⟨[], rfl, rfl⟩
  | step a c b l _ _ _ ih =>
    obtain ⟨m, e, h1⟩ := ih
    exact ⟨l, rfl, by rw [e]; exact h1⟩

theorem Wk.ne {a b : Nat} {l : List Nat} (h : Wk adj a b l) : ∀ y, y ∈ l → y ≠ 0 := by
  induction h with
  | one a h => simp; exact h
  | step a c b l h _ _ ih =>
    intro y hy
    rcases List.mem_cons.1 hy with rfl | hy
    · exact h
    · exact ih y hy

theorem Wk.first {a b : Nat} {l : List Nat} (h : Wk adj a b l) : a ∈ l := by obtain ⟨m, e, _⟩ := h.head; rw [e]; exact List.mem_cons_self

theorem Wk.mono {a b : Nat} {l : List Nat} (hs : ∀ x y, x ∈ l → y ∈ l → adj x y → adj' x y) (h : Wk adj a b l) : Wk adj' a b l := by
  induction h with
  | one a h => exact Wk.one a h
  | step a c b l h ha hw ih => exact Wk.step a c b l h (hs a c List.mem_cons_self (List.mem_cons_of_mem _ hw.first) ha) (ih (fun x y hx hy => hs x y (List.mem_cons_of_mem _ hx) (List.mem_cons_of_mem _ hy)))

theorem Wk.snoc {a b c : Nat} {l : List Nat} (h : Wk adj a b l) (hc : c ≠ 0) (e : adj b c) : Wk adj a c (l ++ [c]) := by
  induction h with
  | one a h => exact Wk.step a c c [c] h e (Wk.one c hc)
  | step a d b l h ha _ ih => exact Wk.step a d c _ h ha (ih e)

theorem Wk.rev (hs : ∀ x y, adj x y → adj y x) {a b : Nat} {l : List Nat} (h : Wk adj a b l) : Wk adj b a l.reverse := by
  induction h with
  | one a h => exact Wk.one a h
  | step a c b l h ha _ ih =>
    rw [List.reverse_cons]
    exact ih.snoc h (hs _ _ ha)

theorem Rd.rev (hs : ∀ x y, adj x y → adj y x) {a b : Nat} {l : List Nat} (h : Rd adj a b l) : Rd adj b a l.reverse :=
  ⟨h.wk.rev hs, by unfold List.Nodup; rw [List.pairwise_reverse]; exact List.Pairwise.imp (fun h e => h e.symm) h.nd⟩

theorem Wk.cat {a b c : Nat} {l m : List Nat} (h : Wk adj a b l) (k : Wk adj b c m) : ∃ j, Wk adj a c j := by
  induction h with
  | one a _ => exact ⟨m, k⟩
  | step a d b l h ha _ ih =>
    obtain ⟨j, hj⟩ := ih k
    exact ⟨_, Wk.step a d c j h ha hj⟩

/-- A chain is a walk. -/
theorem chn_wk (he : ∀ x y, adj x y ↔ Adj par x y) : ∀ {l : List Nat} {a : Nat}, (∀ y, y ∈ a :: l → y ≠ 0) → Chn par a l → Wk adj a (lst a l) (a :: l)
  | [], a, h0, _ => Wk.one a (h0 a List.mem_cons_self)
  | y :: l, a, h0, hc => by
    have ha := h0 a List.mem_cons_self
    have hy := h0 y (by simp)
    exact Wk.step a y _ _ ha ((he a y).2 ⟨ha, hy, Or.inr hc.1⟩) (chn_wk he (fun z hz => h0 z (List.mem_cons_of_mem _ hz)) hc.2)

theorem Wk.top (he : ∀ x y, adj x y ↔ Adj par x y) (hA : Acy par) {a b r : Nat} {l : List Nat} (h : Wk adj a b l) : Top par a r → Top par b r := by
  induction h with
  | one a _ => exact fun h => h
  | step a c b l _ ha _ ih => exact fun h => ih (h.adj hA ((he _ _).1 ha))

/-- From the top on a road leads down. -/
theorem Wk.down (he : ∀ x y, adj x y ↔ Adj par x y) {c b : Nat} {l : List Nat} (h : Wk adj c b l) : l.Nodup → ∀ q, q ∉ l → par c = q → Chn par q l := by
  induction h with
  | one a _ => exact fun _ q _ e => ⟨e, trivial⟩
  | step a d b l _ ha hw ih =>
    intro hn q hq e
    obtain ⟨h1, h2⟩ := List.nodup_cons.1 hn
    refine ⟨e, ih h2 a h1 ?_⟩
    rcases ((he _ _).1 ha).2.2 with e2 | e2
    · exact absurd (List.mem_cons_of_mem _ (by rw [← e, e2]; exact hw.first)) hq
    · exact e2

theorem Rd.down (he : ∀ x y, adj x y ↔ Adj par x y) {a b : Nat} {l : List Nat} (h : Rd adj a b l) (ha : par a = 0) : Chn par 0 l := h.wk.down he h.nd 0 (fun e => h.wk.ne 0 e rfl) ha

/-- Links that make trees. -/
def Wood (adj : Nat → Nat → Prop) : Prop := ∃ par, (∀ x y, adj x y ↔ Adj par x y) ∧ Acy par

theorem Wood.symm (h : Wood adj) {x y : Nat} (e : adj x y) : adj y x := by
  obtain ⟨par, he, _⟩ := h
  exact (he _ _).2 ((he _ _).1 e).symm

theorem Wood.ne (h : Wood adj) {x y : Nat} (e : adj x y) : x ≠ 0 ∧ y ≠ 0 ∧ x ≠ y := by
  obtain ⟨par, he, hA⟩ := h
  have := (he _ _).1 e
  refine ⟨this.1, this.2.1, fun e2 => ?_⟩
  subst e2
  rcases this.2.2 with e | e <;> exact hA.ne this.1 e

theorem Wood.root (h : Wood adj) {a : Nat} (ha : a ≠ 0) : ∃ par, (∀ x y, adj x y ↔ Adj par x y) ∧ Acy par ∧ par a = 0 := by
  obtain ⟨par, he, hA⟩ := h
  obtain ⟨k, hk⟩ := hA a
  obtain ⟨l, h1, h2⟩ := hk.road ha
  obtain ⟨par', p1, _, p3, p4⟩ := reroot hA (l := l ++ [a]) (fun y hy => by
    rcases List.mem_append.1 hy with hy | hy
    · exact h2 y hy
    · rw [List.mem_singleton] at hy; rw [hy]; exact ha) h1
  refine ⟨par', fun x y => (he x y).trans (p3 x y).symm, p4, ?_⟩
  rw [List.reverse_append] at p1
  exact p1.1

theorem chn_uniq (hA : Acy par) {l m : List Nat} {b : Nat} (hl : Chn par 0 l) (hm : Chn par 0 m) (l0 : ∀ y, y ∈ l → y ≠ 0) (m0 : ∀ y, y ∈ m → y ≠ 0) (el : l ≠ []) (em : m ≠ []) (hb : lst 0 l = b) (hb' : lst 0 m = b) : l = m := by
  obtain ⟨a, ea⟩ := split_last 0 l el
  obtain ⟨c, ec⟩ := split_last 0 m em
  rw [hb] at ea
  rw [hb'] at ec
  obtain ⟨k, hk⟩ := hA b
  have hb0 : b ≠ 0 := l0 b (by rw [ea]; simp)
  rw [ea] at hl l0
  rw [ec] at hm m0
  rw [ea, ec, hk.same hb0 (fun y hy => l0 y (List.mem_append.2 (Or.inl hy))) (fun y hy => m0 y (List.mem_append.2 (Or.inl hy))) hl hm]

theorem Wk.last {a b : Nat} {l : List Nat} (h : Wk adj a b l) : l ≠ [] ∧ lst 0 l = b := by
  obtain ⟨m, e, h1⟩ := h.head
  rw [e]
  exact ⟨by simp, h1⟩

theorem Wood.uniq (h : Wood adj) {a b : Nat} {l m : List Nat} (hl : Rd adj a b l) (hm : Rd adj a b m) : l = m := by
  obtain ⟨par, he, hA, ha⟩ := h.root (hl.wk.ne a hl.wk.first)
  exact chn_uniq hA (hl.down he ha) (hm.down he ha) hl.wk.ne hm.wk.ne hl.wk.last.1 hm.wk.last.1 hl.wk.last.2 hm.wk.last.2

theorem rd_chn (he : ∀ x y, adj x y ↔ Adj par x y) (hA : Acy par) {a b : Nat} {l : List Nat} (hc : Chn par 0 (a :: l)) (h0 : ∀ y, y ∈ a :: l → y ≠ 0) (hb : lst a l = b) : Rd adj a b (a :: l) :=
  ⟨by have := chn_wk he h0 hc.2; rw [hb] at this; exact this, hA.nodup h0 hc⟩

theorem Wood.conn (h : Wood adj) {a b : Nat} {l : List Nat} (hw : Wk adj a b l) : ∃ m, Rd adj a b m := by
  obtain ⟨par, he, hA, ha⟩ := h.root (hw.ne a hw.first)
  obtain ⟨m, h1, h2, h3⟩ := hw.top he hA (Top.self (hw.ne a hw.first) ha)
  exact ⟨_, rd_chn he hA h1 h3 h2⟩

theorem Wood.near (h : Wood adj) {a b : Nat} (e : adj a b) : Rd adj a b [a, b] := by
  obtain ⟨h1, h2, h3⟩ := h.ne e
  exact ⟨Wk.step a b b [b] h1 e (Wk.one b h2), by simp [h3]⟩

theorem Rd.two {a b : Nat} {l : List Nat} (h : Rd adj a b l) (e : l.length = 2) : adj a b := by
  obtain ⟨hw, hn⟩ := h
  cases hw with
  | one _ _ => simp at e
  | step _ c _ l _ ha hk =>
    cases hk with
    | one _ _ => exact ha
    | step _ d _ m _ hb hm =>
      have := hm.first
      cases m with
      | nil => cases this
      | cons _ _ => simp at e

/-- One link more. -/
def addE (adj : Nat → Nat → Prop) (a b : Nat) : Nat → Nat → Prop := fun x y => adj x y ∨ (x = a ∧ y = b) ∨ (x = b ∧ y = a)
/-- One link less. -/
def delE (adj : Nat → Nat → Prop) (a b : Nat) : Nat → Nat → Prop := fun x y => adj x y ∧ ¬ (x = a ∧ y = b) ∧ ¬ (x = b ∧ y = a)

theorem acy_link (hA : Acy par) {a b : Nat} (ha : a ≠ 0) (hb : b ≠ 0) (pa : par a = 0) (hn : ¬ Top par b a) : Acy (fun y => if y = a then b else par y) := by
  have key : ∀ k x, Dp par k x → (x = 0 ∨ ¬ Top par x a) → ∃ j, Dp (fun y => if y = a then b else par y) j x := by
    intro k
    induction k with
    | zero => intro x hx _; exact ⟨0, hx⟩
    | succ k ih =>
      intro x hx ht
      have hxa : x ≠ a := fun e => by
        rcases ht with e2 | e2
        · exact hx.1 e2
        · exact e2 (by rw [e]; exact Top.self ha pa)
      obtain ⟨j, hj⟩ := ih _ hx.2 (by
        by_cases h0 : par x = 0
        · exact Or.inl h0
        · right
          intro h
          rcases ht with e2 | e2
          · exact hx.1 e2
          · exact e2 (h.down hx.1 rfl))
      exact ⟨j + 1, hx.1, by simp only [if_neg hxa]; exact hj⟩
  obtain ⟨kb, hkb⟩ := hA b
  obtain ⟨jb, hjb⟩ := key kb b hkb (Or.inr hn)
  intro x
  obtain ⟨k, hk⟩ := hA x
  have : ∀ k x, Dp par k x → ∃ j, Dp (fun y => if y = a then b else par y) j x := by
    intro k
    induction k with
    | zero => intro x hx; exact ⟨0, hx⟩
    | succ k ih =>
      intro x hx
      by_cases e : x = a
      · exact ⟨jb + 1, hx.1, by simp only [if_pos e]; exact hjb⟩
      · obtain ⟨j, hj⟩ := ih _ hx.2
        exact ⟨j + 1, hx.1, by simp only [if_neg e]; exact hj⟩
  exact this k x hk

theorem adj_link {a b : Nat} (ha : a ≠ 0) (hb : b ≠ 0) (pa : par a = 0) (x y : Nat) : Adj (fun y => if y = a then b else par y) x y ↔ addE (Adj par) a b x y := by
  unfold addE Adj
  dsimp only
  constructor
  · rintro ⟨h1, h2, h3 | h3⟩
    · by_cases e : x = a
      · rw [if_pos e] at h3; exact Or.inr (Or.inl ⟨e, h3.symm⟩)
      · rw [if_neg e] at h3; exact Or.inl ⟨h1, h2, Or.inl h3⟩
    · by_cases e : y = a
      · rw [if_pos e] at h3; exact Or.inr (Or.inr ⟨h3.symm, e⟩)
      · rw [if_neg e] at h3; exact Or.inl ⟨h1, h2, Or.inr h3⟩
  · rintro (⟨h1, h2, h3 | h3⟩ | ⟨rfl, rfl⟩ | ⟨rfl, rfl⟩)
    · refine ⟨h1, h2, Or.inl ?_⟩
      by_cases e : x = a
      · rw [e, pa] at h3; exact absurd h3.symm h2
      · rw [if_neg e]; exact h3
    · refine ⟨h1, h2, Or.inr ?_⟩
      by_cases e : y = a
      · rw [e, pa] at h3; exact absurd h3.symm h1
      · rw [if_neg e]; exact h3
    · exact ⟨ha, hb, Or.inl (if_pos rfl)⟩
    · exact ⟨hb, ha, Or.inr (if_pos rfl)⟩

theorem acy_cut (hA : Acy par) (b : Nat) : Acy (fun y => if y = b then 0 else par y) := by
  have key : ∀ k x, Dp par k x → ∃ j, Dp (fun y => if y = b then 0 else par y) j x := by
    intro k
    induction k with
    | zero => intro x hx; exact ⟨0, hx⟩
    | succ k ih =>
      intro x hx
      by_cases e : x = b
      · exact ⟨1, hx.1, by simp only [if_pos e]; rfl⟩
      · obtain ⟨j, hj⟩ := ih _ hx.2
        exact ⟨j + 1, hx.1, by simp only [if_neg e]; exact hj⟩
  intro x
  obtain ⟨k, hk⟩ := hA x
  exact key k x hk

theorem adj_cut {a b : Nat} (pa : par a = 0) (pb : par b = a) (x y : Nat) : Adj (fun y => if y = b then 0 else par y) x y ↔ delE (Adj par) a b x y := by
  unfold delE Adj
  dsimp only
  constructor
  · rintro ⟨h1, h2, h3 | h3⟩
    · by_cases e : x = b
      · rw [if_pos e] at h3; exact absurd h3.symm h2
      · rw [if_neg e] at h3
        exact ⟨⟨h1, h2, Or.inl h3⟩, fun ⟨e1, _⟩ => h2 (by rw [← h3, e1, pa]), fun ⟨e1, _⟩ => e e1⟩
    · by_cases e : y = b
      · rw [if_pos e] at h3; exact absurd h3.symm h1
      · rw [if_neg e] at h3
        exact ⟨⟨h1, h2, Or.inr h3⟩, fun ⟨_, e1⟩ => e e1, fun ⟨_, e1⟩ => h1 (by rw [← h3, e1, pa])⟩
  · rintro ⟨⟨h1, h2, h3⟩, n1, n2⟩
    refine ⟨h1, h2, ?_⟩
    rcases h3 with h3 | h3
    · by_cases e : x = b
      · exact absurd ⟨e, by rw [← h3, e, pb]⟩ n2
      · exact Or.inl (by rw [if_neg e]; exact h3)
    · by_cases e : y = b
      · exact absurd ⟨by rw [← h3, e, pb], e⟩ n1
      · exact Or.inr (by rw [if_neg e]; exact h3)

theorem del_add (h : Wood adj) {a b : Nat} (hn : ¬ adj a b) : delE (addE adj a b) a b = adj ∧ delE (addE adj a b) b a = adj := by
  have hn' : ¬ adj b a := fun e => hn (h.symm e)
  constructor <;> (funext x y; apply propext; unfold delE addE; constructor)
  · rintro ⟨h1 | h1 | h1, h2, h3⟩
    · exact h1
    · exact absurd h1 h2
    · exact absurd h1 h3
  · intro h1
    refine ⟨Or.inl h1, ?_, ?_⟩
    · rintro ⟨rfl, rfl⟩; exact hn h1
    · rintro ⟨rfl, rfl⟩; exact hn' h1
  · rintro ⟨h1 | h1 | h1, h2, h3⟩
    · exact h1
    · exact absurd h1 h3
    · exact absurd h1 h2
  · intro h1
    refine ⟨Or.inl h1, ?_, ?_⟩
    · rintro ⟨rfl, rfl⟩; exact hn' h1
    · rintro ⟨rfl, rfl⟩; exact hn h1

theorem add_del (h : Wood adj) {a b : Nat} (hn : adj a b) : addE (delE adj a b) b a = adj := by
  have hn' : adj b a := h.symm hn
  funext x y
  apply propext
  unfold delE addE
  constructor
  · rintro (⟨h1, _, _⟩ | ⟨rfl, rfl⟩ | ⟨rfl, rfl⟩)
    · exact h1
    · exact hn'
    · exact hn
  · intro h1
    by_cases e1 : x = a ∧ y = b
    · exact Or.inr (Or.inr e1)
    · by_cases e2 : x = b ∧ y = a
      · exact Or.inr (Or.inl e2)
      · exact Or.inl ⟨h1, e1, e2⟩

/-- How far walks lead. -/
theorem Wk.far (he : ∀ x y, adj x y ↔ Adj par x y) {a b : Nat} {l : List Nat} (h : Wk adj a b l) : ∀ i j, Dp par i a → Dp par j b → (i + j + l.length) % 2 = 1 ∧ j + 1 ≤ i + l.length := by
  induction h with
  | one a _ => intro i j hi hj; have := hi.uniq hj; simp; omega
  | step a c b l h ha hw ih =>
    intro i j hi hj
    have hc := (he _ _).1 ha
    have : ∃ k, Dp par k c ∧ (k = i + 1 ∨ i = k + 1) := by
      rcases hc.2.2 with e | e
      · cases i with
        | zero => exact absurd hi hc.1
        | succ i => exact ⟨i, by rw [← e]; exact hi.2, Or.inr rfl⟩
      · exact ⟨i + 1, ⟨hc.2.1, by rw [e]; exact hi⟩, Or.inl rfl⟩
    obtain ⟨k, hk, hik⟩ := this
    have := ih k j hk hj
    simp only [List.length_cons]
    omega

theorem Dp.len : ∀ {l : List Nat} {q k : Nat}, Dp par k q → (∀ y, y ∈ l → y ≠ 0) → Chn par q l → Dp par (k + l.length) (lst q l)
  | [], _, _, h, _, _ => h
  | y :: l, q, k, h, h0, hc => by
    have := Dp.len (q := y) (k := k + 1) ⟨h0 y List.mem_cons_self, by rw [hc.1]; exact h⟩ (fun z hz => h0 z (List.mem_cons_of_mem _ hz)) hc.2
    rw [List.length_cons, show k + (l.length + 1) = k + 1 + l.length from by omega]
    exact this

theorem Wood.three (h : Wood adj) {a b c : Nat} {l m k : List Nat} (h1 : Rd adj a b l) (h2 : Rd adj b c m) (h3 : Rd adj c a k) : (l.length + m.length + k.length) % 2 = 1 ∧ k.length + 1 ≤ l.length + m.length := by
  obtain ⟨par, he, hA, hc⟩ := h.root (h3.wk.ne c h3.wk.first)
  have hs : ∀ x y, adj x y → adj y x := fun x y => h.symm
  have dc : Dp par 1 c := ⟨h3.wk.ne c h3.wk.first, hc⟩
  have da := Dp.len (k := 0) (q := 0) rfl h3.wk.ne (h3.down he hc)
  rw [h3.wk.last.2, Nat.zero_add] at da
  obtain ⟨j, db⟩ := hA b
  have f1 := (h2.wk.rev hs).far he 1 j dc db
  have f2 := (h1.wk.rev hs).far he j k.length db da
  rw [List.length_reverse] at f1 f2
  omega

end Go.Proofs.YtdmkbcbgjdmgdaaGreatDoor

namespace Go.Proofs.YtdmkbcbgjdmgdaaGreatDoor
set_option linter.unusedVariables false

section
variable {adj : Nat → Nat → Prop}

/-- A walk without its loops. -/
theorem Wk.erase {a b : Nat} {l : List Nat} (h : Wk adj a b l) : ∃ m, Rd adj a b m ∧ ∀ y, y ∈ m → y ∈ l := by
  induction h with
  | one a ha => exact ⟨_, ⟨.one a ha, by simp⟩, fun y hy => hy⟩
  | step a c b l ha e hw ih =>
    obtain ⟨m, hm, hs⟩ := ih
    by_cases q : a ∈ m
    · have key : ∀ {x y : Nat} {k : List Nat}, Wk adj x y k → k.Nodup → ∀ z, z ∈ k → ∃ j, Rd adj z y j ∧ ∀ u, u ∈ j → u ∈ k := fun {x y k} hw => by
        induction hw with
        | one x hx => intro _ z hz; simp at hz; subst hz; exact ⟨_, ⟨.one z hx, by simp⟩, fun u hu => hu⟩
        | step x c y k hx e hw ih =>
          intro hn z hz
          rcases List.mem_cons.1 hz with rfl | hz
          · exact ⟨_, ⟨.step _ _ _ _ hx e hw, hn⟩, fun u hu => hu⟩
          · obtain ⟨j, hj, hu⟩ := ih (List.nodup_cons.1 hn).2 z hz
            exact ⟨j, hj, fun u q => List.mem_cons_of_mem _ (hu u q)⟩
      obtain ⟨j, hj, hu⟩ := key hm.wk hm.nd a q
      exact ⟨j, hj, fun y hy => List.mem_cons_of_mem _ (hs y (hu y hy))⟩
    · refine ⟨a :: m, ⟨.step _ _ _ _ ha e hm.wk, List.nodup_cons.2 ⟨q, hm.nd⟩⟩, fun y hy => ?_⟩
      rcases List.mem_cons.1 hy with rfl | hy
      · exact List.mem_cons_self
      · exact List.mem_cons_of_mem _ (hs y hy)
end

/-- Items (I) with their faces' labels, ties with their two ends, hung as a wood. -/
structure Wb (adj : Nat → Nat → Prop) (I : Nat → Prop) (fc A B : Nat → Nat) (Td : Nat → Prop) : Prop where
  wood : Wood adj
  item : ∀ x, Td x → ¬ I x
  ii : ∀ x y, I x → I y → adj x y → fc x = fc y
  it : ∀ x y, I x → ¬ I y → adj x y → Td y ∧ (x = A y ∨ x = B y)
  tt : ∀ x y, ¬ I x → ¬ I y → ¬ adj x y
  ends : ∀ t, Td t → (I (A t) ∧ adj t (A t)) ∧ (I (B t) ∧ adj t (B t))
  near : ∀ x y, I x → I y → fc x = fc y → ∃ l, Wk adj x y l ∧ ∀ z, z ∈ l → I z ∧ fc z = fc x

/-- A road of ties from face to face: the ties, and the faces that it meets. -/
inductive FR (fc A B : Nat → Nat) (Td : Nat → Prop) : Nat → Nat → List Nat → List Nat → Prop
  | nil (f : Nat) : FR fc A B Td f f [] [f]
  | cons {f h g t : Nat} {r ls : List Nat} : Td t → (fc (A t) = f ∧ fc (B t) = h) ∨ (fc (B t) = f ∧ fc (A t) = h) → FR fc A B Td h g r ls → FR fc A B Td f g (t :: r) (f :: ls)

section
variable {adj : Nat → Nat → Prop} {I Td : Nat → Prop} {fc A B : Nat → Nat}

theorem FR.first {f g : Nat} {r ls : List Nat} (h : FR fc A B Td f g r ls) : f ∈ ls := by
  cases h <;> simp

theorem FR.last {f g : Nat} {r ls : List Nat} (h : FR fc A B Td f g r ls) : g ∈ ls := by
  induction h with
  | nil => simp
  | cons _ _ _ ih => exact List.mem_cons_of_mem _ ih

/-- The faces of its ties are met. -/
theorem FR.met {f g : Nat} {r ls : List Nat} (h : FR fc A B Td f g r ls) : ∀ t, t ∈ r → fc (A t) ∈ ls ∧ fc (B t) ∈ ls := by
  induction h with
  | nil => intro t ht; simp at ht
  | cons ht he hr ih =>
    intro u hu
    rcases List.mem_cons.1 hu with rfl | hu
    · rcases he with ⟨e1, e2⟩ | ⟨e1, e2⟩
      · exact ⟨by rw [e1]; exact List.mem_cons_self, List.mem_cons_of_mem _ (by rw [e2]; exact hr.first)⟩
      · exact ⟨List.mem_cons_of_mem _ (by rw [e2]; exact hr.first), by rw [e1]; exact List.mem_cons_self⟩
    · exact ⟨List.mem_cons_of_mem _ (ih u hu).1, List.mem_cons_of_mem _ (ih u hu).2⟩

theorem FR.tied {f g : Nat} {r ls : List Nat} (h : FR fc A B Td f g r ls) : ∀ t, t ∈ r → Td t := by
  induction h with
  | nil => intro t ht; simp at ht
  | cons ht he hr ih =>
    intro u hu
    rcases List.mem_cons.1 hu with rfl | hu
    · exact ht
    · exact ih u hu

/-- From a face that was met on. -/
theorem FR.from {f g : Nat} {r ls : List Nat} (h : FR fc A B Td f g r ls) : ∀ x, x ∈ ls → ∃ r' ls', FR fc A B Td x g r' ls' ∧ ∀ z, z ∈ ls' → z ∈ ls := by
  induction h with
  | nil f => intro x hx; simp at hx; subst hx; exact ⟨_, _, .nil _, fun z hz => hz⟩
  | cons ht he hr ih =>
    intro x hx
    rcases List.mem_cons.1 hx with rfl | hx
    · exact ⟨_, _, .cons ht he hr, fun z hz => hz⟩
    · obtain ⟨r', ls', h1, h2⟩ := ih x hx
      exact ⟨r', ls', h1, fun z hz => List.mem_cons_of_mem _ (h2 z hz)⟩

/-- The same without loops. -/
theorem FR.from_nd {f g : Nat} {r ls : List Nat} (h : FR fc A B Td f g r ls) (hn : ls.Nodup) : ∀ x, x ∈ ls → ∃ r' ls', FR fc A B Td x g r' ls' ∧ ls'.Nodup ∧ ∀ z, z ∈ ls' → z ∈ ls := by
  induction h with
  | nil f => intro x hx; simp at hx; subst hx; exact ⟨_, _, .nil _, hn, fun z hz => hz⟩
  | cons ht he hr ih =>
    intro x hx
    rcases List.mem_cons.1 hx with rfl | hx
    · exact ⟨_, _, .cons ht he hr, hn, fun z hz => hz⟩
    · obtain ⟨r', ls', h1, h3, h2⟩ := ih (List.nodup_cons.1 hn).2 x hx
      exact ⟨r', ls', h1, h3, fun z hz => List.mem_cons_of_mem _ (h2 z hz)⟩

theorem FR.erase {f g : Nat} {r ls : List Nat} (h : FR fc A B Td f g r ls) : ∃ r' ls', FR fc A B Td f g r' ls' ∧ ls'.Nodup := by
  induction h with
  | nil f => exact ⟨_, _, .nil f, by simp⟩
  | cons ht he hr ih =>
    rename_i f h g t r ls
    obtain ⟨r', ls', h1, h2⟩ := ih
    by_cases q : f ∈ ls'
    · obtain ⟨r2, ls2, k1, k2, _⟩ := h1.from_nd h2 f q
      exact ⟨r2, ls2, k1, k2⟩
    · exact ⟨_, _, .cons ht he h1, List.nodup_cons.2 ⟨q, h2⟩⟩

theorem FR.cat {f g h : Nat} {r ls r' ls' : List Nat} (k : FR fc A B Td f g r ls) (k' : FR fc A B Td g h r' ls') : ∃ r2 ls2, FR fc A B Td f h r2 ls2 := by
  induction k with
  | nil f => exact ⟨_, _, k'⟩
  | cons ht he hr ih =>
    obtain ⟨r2, ls2, h2⟩ := ih k'
    exact ⟨_, _, .cons ht he h2⟩

open Classical in
/-- The ties of a road. -/
noncomputable def tiesOf (I : Nat → Prop) (l : List Nat) : List Nat := l.filter (fun x => !decide (I x))

theorem tiesOf_items (I : Nat → Prop) {l : List Nat} (h : ∀ z, z ∈ l → I z) : tiesOf I l = [] := by
  unfold tiesOf
  exact List.filter_eq_nil_iff.2 (fun z hz => by simp [h z hz])

theorem tiesOf_append (I : Nat → Prop) (a b : List Nat) : tiesOf I (a ++ b) = tiesOf I a ++ tiesOf I b := by
  unfold tiesOf
  rw [List.filter_append]

theorem tiesOf_tie (I : Nat → Prop) {t : Nat} (h : ¬ I t) (l : List Nat) : tiesOf I (t :: l) = t :: tiesOf I l := by
  unfold tiesOf
  simp [h]

theorem mem_tiesOf {I : Nat → Prop} {l : List Nat} {x : Nat} : x ∈ tiesOf I l ↔ x ∈ l ∧ ¬ I x := by
  unfold tiesOf
  simp

/-- A walk, and one more behind it. -/
theorem Wk.join {a b c d : Nat} {l m : List Nat} (h : Wk adj a b l) (e : adj b c) (k : Wk adj c d m) : Wk adj a d (l ++ m) := by
  induction h with
  | one a ha => exact .step _ _ _ _ ha e k
  | step a c' b l ha e' _ ih => exact .step _ _ _ _ ha e' (ih e)

/-- A road of ties without loops is the road in the wood. -/
theorem Wb.road (w : Wb adj I fc A B Td) {f g : Nat} {r ls : List Nat} (h : FR fc A B Td f g r ls) : ls.Nodup → ∀ a b, I a → I b → fc a = f → fc b = g → ∃ l, Rd adj a b l ∧ tiesOf I l = r ∧ ∀ x, x ∈ l → I x → fc x ∈ ls := by
  induction h with
  | nil f =>
    intro _ a b ha hb ea eb
    obtain ⟨l, h1, h2⟩ := w.near a b ha hb (ea.trans eb.symm)
    obtain ⟨m, h3, h4⟩ := h1.erase
    exact ⟨m, h3, tiesOf_items I (fun z hz => (h2 z (h4 z hz)).1), fun x hx _ => by rw [(h2 x (h4 x hx)).2, ea]; simp⟩
  | cons ht he hr ih =>
    rename_i f h g t r ls
    intro hn a b ha hb ea eb
    obtain ⟨hf, hn'⟩ := List.nodup_cons.1 hn
    have step : ∀ x y, I x → I y → adj t x → adj t y → fc x = f → fc y = h → ∃ l, Rd adj a b l ∧ tiesOf I l = t :: r ∧ ∀ z, z ∈ l → I z → fc z ∈ f :: ls := fun x y hx hy e1 e2 ex ey => by
      obtain ⟨l', k1, k2, k3⟩ := ih hn' y b hy hb ey eb
      obtain ⟨l0, h1, h2⟩ := w.near a x ha hx (ea.trans ex.symm)
      obtain ⟨m, h3, h4⟩ := h1.erase
      have htI := w.item t ht
      have htn : t ≠ 0 := (w.wood.ne e1).1
      have hmI : ∀ z, z ∈ m → I z ∧ fc z = f := fun z hz => by
        obtain ⟨q1, q2⟩ := h2 z (h4 z hz)
        exact ⟨q1, q2.trans ea⟩
      have htr : t ∉ r := fun q => by
        obtain ⟨q1, q2⟩ := hr.met t q
        rcases he with ⟨e, _⟩ | ⟨e, _⟩
        · rw [e] at q1; exact hf q1
        · rw [e] at q2; exact hf q2
      have htl : t ∉ l' := fun q => htr (by rw [← k2]; exact mem_tiesOf.2 ⟨q, htI⟩)
      have hw : Wk adj a b (m ++ t :: l') := h3.wk.join (w.wood.symm e1) (.step _ _ _ _ htn e2 k1.wk)
      refine ⟨m ++ t :: l', ⟨hw, ?_⟩, ?_, fun z hz hzI => ?_⟩
      · refine List.nodup_append.2 ⟨h3.nd, List.nodup_cons.2 ⟨htl, k1.nd⟩, fun u hu v hv e => ?_⟩
        subst e
        rcases List.mem_cons.1 hv with rfl | hv
        · exact htI (hmI _ hu).1
        · have := k3 u hv (hmI u hu).1
          rw [(hmI u hu).2] at this
          exact hf this
      · rw [tiesOf_append, tiesOf_items I (fun z hz => (hmI z hz).1), tiesOf_tie I htI, k2]
        rfl
      · rcases List.mem_append.1 hz with hz | hz
        · rw [(hmI z hz).2]; exact List.mem_cons_self
        · rcases List.mem_cons.1 hz with rfl | hz
          · exact absurd hzI htI
          · exact List.mem_cons_of_mem _ (k3 z hz hzI)
    obtain ⟨⟨a1, a2⟩, b1, b2⟩ := w.ends t ht
    rcases he with ⟨e1, e2⟩ | ⟨e1, e2⟩
    · exact step (A t) (B t) a1 b1 a2 b2 e1 e2
    · exact step (B t) (A t) b1 a1 b2 a2 e1 e2

/-- A walk in the wood leads from face to face by ties. -/
theorem Wb.ties (w : Wb adj I fc A B Td) {a b : Nat} {l : List Nat} (h : Wk adj a b l) : I b → (I a → ∃ r ls, FR fc A B Td (fc a) (fc b) r ls) ∧ (¬ I a → ∀ x, I x → adj x a → ∃ r ls, FR fc A B Td (fc x) (fc b) r ls) := by
  induction h with
  | one a ha => exact fun hb => ⟨fun _ => ⟨_, _, .nil _⟩, fun q => absurd hb q⟩
  | step a c b l ha e hw ih =>
    intro hb
    obtain ⟨ih1, ih2⟩ := ih hb
    refine ⟨fun hI => ?_, fun hI x hx ex => ?_⟩
    · by_cases hc : I c
      · obtain ⟨r, ls, h1⟩ := ih1 hc
        rw [← w.ii a c hI hc e] at h1
        exact ⟨r, ls, h1⟩
      · exact ih2 hc a hI e
    · have hc : I c := by
        refine Classical.byContradiction (fun q => w.tt a c hI q e)
      obtain ⟨r, ls, h1⟩ := ih1 hc
      obtain ⟨ht, hxe⟩ := w.it x a hx hI ex
      obtain ⟨_, hce⟩ := w.it c a hc hI (w.wood.symm e)
      rcases hxe with rfl | rfl <;> rcases hce with rfl | rfl
      · exact ⟨r, ls, h1⟩
      · exact ⟨_, _, .cons ht (.inl ⟨rfl, rfl⟩) h1⟩
      · exact ⟨_, _, .cons ht (.inr ⟨rfl, rfl⟩) h1⟩
      · exact ⟨r, ls, h1⟩

/-- Linked: the same in both. -/
theorem Wb.linked (w : Wb adj I fc A B Td) {a b : Nat} (ha : I a) (hb : I b) : (∃ l, Rd adj a b l) ↔ ∃ r ls, FR fc A B Td (fc a) (fc b) r ls := by
  constructor
  · rintro ⟨l, h⟩
    exact (w.ties h.wk hb).1 ha
  · rintro ⟨r, ls, h⟩
    obtain ⟨r', ls', h1, h2⟩ := h.erase
    obtain ⟨l, h3, _⟩ := w.road h1 h2 a b ha hb rfl rfl
    exact ⟨l, h3⟩

/-- The road in the wood has just the ties of every road of ties without loops. -/
theorem Wb.same (w : Wb adj I fc A B Td) {a b : Nat} {l r ls : List Nat} (ha : I a) (hb : I b) (h : Rd adj a b l) (k : FR fc A B Td (fc a) (fc b) r ls) (hn : ls.Nodup) : tiesOf I l = r := by
  obtain ⟨l', h1, h2, _⟩ := w.road k hn a b ha hb rfl rfl
  rw [w.wood.uniq h h1, h2]

theorem Wb.uniq (w : Wb adj I fc A B Td) {a b : Nat} {r ls r' ls' : List Nat} (ha : I a) (hb : I b) (k : FR fc A B Td (fc a) (fc b) r ls) (hn : ls.Nodup) (k' : FR fc A B Td (fc a) (fc b) r' ls') (hn' : ls'.Nodup) : r = r' := by
  obtain ⟨l, h1, h2, _⟩ := w.road k hn a b ha hb rfl rfl
  rw [← h2]
  exact w.same ha hb h1 k' hn'
end
end Go.Proofs.YtdmkbcbgjdmgdaaGreatDoor

namespace Go.Proofs.YtdmkbcbgjdmgdaaGreatDoor
set_option linter.unusedVariables false

section
variable {fc A B : Nat → Nat} {Td : Nat → Prop}

theorem FR.snoc {f g h t : Nat} {r ls : List Nat} (k : FR fc A B Td f g r ls) (ht : Td t) (he : (fc (A t) = g ∧ fc (B t) = h) ∨ (fc (B t) = g ∧ fc (A t) = h)) : FR fc A B Td f h (r ++ [t]) (ls ++ [h]) := by
  induction k with
  | nil f => exact .cons ht he (.nil h)
  | cons ht' he' _ ih => exact .cons ht' he' (ih he)

/-- What was found so far: the faces met, in order, and to each its road. -/
structure Bs (fc A B : Nat → Nat) (Td : Nat → Prop) (s : Nat) (all : List Nat) (rd : Nat → List Nat) : Prop where
  nd : all.Nodup
  hd : s ∈ all
  rt : ∀ y, y ∈ all → ∃ ls, FR fc A B Td s y (rd y) ls ∧ ls.Nodup ∧ ∀ z, z ∈ ls → z ∈ all

/-- The ties below k that end at f have both their faces met. -/
def Dn (fc A B : Nat → Nat) (all : List Nat) (k f : Nat) : Prop := ∀ t, t < k → (fc (A t) = f ∨ fc (B t) = f) → fc (A t) ∈ all ∧ fc (B t) ∈ all

theorem Bs.start (s : Nat) : Bs fc A B Td s [s] (fun _ => []) :=
  ⟨by simp, by simp, fun y hy => by simp at hy; subst hy; exact ⟨[y], .nil y, by simp, fun z hz => hz⟩⟩

/-- A face that is new. -/
theorem Bs.step {s x y t : Nat} {all : List Nat} {rd : Nat → List Nat} (h : Bs fc A B Td s all rd) (hx : x ∈ all) (hy : y ∉ all) (ht : Td t) (he : (fc (A t) = x ∧ fc (B t) = y) ∨ (fc (B t) = x ∧ fc (A t) = y)) : Bs fc A B Td s (all ++ [y]) (fun z => if z = y then rd x ++ [t] else rd z) := by
  refine ⟨List.nodup_append.2 ⟨h.nd, by simp, fun a ha b hb e => ?_⟩, List.mem_append.2 (.inl h.hd), fun z hz => ?_⟩
  · simp at hb
    subst hb
    subst e
    exact hy ha
  · by_cases e : z = y
    · subst e
      obtain ⟨ls, h1, h2, h3⟩ := h.rt x hx
      refine ⟨ls ++ [z], by rw [if_pos rfl]; exact h1.snoc ht he, List.nodup_append.2 ⟨h2, by simp, fun a ha b hb e => ?_⟩, fun u hu => ?_⟩
      · simp at hb
        subst hb
        subst e
        exact hy (h3 a ha)
      · rcases List.mem_append.1 hu with q | q
        · exact List.mem_append.2 (.inl (h3 u q))
        · exact List.mem_append.2 (.inr q)
    · have hz' : z ∈ all := by
        rcases List.mem_append.1 hz with q | q
        · exact q
        · simp at q; exact absurd q e
      obtain ⟨ls, h1, h2, h3⟩ := h.rt z hz'
      exact ⟨ls, by rw [if_neg e]; exact h1, h2, fun u hu => List.mem_append.2 (.inl (h3 u hu))⟩

theorem Dn.more {all all' : List Nat} {k f : Nat} (h : Dn fc A B all k f) (hs : ∀ z, z ∈ all → z ∈ all') : Dn fc A B all' k f := fun t ht he => by
  obtain ⟨h1, h2⟩ := h t ht he
  exact ⟨hs _ h1, hs _ h2⟩

theorem Dn.next {all : List Nat} {k f : Nat} (h : Dn fc A B all k f) (hk : (fc (A k) = f ∨ fc (B k) = f) → fc (A k) ∈ all ∧ fc (B k) ∈ all) : Dn fc A B all (k + 1) f := fun t ht he => by
  by_cases e : t = k
  · subst e; exact hk he
  · exact h t (by omega) he

theorem Dn.zero (all : List Nat) (f : Nat) : Dn fc A B all 0 f := fun t ht => by omega

/-- All is searched: linked is what was met. -/
theorem Bs.all {s m : Nat} {all : List Nat} {rd : Nat → List Nat} (h : Bs fc A B (· < m) s all rd) (hd : ∀ f, f ∈ all → Dn fc A B all m f) {g : Nat} : (∃ r ls, FR fc A B (· < m) s g r ls) ↔ g ∈ all := by
  constructor
  · rintro ⟨r, ls, k⟩
    have key : ∀ {f g : Nat} {r ls : List Nat}, FR fc A B (· < m) f g r ls → f ∈ all → g ∈ all := fun {f g r ls} k => by
      induction k with
      | nil f => exact id
      | cons ht he _ ih =>
        intro hf
        rcases he with ⟨e1, e2⟩ | ⟨e1, e2⟩
        · exact ih (by rw [← e2]; exact (hd _ hf _ ht (.inl e1)).2)
        · exact ih (by rw [← e2]; exact (hd _ hf _ ht (.inr e1)).1)
    exact key k h.hd
  · intro hg
    obtain ⟨ls, h1, _⟩ := h.rt g hg
    exact ⟨_, _, h1⟩
end

/-- Renaming the ties: as places in a list, or as nodes. -/
theorem FR.map {fc A B A' B' : Nat → Nat} {Td Td' : Nat → Prop} (nm : Nat → Nat) (hT : ∀ t, Td t → Td' (nm t)) (hA : ∀ t, Td t → A' (nm t) = A t) (hB : ∀ t, Td t → B' (nm t) = B t) {f g : Nat} {r ls : List Nat} (k : FR fc A B Td f g r ls) : FR fc A' B' Td' f g (r.map nm) ls := by
  induction k with
  | nil f => exact .nil f
  | cons ht he _ ih =>
    refine .cons (hT _ ht) ?_ ih
    rw [hA _ ht, hB _ ht]
    exact he

/-- Renaming the faces. -/
theorem FR.face {fc fc' A B : Nat → Nat} {Td : Nat → Prop} (nm : Nat → Nat) (h : ∀ t, Td t → fc' (A t) = nm (fc (A t)) ∧ fc' (B t) = nm (fc (B t))) {f g : Nat} {r ls : List Nat} (k : FR fc A B Td f g r ls) : FR fc' A B Td (nm f) (nm g) r (ls.map nm) := by
  induction k with
  | nil f => exact .nil (nm f)
  | cons ht he _ ih =>
    refine .cons ht ?_ ih
    obtain ⟨e1, e2⟩ := h _ ht
    rcases he with ⟨h1, h2⟩ | ⟨h1, h2⟩
    · exact .inl ⟨by rw [e1, h1], by rw [e2, h2]⟩
    · exact .inr ⟨by rw [e2, h1], by rw [e1, h2]⟩
end Go.Proofs.YtdmkbcbgjdmgdaaGreatDoor

namespace Go.Proofs.YtdmkbcbgjdmgdaaGreatDoor
set_option linter.unusedVariables false

/-- The node of an item, of a tie (from 0 on). -/
def iN (x : Nat) : Nat := x / 4 * 5 + x % 4
def tN (e : Nat) : Nat := e * 5 + 4
/-- The item of a node. -/
def iv (p : Nat) : Nat := (p - 1) / 5 * 4 + (p - 1) % 5

theorem iN_inj {x y : Nat} (h : iN x = iN y) : x = y := by unfold iN at h; omega
theorem tN_inj {x y : Nat} (h : tN x = tN y) : x = y := by unfold tN at h; omega
theorem iN_tN (x e : Nat) : iN x ≠ tN e := by unfold iN tN; omega
theorem iN_mod (x : Nat) : iN x % 5 ≠ 4 := by unfold iN; omega
theorem tN_mod (e : Nat) : tN e % 5 = 4 ∧ tN e / 5 = e := by unfold tN; omega
theorem iv_iN (x : Nat) : iv (iN x + 1) = x := by unfold iv iN; omega

/-- One stands right behind the other. -/
def Nb (l : List Nat) (p q : Nat) : Prop := ∃ i, l[i]? = some p ∧ l[i + 1]? = some q

theorem Nb.mem {l : List Nat} {p q : Nat} (h : Nb l p q) : p ∈ l ∧ q ∈ l := by
  obtain ⟨i, h1, h2⟩ := h
  exact ⟨List.mem_of_getElem? h1, List.mem_of_getElem? h2⟩

theorem nb_at {l : List Nat} (hn : l.Nodup) {i j p : Nat} (hi : l[i]? = some p) (hj : l[j]? = some p) : i = j :=
  (List.getElem?_inj (List.getElem?_eq_some_iff.1 hi).1 hn).1 (hi.trans hj.symm)

theorem Nb.back {l : List Nat} (hn : l.Nodup) {p q : Nat} (h : Nb l p q) : ¬ Nb l q p := fun k => by
  obtain ⟨i, h1, h2⟩ := h
  obtain ⟨j, k1, k2⟩ := k
  have e1 := nb_at hn h1 k2
  have e2 := nb_at hn h2 k1
  omega

theorem Nb.ne {l : List Nat} (hn : l.Nodup) {p q : Nat} (h : Nb l p q) : p ≠ q := fun e => by
  subst e
  exact h.back hn h

theorem nb_append {l m : List Nat} {a b : Nat} (hl : ∃ A, l = A ++ [a]) (hm : ∃ B, m = b :: B) (p q : Nat) : Nb (l ++ m) p q ↔ Nb l p q ∨ Nb m p q ∨ (p = a ∧ q = b) := by
  obtain ⟨A, rfl⟩ := hl
  obtain ⟨B, rfl⟩ := hm
  have hL : (A ++ [a]).length = A.length + 1 := by simp
  constructor
  · rintro ⟨i, h1, h2⟩
    rcases Nat.lt_trichotomy (i + 1) (A.length + 1) with h | h | h
    · rw [List.getElem?_append_left (by omega)] at h1 h2
      exact .inl ⟨i, h1, h2⟩
    · rw [List.getElem?_append_left (by omega)] at h1
      rw [List.getElem?_append_right (by omega), hL, show i + 1 - (A.length + 1) = 0 by omega] at h2
      rw [List.getElem?_append_right (by omega), show i - A.length = 0 by omega] at h1
      simp at h1 h2
      exact .inr (.inr ⟨h1.symm, h2.symm⟩)
    · rw [List.getElem?_append_right (by omega), hL] at h1 h2
      exact .inr (.inl ⟨i - (A.length + 1), h1, by rw [show i - (A.length + 1) + 1 = i + 1 - (A.length + 1) by omega]; exact h2⟩)
  · rintro (⟨i, h1, h2⟩ | ⟨i, h1, h2⟩ | ⟨rfl, rfl⟩)
    · have q1 := (List.getElem?_eq_some_iff.1 h1).1
      have q2 := (List.getElem?_eq_some_iff.1 h2).1
      exact ⟨i, by rw [List.getElem?_append_left q1]; exact h1, by rw [List.getElem?_append_left q2]; exact h2⟩
    · refine ⟨A.length + 1 + i, ?_, ?_⟩
      · rw [List.getElem?_append_right (by omega), hL, show A.length + 1 + i - (A.length + 1) = i by omega]; exact h1
      · rw [List.getElem?_append_right (by omega), hL, show A.length + 1 + i + 1 - (A.length + 1) = i + 1 by omega]; exact h2
    · refine ⟨A.length, ?_, ?_⟩
      · rw [List.getElem?_append_left (by omega), List.getElem?_append_right (by omega)]; simp
      · rw [List.getElem?_append_right (by omega), hL]; simp

/-- Behind one another in a face. -/
def Nx (n : Nat) (seq : Nat → List Nat) (p q : Nat) : Prop := ∃ z, z ≠ 0 ∧ z ≤ n ∧ Nb (seq z) p q

section
variable {n : Nat} {seq : Nat → List Nat}

theorem Nx.in_ (h : Part n seq) {p q : Nat} (k : Nx n seq p q) : p ≠ 0 ∧ q ≠ 0 ∧ p ≤ n ∧ q ≤ n ∧ q ∈ seq p ∧ Nb (seq p) p q := by
  obtain ⟨z, h1, h2, h3⟩ := k
  obtain ⟨m1, m2⟩ := h3.mem
  obtain ⟨e1, e2⟩ := h.mem z p h1 m1
  obtain ⟨e3, e4⟩ := h.mem z q h1 m2
  refine ⟨e2, e4, h.le z p h1 h2 m1, h.le z q h1 h2 m2, ?_, ?_⟩
  · rw [e1]; exact m2
  · rw [e1]; exact h3

theorem Nx.back (h : Part n seq) {p q : Nat} (k : Nx n seq p q) : ¬ Nx n seq q p := fun k' => by
  obtain ⟨h1, h2, h3, h4, h5, h6⟩ := k.in_ h
  obtain ⟨_, _, _, _, h7, h8⟩ := k'.in_ h
  rw [(h.mem p q h1 h5).1] at h8
  exact h6.back (h.nd p h1) h8

/-- The faces but one, and that one. -/
theorem nx_part (h : Part n seq) {X : Nat} (hX : X ≠ 0) (hXn : X ≤ n) (p q : Nat) : Nx n seq p q ↔ (∃ z, z ≠ 0 ∧ z ≤ n ∧ z ∉ seq X ∧ Nb (seq z) p q) ∨ Nb (seq X) p q := by
  constructor
  · rintro ⟨z, h1, h2, h3⟩
    by_cases e : z ∈ seq X
    · rw [(h.mem X z hX e).1] at h3; exact .inr h3
    · exact .inl ⟨z, h1, h2, e, h3⟩
  · rintro (⟨z, h1, h2, _, h3⟩ | h3)
    · exact ⟨z, h1, h2, h3⟩
    · exact ⟨X, hX, hXn, h3⟩

theorem nx_turn (h : Part n seq) {X : Nat} (hX : X ≠ 0) (hXn : X ≤ n) (p q : Nat) : Nx n (turnS seq X) p q ↔ (∃ z, z ≠ 0 ∧ z ≤ n ∧ z ∉ seq X ∧ Nb (seq z) p q) ∨ Nb (rot (seq X) X) p q := by
  constructor
  · rintro ⟨z, h1, h2, h3⟩
    by_cases e : z ∈ seq X
    · rw [turnS_in e] at h3; exact .inr h3
    · rw [turnS_out e] at h3; exact .inl ⟨z, h1, h2, e, h3⟩
  · rintro (⟨z, h1, h2, e, h3⟩ | h3)
    · exact ⟨z, h1, h2, by rw [turnS_out e]; exact h3⟩
    · exact ⟨X, hX, hXn, by rw [turnS_in (h.self X hX)]; exact h3⟩

theorem nx_cut {P Q : List Nat} {X Y : Nat} (h : Part n seq) (hX : X ≠ 0) (hXn : X ≤ n) (e : seq X = P ++ Y :: Q) (hP : X ∈ P) (p q : Nat) : Nx n (cutS seq P Y Q) p q ↔ (∃ z, z ≠ 0 ∧ z ≤ n ∧ z ∉ seq X ∧ Nb (seq z) p q) ∨ Nb P p q ∨ Nb (Y :: Q) p q := by
  have hn := h.nd X hX
  rw [e] at hn
  have hY : Y ∉ P := fun q => (List.nodup_append.1 hn).2.2 Y q Y List.mem_cons_self rfl
  have hd : ∀ z, z ∈ Y :: Q → z ∉ P := fun z hz q => (List.nodup_append.1 hn).2.2 z q z hz rfl
  have hout : ∀ z, z ∉ seq X → cutS seq P Y Q z = seq z := fun z hz => by
    rw [e] at hz
    unfold cutS
    rw [if_neg (fun q => hz (List.mem_append.2 (.inl q))), if_neg (fun q => hz (List.mem_append.2 (.inr q)))]
  constructor
  · rintro ⟨z, h1, h2, h3⟩
    by_cases k : z ∈ seq X
    · rw [e] at k
      rcases List.mem_append.1 k with k | k
      · unfold cutS at h3; rw [if_pos k] at h3; exact .inr (.inl h3)
      · unfold cutS at h3; rw [if_neg (hd z k), if_pos k] at h3; exact .inr (.inr h3)
    · rw [hout z k] at h3; exact .inl ⟨z, h1, h2, k, h3⟩
  · rintro (⟨z, h1, h2, k, h3⟩ | h3 | h3)
    · exact ⟨z, h1, h2, by rw [hout z k]; exact h3⟩
    · exact ⟨X, hX, hXn, by unfold cutS; rw [if_pos hP]; exact h3⟩
    · have hYX : Y ∈ seq X := by rw [e]; simp
      exact ⟨Y, (h.mem X Y hX hYX).2, h.le X Y hX hXn hYX, by unfold cutS; rw [if_neg hY, if_pos List.mem_cons_self]; exact h3⟩

theorem nx_part2 (h : Part n seq) {X Y : Nat} (hX : X ≠ 0) (hXn : X ≤ n) (hY : Y ≠ 0) (hYn : Y ≤ n) (p q : Nat) : Nx n seq p q ↔ (∃ z, z ≠ 0 ∧ z ≤ n ∧ z ∉ seq X ∧ z ∉ seq Y ∧ Nb (seq z) p q) ∨ Nb (seq X) p q ∨ Nb (seq Y) p q := by
  constructor
  · rintro ⟨z, h1, h2, h3⟩
    by_cases e : z ∈ seq X
    · rw [(h.mem X z hX e).1] at h3; exact .inr (.inl h3)
    · by_cases e2 : z ∈ seq Y
      · rw [(h.mem Y z hY e2).1] at h3; exact .inr (.inr h3)
      · exact .inl ⟨z, h1, h2, e, e2, h3⟩
  · rintro (⟨z, h1, h2, _, _, h3⟩ | h3 | h3)
    · exact ⟨z, h1, h2, h3⟩
    · exact ⟨X, hX, hXn, h3⟩
    · exact ⟨Y, hY, hYn, h3⟩

theorem nx_merge (h : Part n seq) {X Y : Nat} (hX : X ≠ 0) (hXn : X ≤ n) (p q : Nat) : Nx n (mrgS seq X Y) p q ↔ (∃ z, z ≠ 0 ∧ z ≤ n ∧ z ∉ seq X ∧ z ∉ seq Y ∧ Nb (seq z) p q) ∨ Nb (rot (seq X) X ++ rot (seq Y) Y) p q := by
  have hin : ∀ z, z ∈ seq X ∨ z ∈ seq Y → mrgS seq X Y z = rot (seq X) X ++ rot (seq Y) Y := fun z hz => by unfold mrgS; rw [if_pos hz]
  have hout : ∀ z, ¬ (z ∈ seq X ∨ z ∈ seq Y) → mrgS seq X Y z = seq z := fun z hz => by unfold mrgS; rw [if_neg hz]
  constructor
  · rintro ⟨z, h1, h2, h3⟩
    by_cases e : z ∈ seq X ∨ z ∈ seq Y
    · rw [hin z e] at h3; exact .inr h3
    · rw [hout z e] at h3; exact .inl ⟨z, h1, h2, fun q => e (.inl q), fun q => e (.inr q), h3⟩
  · rintro (⟨z, h1, h2, e, e2, h3⟩ | h3)
    · exact ⟨z, h1, h2, by rw [hout z (fun q => q.elim e e2)]; exact h3⟩
    · exact ⟨X, hX, hXn, by rw [hin X (.inl (h.self X hX))]; exact h3⟩
end

/-- The links of items as nodes. -/
def It (L : Nat → Nat → Prop) (p q : Nat) : Prop := ∃ x y, L (x + 1) (y + 1) ∧ p = iN x + 1 ∧ q = iN y + 1
/-- Those of ties. -/
def Tl (tt : Nat → Option (Nat × Nat)) (p q : Nat) : Prop := ∃ e a b, tt e = some (a, b) ∧ p = tN e + 1 ∧ (q = iN a + 1 ∨ q = iN b + 1)
/-- All links. -/
def AdL (L : Nat → Nat → Prop) (tt : Nat → Option (Nat × Nat)) (p q : Nat) : Prop := (It L p q ∨ It L q p) ∨ (Tl tt p q ∨ Tl tt q p)
def Ad (n : Nat) (seq : Nat → List Nat) (tt : Nat → Option (Nat × Nat)) : Nat → Nat → Prop := AdL (Nx n seq) tt
/-- One tie as it is told. -/
def updT (tt : Nat → Option (Nat × Nat)) (e : Nat) (o : Option (Nat × Nat)) : Nat → Option (Nat × Nat) := fun k => if k = e then o else tt k

theorem updT_self (tt : Nat → Option (Nat × Nat)) (e : Nat) (o : Option (Nat × Nat)) : updT tt e o e = o := if_pos rfl
theorem updT_ne {tt : Nat → Option (Nat × Nat)} {e k : Nat} (o : Option (Nat × Nat)) (h : k ≠ e) : updT tt e o k = tt k := if_neg h
theorem updT_back {tt : Nat → Option (Nat × Nat)} {e : Nat} (o : Option (Nat × Nat)) {z : Option (Nat × Nat)} (h : tt e = z) : updT (updT tt e o) e z = tt := by
  funext k
  by_cases hk : k = e
  · subst hk; rw [updT_self, h]
  · rw [updT_ne _ hk, updT_ne _ hk]

section
variable {L L' : Nat → Nat → Prop} {tt : Nat → Option (Nat × Nat)}

theorem AdL.symm {p q : Nat} (h : AdL L tt p q) : AdL L tt q p := by
  rcases h with (h | h) | (h | h)
  · exact .inl (.inr h)
  · exact .inl (.inl h)
  · exact .inr (.inr h)
  · exact .inr (.inl h)

theorem adL_congr (h : ∀ p q, L p q ↔ L' p q) : AdL L tt = AdL L' tt := by
  have : L = L' := by funext p q; exact propext (h p q)
  rw [this]

theorem adL_item {x y : Nat} (h : L (x + 1) (y + 1)) : AdL L tt (iN x + 1) (iN y + 1) := .inl (.inl ⟨x, y, h, rfl, rfl⟩)
theorem adL_a {e a b : Nat} (h : tt e = some (a, b)) : AdL L tt (tN e + 1) (iN a + 1) := .inr (.inl ⟨e, a, b, h, rfl, .inl rfl⟩)
theorem adL_b {e a b : Nat} (h : tt e = some (a, b)) : AdL L tt (tN e + 1) (iN b + 1) := .inr (.inl ⟨e, a, b, h, rfl, .inr rfl⟩)

/-- What a tie's node is linked with. -/
theorem adL_tie {e q : Nat} (h : AdL L tt (tN e + 1) q) : ∃ a b, tt e = some (a, b) ∧ (q = iN a + 1 ∨ q = iN b + 1) := by
  rcases h with (⟨x, y, _, h1, _⟩ | ⟨x, y, _, _, h1⟩) | (⟨e', a, b, h1, h2, h3⟩ | ⟨e', a, b, h1, h2, h3⟩)
  · exact absurd (Nat.succ.inj h1).symm (iN_tN _ _)
  · exact absurd (Nat.succ.inj h1).symm (iN_tN _ _)
  · obtain rfl := tN_inj (Nat.succ.inj h2)
    exact ⟨a, b, h1, h3⟩
  · rcases h3 with h3 | h3
    · exact absurd (Nat.succ.inj h3).symm (iN_tN _ _)
    · exact absurd (Nat.succ.inj h3).symm (iN_tN _ _)

/-- What an item's node is linked with. -/
theorem adL_it {x q : Nat} (h : AdL L tt (iN x + 1) q) : (∃ y, q = iN y + 1 ∧ (L (x + 1) (y + 1) ∨ L (y + 1) (x + 1))) ∨ ∃ e a b, tt e = some (a, b) ∧ q = tN e + 1 ∧ (x = a ∨ x = b) := by
  rcases h with (⟨x', y, h0, h1, h2⟩ | ⟨y, x', h0, h2, h1⟩) | (⟨e', a, b, h1, h2, h3⟩ | ⟨e', a, b, h1, h2, h3⟩)
  · obtain rfl := iN_inj (Nat.succ.inj h1)
    exact .inl ⟨y, h2, .inl h0⟩
  · obtain rfl := iN_inj (Nat.succ.inj h1)
    exact .inl ⟨y, h2, .inr h0⟩
  · exact absurd (Nat.succ.inj h2) (iN_tN _ _)
  · refine .inr ⟨e', a, b, h1, h2, ?_⟩
    rcases h3 with h3 | h3
    · exact .inl (iN_inj (Nat.succ.inj h3))
    · exact .inr (iN_inj (Nat.succ.inj h3))

theorem ad_del {a b : Nat} (hL : ∀ p q, L' p q ↔ L p q ∧ ¬ (p = a + 1 ∧ q = b + 1)) (hab : ¬ L (b + 1) (a + 1)) : delE (AdL L tt) (iN a + 1) (iN b + 1) = AdL L' tt := by
  have key : ∀ p q, It L' p q ↔ It L p q ∧ ¬ (p = iN a + 1 ∧ q = iN b + 1) := fun p q => by
    constructor
    · rintro ⟨x, y, h1, rfl, rfl⟩
      obtain ⟨h2, h3⟩ := (hL _ _).1 h1
      refine ⟨⟨x, y, h2, rfl, rfl⟩, fun ⟨e1, e2⟩ => h3 ⟨?_, ?_⟩⟩
      · rw [iN_inj (Nat.succ.inj e1)]
      · rw [iN_inj (Nat.succ.inj e2)]
    · rintro ⟨⟨x, y, h1, rfl, rfl⟩, h2⟩
      refine ⟨x, y, (hL _ _).2 ⟨h1, fun ⟨e1, e2⟩ => h2 ?_⟩, rfl, rfl⟩
      rw [Nat.succ.inj e1, Nat.succ.inj e2]
      exact ⟨rfl, rfl⟩
  have hno : ¬ It L (iN b + 1) (iN a + 1) := fun ⟨x, y, h1, h2, h3⟩ => by
    rw [← iN_inj (Nat.succ.inj h2), ← iN_inj (Nat.succ.inj h3)] at h1
    exact hab h1
  have hT : ∀ p q x y, Tl tt p q → ¬ (p = iN x + 1 ∧ q = iN y + 1) := fun p q x y ⟨e, _, _, _, h2, _⟩ ⟨e1, _⟩ => iN_tN x e (Nat.succ.inj (e1.symm.trans h2))
  funext p q
  apply propext
  unfold delE AdL
  constructor
  · rintro ⟨(h | h) | h, h2, h3⟩
    · exact .inl (.inl ((key _ _).2 ⟨h, h2⟩))
    · exact .inl (.inr ((key _ _).2 ⟨h, fun ⟨e1, e2⟩ => h3 ⟨e2, e1⟩⟩))
    · exact .inr h
  · rintro ((h | h) | (h | h))
    · obtain ⟨h1, h2⟩ := (key _ _).1 h
      refine ⟨.inl (.inl h1), h2, fun ⟨e1, e2⟩ => hno (by rw [e1, e2] at h1; exact h1)⟩
    · obtain ⟨h1, h2⟩ := (key _ _).1 h
      refine ⟨.inl (.inr h1), fun ⟨e1, e2⟩ => hno (by rw [e1, e2] at h1; exact h1), fun ⟨e1, e2⟩ => h2 ⟨e2, e1⟩⟩
    · exact ⟨.inr (.inl h), hT _ _ _ _ h, hT _ _ _ _ h⟩
    · exact ⟨.inr (.inr h), fun ⟨e1, e2⟩ => hT _ _ _ _ h ⟨e2, e1⟩, fun ⟨e1, e2⟩ => hT _ _ _ _ h ⟨e2, e1⟩⟩

theorem ad_add {a b : Nat} (hL : ∀ p q, L' p q ↔ L p q ∨ (p = a + 1 ∧ q = b + 1)) : addE (AdL L tt) (iN a + 1) (iN b + 1) = AdL L' tt := by
  have key : ∀ p q, It L' p q ↔ It L p q ∨ (p = iN a + 1 ∧ q = iN b + 1) := fun p q => by
    constructor
    · rintro ⟨x, y, h1, rfl, rfl⟩
      rcases (hL _ _).1 h1 with h2 | ⟨e1, e2⟩
      · exact .inl ⟨x, y, h2, rfl, rfl⟩
      · rw [Nat.succ.inj e1, Nat.succ.inj e2]; exact .inr ⟨rfl, rfl⟩
    · rintro (⟨x, y, h1, rfl, rfl⟩ | ⟨rfl, rfl⟩)
      · exact ⟨x, y, (hL _ _).2 (.inl h1), rfl, rfl⟩
      · exact ⟨a, b, (hL _ _).2 (.inr ⟨rfl, rfl⟩), rfl, rfl⟩
  funext p q
  apply propext
  unfold addE AdL
  rw [key, key]
  constructor
  · rintro ((((h | h) | h)) | h | ⟨h1, h2⟩)
    · exact .inl (.inl (.inl h))
    · exact .inl (.inr (.inl h))
    · exact .inr h
    · exact .inl (.inl (.inr h))
    · exact .inl (.inr (.inr ⟨h2, h1⟩))
  · rintro (((h | h) | (h | ⟨h1, h2⟩)) | h)
    · exact .inl (.inl (.inl h))
    · exact .inr (.inl h)
    · exact .inl (.inl (.inr h))
    · exact .inr (.inr ⟨h2, h1⟩)
    · exact .inl (.inr h)

theorem ad_tie {e a b : Nat} (he : tt e = none) : addE (addE (AdL L tt) (tN e + 1) (iN a + 1)) (tN e + 1) (iN b + 1) = AdL L (updT tt e (some (a, b))) := by
  have key : ∀ p q, Tl (updT tt e (some (a, b))) p q ↔ Tl tt p q ∨ (p = tN e + 1 ∧ (q = iN a + 1 ∨ q = iN b + 1)) := fun p q => by
    constructor
    · rintro ⟨k, c, d, h1, rfl, h3⟩
      by_cases hk : k = e
      · subst hk
        rw [updT_self] at h1
        injection h1 with h1
        injection h1 with h1 h2
        subst h1 h2
        exact .inr ⟨rfl, h3⟩
      · rw [updT_ne _ hk] at h1
        exact .inl ⟨k, c, d, h1, rfl, h3⟩
    · rintro (⟨k, c, d, h1, rfl, h3⟩ | ⟨rfl, h⟩)
      · have hk : k ≠ e := fun h => by rw [h, he] at h1; cases h1
        exact ⟨k, c, d, by rw [updT_ne _ hk]; exact h1, rfl, h3⟩
      · exact ⟨e, a, b, updT_self _ _ _, rfl, h⟩
  funext p q
  apply propext
  unfold addE AdL
  rw [key, key]
  constructor
  · rintro (((h | h | h) | ⟨h1, h2⟩ | ⟨h1, h2⟩) | ⟨h1, h2⟩ | ⟨h1, h2⟩)
    · exact .inl h
    · exact .inr (.inl (.inl h))
    · exact .inr (.inr (.inl h))
    · exact .inr (.inl (.inr ⟨h1, .inl h2⟩))
    · exact .inr (.inr (.inr ⟨h2, .inl h1⟩))
    · exact .inr (.inl (.inr ⟨h1, .inr h2⟩))
    · exact .inr (.inr (.inr ⟨h2, .inr h1⟩))
  · rintro (h | (h | ⟨h1, h2 | h2⟩) | (h | ⟨h1, h2 | h2⟩))
    · exact .inl (.inl (.inl h))
    · exact .inl (.inl (.inr (.inl h)))
    · exact .inl (.inr (.inl ⟨h1, h2⟩))
    · exact .inr (.inl ⟨h1, h2⟩)
    · exact .inl (.inl (.inr (.inr h)))
    · exact .inl (.inr (.inr ⟨h2, h1⟩))
    · exact .inr (.inr ⟨h2, h1⟩)

theorem ad_untie {e a b : Nat} (he : tt e = some (a, b)) : delE (delE (AdL L tt) (tN e + 1) (iN a + 1)) (tN e + 1) (iN b + 1) = AdL L (updT tt e none) := by
  have hI : ∀ p q, It L p q → p ≠ tN e + 1 ∧ q ≠ tN e + 1 := fun p q ⟨x, y, _, h1, h2⟩ => ⟨fun h => iN_tN x e (Nat.succ.inj (h1.symm.trans h)), fun h => iN_tN y e (Nat.succ.inj (h2.symm.trans h))⟩
  have key : ∀ p q, Tl (updT tt e none) p q ↔ Tl tt p q ∧ p ≠ tN e + 1 := fun p q => by
    constructor
    · rintro ⟨k, c, d, h1, rfl, h3⟩
      by_cases hk : k = e
      · subst hk; rw [updT_self] at h1; cases h1
      · rw [updT_ne _ hk] at h1
        exact ⟨⟨k, c, d, h1, rfl, h3⟩, fun h => hk (tN_inj (Nat.succ.inj h))⟩
    · rintro ⟨⟨k, c, d, h1, rfl, h3⟩, h4⟩
      have hk : k ≠ e := fun h => h4 (by rw [h])
      exact ⟨k, c, d, by rw [updT_ne _ hk]; exact h1, rfl, h3⟩
  have hq : ∀ p q, Tl tt p q → q ≠ tN e + 1 := fun p q ⟨k, c, d, _, _, h3⟩ h => by
    rcases h3 with h3 | h3
    · exact iN_tN c e (Nat.succ.inj (h3.symm.trans h))
    · exact iN_tN d e (Nat.succ.inj (h3.symm.trans h))
  have own : ∀ q, Tl tt (tN e + 1) q → q = iN a + 1 ∨ q = iN b + 1 := fun q ⟨k, c, d, h1, h2, h3⟩ => by
    have := tN_inj (Nat.succ.inj h2)
    subst this
    rw [he] at h1
    injection h1 with h1
    injection h1 with h1 h2
    subst h1 h2
    exact h3
  funext p q
  apply propext
  unfold delE AdL
  rw [key, key]
  constructor
  · rintro ⟨⟨h1 | h1 | h1, n1, n2⟩, n3, n4⟩
    · exact .inl h1
    · refine .inr (.inl ⟨h1, fun h => ?_⟩)
      subst h
      rcases own q h1 with h | h
      · exact n1 ⟨rfl, h⟩
      · exact n3 ⟨rfl, h⟩
    · refine .inr (.inr ⟨h1, fun h => ?_⟩)
      subst h
      rcases own p h1 with h | h
      · exact n2 ⟨h, rfl⟩
      · exact n4 ⟨h, rfl⟩
  · rintro (h | ⟨h1, h2⟩ | ⟨h1, h2⟩)
    · have hp : p ≠ tN e + 1 ∧ q ≠ tN e + 1 := by
        rcases h with h | h
        · exact hI _ _ h
        · exact (hI _ _ h).symm
      exact ⟨⟨.inl h, fun ⟨e1, _⟩ => hp.1 e1, fun ⟨_, e1⟩ => hp.2 e1⟩, fun ⟨e1, _⟩ => hp.1 e1, fun ⟨_, e1⟩ => hp.2 e1⟩
    · have h3 := hq _ _ h1
      exact ⟨⟨.inr (.inl h1), fun ⟨e1, _⟩ => h2 e1, fun ⟨_, e1⟩ => h3 e1⟩, fun ⟨e1, _⟩ => h2 e1, fun ⟨_, e1⟩ => h3 e1⟩
    · have h3 := hq _ _ h1
      exact ⟨⟨.inr (.inr h1), fun ⟨e1, _⟩ => h3 e1, fun ⟨_, e1⟩ => h2 e1⟩, fun ⟨e1, _⟩ => h3 e1, fun ⟨_, e1⟩ => h2 e1⟩
end

/-- Linked: a walk leads from the one to the other. -/
def Cn (adj : Nat → Nat → Prop) (p q : Nat) : Prop := ∃ l, Wk adj p q l

section
variable {adj : Nat → Nat → Prop}

theorem Cn.refl {p : Nat} (h : p ≠ 0) : Cn adj p p := ⟨_, .one p h⟩
theorem Cn.trans {p q r : Nat} (h : Cn adj p q) (k : Cn adj q r) : Cn adj p r := by
  obtain ⟨l, h⟩ := h
  obtain ⟨m, k⟩ := k
  exact h.cat k
theorem Cn.symm (hs : ∀ x y, adj x y → adj y x) {p q : Nat} (h : Cn adj p q) : Cn adj q p := by
  obtain ⟨l, h⟩ := h
  exact ⟨_, h.rev hs⟩
theorem Cn.step {p q : Nat} (h1 : p ≠ 0) (h2 : q ≠ 0) (h : adj p q) : Cn adj p q := ⟨_, .step p q q _ h1 h (.one q h2)⟩
theorem Cn.rd {p q : Nat} (h : Cn adj p q) : ∃ l, Rd adj p q l := by
  obtain ⟨l, h⟩ := h
  obtain ⟨m, h1, _⟩ := h.erase
  exact ⟨m, h1⟩
theorem cn_rd {p q : Nat} {l : List Nat} (h : Rd adj p q l) : Cn adj p q := ⟨l, h.wk⟩
theorem Cn.no {p q : Nat} (h : ¬ Cn adj p q) : ∀ l, ¬ Rd adj p q l := fun l hl => h ⟨l, hl.wk⟩
theorem Cn.mono {adj' : Nat → Nat → Prop} (hs : ∀ x y, adj x y → adj' x y) {p q : Nat} (h : Cn adj p q) : Cn adj' p q := by
  obtain ⟨l, h⟩ := h
  exact ⟨l, h.mono (fun x y _ _ => hs x y)⟩

theorem del_symm {a b : Nat} (hs : ∀ x y, adj x y → adj y x) : ∀ x y, delE adj a b x y → delE adj a b y x := fun x y ⟨h1, h2, h3⟩ => ⟨hs _ _ h1, fun ⟨e1, e2⟩ => h3 ⟨e2, e1⟩, fun ⟨e1, e2⟩ => h2 ⟨e2, e1⟩⟩

theorem del_apart (h : Wood adj) {a b : Nat} (e : adj a b) : ¬ Cn (delE adj a b) a b := fun hc => by
  obtain ⟨l, hl⟩ := hc.rd
  have h1 : Rd adj a b l := ⟨hl.wk.mono (fun x y _ _ h => h.1), hl.nd⟩
  have h2 := h.uniq h1 (h.near e)
  subst h2
  exact (hl.two rfl).2.1 ⟨rfl, rfl⟩

/-- A node alone that is hung on another one. -/
theorem add_apart {t a b : Nat} (hs : ∀ x y, adj x y → adj y x) (ht : ∀ q, ¬ adj t q) (hta : t ≠ a) (htb : t ≠ b) (hab : ¬ Cn adj a b) : ¬ Cn (addE adj t a) t b := fun hc => by
  obtain ⟨l, hl⟩ := hc.rd
  obtain ⟨hw, hn⟩ := hl
  cases hw with
  | one _ _ => exact htb rfl
  | step _ c _ m _ e hw =>
    have hc : c = a := by
      rcases e with e | ⟨_, e⟩ | ⟨e, _⟩
      · exact absurd e (ht c)
      · exact e
      · exact absurd e hta
    subst hc
    have hm := (List.nodup_cons.1 hn).1
    refine hab ⟨m, hw.mono (fun x y hx hy k => ?_)⟩
    rcases k with k | ⟨k, _⟩ | ⟨_, k⟩
    · exact k
    · exact absurd (k ▸ hx) hm
    · exact absurd (k ▸ hy) hm

/-- A path in a face: all its items hang together. -/
theorem path_cn : ∀ (l : List Nat) (S : Nat → Prop), (∀ x y, adj x y → adj y x) → (∀ p, p ∈ l → p ≠ 0 ∧ S (iN (p - 1) + 1)) → (∀ p q, Nb l p q → adj (iN (p - 1) + 1) (iN (q - 1) + 1)) → ∀ a b, a ∈ l → b ∈ l → ∃ m, Wk adj (iN (a - 1) + 1) (iN (b - 1) + 1) m ∧ ∀ z, z ∈ m → S z
  | [], _, _, _, _, a, _, ha, _ => by cases ha
  | c :: l, S, hs, h0, hb, a, b, ha, hb' => by
    have tail : ∀ p q, Nb l p q → adj (iN (p - 1) + 1) (iN (q - 1) + 1) := fun p q ⟨i, h1, h2⟩ => hb p q ⟨i + 1, h1, h2⟩
    have ih := path_cn l S hs (fun p hp => h0 p (List.mem_cons_of_mem _ hp)) tail
    have hc := h0 c List.mem_cons_self
    have down : ∀ z, z ∈ c :: l → ∃ m, Wk adj (iN (c - 1) + 1) (iN (z - 1) + 1) m ∧ ∀ u, u ∈ m → S u := fun z hz => by
      rcases List.mem_cons.1 hz with rfl | hz
      · exact ⟨_, .one _ (by omega), by simp; exact hc.2⟩
      · cases l with
        | nil => cases hz
        | cons d l =>
          obtain ⟨m, h1, h2⟩ := ih d z List.mem_cons_self hz
          refine ⟨_, .step _ _ _ _ (by omega) (hb c d ⟨0, rfl, rfl⟩) h1, fun u hu => ?_⟩
          rcases List.mem_cons.1 hu with rfl | hu
          · exact hc.2
          · exact h2 u hu
    obtain ⟨m1, k1, k2⟩ := down a ha
    obtain ⟨m2, k3, k4⟩ := down b hb'
    have k5 := k1.rev hs
    have cat : ∀ {x y z : Nat} {i j : List Nat}, Wk adj x y i → Wk adj y z j → ∃ k, Wk adj x z k ∧ ∀ u, u ∈ k → u ∈ i ∨ u ∈ j := fun {x y z i j} h k => by
      induction h with
      | one a _ => exact ⟨j, k, fun u hu => .inr hu⟩
      | step a d b i h0 e _ ih =>
        obtain ⟨k', h1, h2⟩ := ih k
        refine ⟨_, .step _ _ _ _ h0 e h1, fun u hu => ?_⟩
        rcases List.mem_cons.1 hu with rfl | hu
        · exact .inl List.mem_cons_self
        · rcases h2 u hu with h | h
          · exact .inl (List.mem_cons_of_mem _ h)
          · exact .inr h
    obtain ⟨m, h1, h2⟩ := cat k5 k3
    refine ⟨m, h1, fun z hz => ?_⟩
    rcases h2 z hz with h | h
    · exact k2 z (List.mem_reverse.1 h)
    · exact k4 z h
end
end Go.Proofs.YtdmkbcbgjdmgdaaGreatDoor

namespace Go.Proofs.YtdmkbcbgjdmgdaaGreatDoor
set_option linter.unusedVariables false

theorem split_at {l : List Nat} {x : Nat} (h : x ∈ l) : ∃ A B, l = A ++ x :: B ∧ x ∉ A := by
  induction l with
  | nil => cases h
  | cons a l ih =>
    by_cases e : a = x
    · exact ⟨[], l, by rw [e]; rfl, by simp⟩
    · have : x ∈ l := by
        rcases List.mem_cons.1 h with h | h
        · exact absurd h.symm e
        · exact h
      obtain ⟨A, B, h1, h2⟩ := ih this
      refine ⟨a :: A, B, by rw [h1]; rfl, fun q => ?_⟩
      rcases List.mem_cons.1 q with q | q
      · exact e q.symm
      · exact h2 q

theorem last_get {l : List Nat} {a : Nat} (hne : l ≠ []) {K : List Nat} (h : (K ++ l)[(K ++ l).length - 1]? = some a) : ∃ A, l = A ++ [a] := by
  have hl : 0 < l.length := List.length_pos_iff.2 hne
  rw [List.length_append, List.getElem?_append_right (by omega), show K.length + l.length - 1 - K.length = l.length - 1 by omega] at h
  rw [← List.getLast?_eq_getElem?] at h
  exact List.getLast?_eq_some_iff.1 h

theorem mem_last {A : List Nat} {a : Nat} {l : List Nat} (h : l = A ++ [a]) : a ∈ l := by rw [h]; simp

theorem nx_sub {n : Nat} {seq : Nat → List Nat} (p : Part n seq) {X : Nat} (hX : X ≠ 0) {l m : List Nat} {z u v : Nat} (hz0 : z ≠ 0) (hz : z ∉ seq X) (h : Nb (seq z) u v) : u ∉ seq X ∧ v ∉ seq X := by
  obtain ⟨m1, m2⟩ := h.mem
  have key : ∀ u, u ∈ seq z → u ∉ seq X := fun u hu q => by
    have e1 := (p.mem z u hz0 hu).1
    have e2 := (p.mem X u hX q).1
    exact hz (by rw [← e2, e1]; exact p.self z hz0)
  exact ⟨key u m1, key v m2⟩

section
variable {n : Nat} {seq : Nat → List Nat} {tt : Nat → Option (Nat × Nat)}

theorem Ad.symm {p q : Nat} (h : Ad n seq tt p q) : Ad n seq tt q p := AdL.symm h

/-- A stretch of a face hangs together. -/
theorem stretch_cn {L : Nat → Nat → Prop} {l : List Nat} (h0 : ∀ p, p ∈ l → p ≠ 0) (hL : ∀ p q, Nb l p q → L p q) {a b : Nat} (ha : a + 1 ∈ l) (hb : b + 1 ∈ l) : Cn (AdL L tt) (iN a + 1) (iN b + 1) := by
  obtain ⟨m, h1, _⟩ := path_cn (adj := AdL L tt) l (fun _ => True) (fun x y h => h.symm) (fun p hp => ⟨h0 p hp, trivial⟩) (fun p q h => by
    have h1 := h0 p h.mem.1
    have h2 := h0 q h.mem.2
    exact adL_item (by rw [show p - 1 + 1 = p by omega, show q - 1 + 1 = q by omega]; exact hL p q h)) (a + 1) (b + 1) ha hb
  exact ⟨m, h1⟩

theorem face_cn (p : Part n seq) {a b : Nat} (ha : a < n) (h : b + 1 ∈ seq (a + 1)) : Cn (Ad n seq tt) (iN a + 1) (iN b + 1) :=
  stretch_cn (l := seq (a + 1)) (fun q hq => (p.mem _ q (by omega) hq).2) (fun u v h => ⟨a + 1, by omega, by omega, h⟩) (p.self _ (by omega)) h

/-- Where the links of the one are walks of the other. -/
theorem cn_sub {adj adj' : Nat → Nat → Prop} (h : ∀ p q, adj' p q → Cn adj p q) {p q : Nat} (k : Cn adj' p q) : Cn adj p q := by
  obtain ⟨l, k⟩ := k
  induction k with
  | one a ha => exact Cn.refl ha
  | step a c b l ha e _ ih => exact (h a c e).trans ih

/-- The same items in each face: the same is linked. -/
theorem cn_same {seq' : Nat → List Nat} (p : Part n seq) (hs : ∀ u v, Nx n seq' u v → u ≠ 0 ∧ v ≠ 0 ∧ u ≤ n ∧ v ∈ seq u) {a b : Nat} (k : Cn (Ad n seq' tt) a b) : Cn (Ad n seq tt) a b := by
  have item : ∀ u v, It (Nx n seq') u v → Cn (Ad n seq tt) u v := fun u v ⟨x, y, h, e1, e2⟩ => by
    obtain ⟨_, _, h3, h4⟩ := hs _ _ h
    rw [e1, e2]
    exact face_cn p (by omega) h4
  refine cn_sub (fun u v h => ?_) k
  rcases h with (h | h) | (h | h)
  · exact item u v h
  · exact (item v u h).symm (fun x y h => h.symm)
  · have : u ≠ 0 ∧ v ≠ 0 := by
      obtain ⟨e, c, d, _, e1, e2⟩ := h
      refine ⟨by omega, ?_⟩
      rcases e2 with e2 | e2 <;> omega
    exact Cn.step this.1 this.2 (.inr (.inl h))
  · have : u ≠ 0 ∧ v ≠ 0 := by
      obtain ⟨e, c, d, _, e1, e2⟩ := h
      refine ⟨?_, by omega⟩
      rcases e2 with e2 | e2 <;> omega
    exact Cn.step this.1 this.2 (.inr (.inr h))

theorem turn_mem (p : Part n seq) {X : Nat} (hX : X ≠ 0) {u v : Nat} (hu : u ≠ 0) : v ∈ turnS seq X u ↔ v ∈ seq u := by
  by_cases e : u ∈ seq X
  · rw [turnS_in e, rot_mem, (p.mem X u hX e).1]
  · rw [turnS_out e]

theorem part_turn (p : Part n seq) {X : Nat} (hX : X ≠ 0) : Part n (turnS seq X) := by
  refine ⟨fun x hx => (turn_mem p hX hx).2 (p.self x hx), fun x y hx hy => ?_, fun x hx => ?_, fun x y hx hxn hy => p.le x y hx hxn ((turn_mem p hX hx).1 hy), fun x hx => ?_⟩
  · have hy' := (turn_mem p hX hx).1 hy
    obtain ⟨e1, e2⟩ := p.mem x y hx hy'
    refine ⟨?_, e2⟩
    by_cases e : x ∈ seq X
    · have : y ∈ seq X := by rw [← (p.mem X x hX e).1]; exact hy'
      rw [turnS_in e, turnS_in this]
    · have : y ∉ seq X := fun q => e (by rw [← (p.mem X y hX q).1, e1]; exact p.self x hx)
      rw [turnS_out e, turnS_out this, e1]
  · by_cases e : x ∈ seq X
    · rw [turnS_in e]; exact rot_nd (p.nd X hX)
    · rw [turnS_out e]; exact p.nd x hx
  · by_cases e : x ∈ seq X
    · rw [turnS_in e, rot_len]; exact p.len X hX
    · rw [turnS_out e]; exact p.len x hx

theorem turn_cn (p : Part n seq) {X : Nat} (hX : X ≠ 0) {a b : Nat} : Cn (Ad n (turnS seq X) tt) a b ↔ Cn (Ad n seq tt) a b := by
  have p' := part_turn p hX
  constructor
  · refine cn_same p (fun u v h => ?_)
    obtain ⟨h1, h2, h3, _, h5, _⟩ := h.in_ p'
    exact ⟨h1, h2, h3, (turn_mem p hX h1).1 h5⟩
  · refine cn_same p' (fun u v h => ?_)
    obtain ⟨h1, h2, h3, _, h5, _⟩ := h.in_ p
    exact ⟨h1, h2, h3, (turn_mem p hX h1).2 h5⟩

/-- What 'turn' cuts and links. -/
theorem turn_links (p : Part n seq) {x d l pr : Nat} (hx : x < n) (hd : (seq (x + 1))[0]? = some (d + 1)) (hne : d ≠ x) (hl : (rot (seq (d + 1)) (d + 1))[(seq (d + 1)).length - 1]? = some (l + 1)) (hp : (rot (seq (x + 1)) (x + 1))[(seq (x + 1)).length - 1]? = some (pr + 1)) :
    (d < n ∧ l < n ∧ pr < n) ∧ Ad n seq tt (iN pr + 1) (iN x + 1) ∧ addE (delE (Ad n seq tt) (iN pr + 1) (iN x + 1)) (iN l + 1) (iN d + 1) = Ad n (turnS seq (x + 1)) tt ∧ (Wood (Ad n seq tt) → ¬ Cn (delE (Ad n seq tt) (iN pr + 1) (iN x + 1)) (iN l + 1) (iN d + 1)) := by
  have hX : x + 1 ≠ 0 := by omega
  obtain ⟨A, B, e, hA⟩ := split_at (p.self (x + 1) hX)
  have hAne : A ≠ [] := fun q => by rw [e, q] at hd; simp at hd; omega
  obtain ⟨A', rfl⟩ : ∃ A', A = (d + 1) :: A' := by
    cases A with
    | nil => exact absurd rfl hAne
    | cons c A' => rw [e] at hd; simp at hd; exact ⟨A', by rw [hd]⟩
  have hdin : d + 1 ∈ seq (x + 1) := List.mem_of_getElem? hd
  have hsd : seq (d + 1) = seq (x + 1) := (p.mem _ _ hX hdin).1
  have hnd := p.nd _ hX
  have hrot : rot (seq (x + 1)) (x + 1) = (x + 1) :: B ++ ((d + 1) :: A') := by rw [e, rot_split hA]; rfl
  have hself : rot (seq (d + 1)) (d + 1) = seq (x + 1) := by rw [hsd]; exact rot_self (T := A' ++ (x + 1) :: B) (by rw [e]; rfl)
  have hlA : ∃ K, (x + 1) :: B = K ++ [l + 1] := by
    rw [hself, hsd, e] at hl
    exact last_get (by simp) hl
  have hpA : ∃ K, (d + 1) :: A' = K ++ [pr + 1] := by
    rw [← rot_len (seq (x + 1)) (x + 1), hrot] at hp
    exact last_get (by simp) hp
  have hlm : l + 1 ∈ (x + 1) :: B := by obtain ⟨K, hK⟩ := hlA; exact mem_last hK
  have hpm : pr + 1 ∈ (d + 1) :: A' := by obtain ⟨K, hK⟩ := hpA; exact mem_last hK
  have hle : ∀ u, u + 1 ∈ seq (x + 1) → u < n := fun u hu => by have := p.le _ _ hX (by omega) hu; omega
  have hnz : ∀ u, u ∈ seq (x + 1) → u ≠ 0 := fun u hu => (p.mem _ u hX hu).2
  have hdis : ∀ u, u ∈ (d + 1) :: A' → u ∉ (x + 1) :: B := fun u hu q => by
    rw [e] at hnd
    exact (List.nodup_append.1 hnd).2.2 u hu u q rfl
  have inA : ∀ u, u ∈ (d + 1) :: A' → u ∈ seq (x + 1) := fun u hu => by rw [e]; exact List.mem_append.2 (.inl hu)
  have inB : ∀ u, u ∈ (x + 1) :: B → u ∈ seq (x + 1) := fun u hu => by rw [e]; exact List.mem_append.2 (.inr hu)
  have nbs : ∀ u v, Nb (seq (x + 1)) u v ↔ Nb ((d + 1) :: A') u v ∨ Nb ((x + 1) :: B) u v ∨ (u = pr + 1 ∧ v = x + 1) := fun u v => by
    rw [e]; exact nb_append hpA ⟨B, rfl⟩ u v
  have nbr : ∀ u v, Nb (rot (seq (x + 1)) (x + 1)) u v ↔ Nb ((x + 1) :: B) u v ∨ Nb ((d + 1) :: A') u v ∨ (u = l + 1 ∧ v = d + 1) := fun u v => by
    rw [hrot]; exact nb_append hlA ⟨A', rfl⟩ u v
  have hpx : Nx n seq (pr + 1) (x + 1) := (nx_part p hX (by omega) _ _).2 (.inr ((nbs _ _).2 (.inr (.inr ⟨rfl, rfl⟩))))
  have hdel : delE (Ad n seq tt) (iN pr + 1) (iN x + 1) = AdL (fun u v => Nx n seq u v ∧ ¬ (u = pr + 1 ∧ v = x + 1)) tt := ad_del (fun u v => Iff.rfl) (hpx.back p)
  refine ⟨⟨hle d hdin, hle l (inB _ hlm), hle pr (inA _ hpm)⟩, adL_item hpx, ?_, fun hw hc => ?_⟩
  · rw [hdel]
    refine ad_add (fun u v => ?_)
    rw [nx_turn p hX (by omega), nx_part p hX (by omega), nbr, nbs]
    constructor
    · rintro (⟨z, h1, h2, h3, h4⟩ | h | h | h)
      · have := nx_sub (l := []) (m := []) p hX h1 h3 h4
        exact .inl ⟨.inl ⟨z, h1, h2, h3, h4⟩, fun ⟨e1, _⟩ => this.1 (by rw [e1]; exact inA _ hpm)⟩
      · exact .inl ⟨.inr (.inr (.inl h)), fun ⟨e1, _⟩ => hdis _ hpm (by rw [← e1]; exact h.mem.1)⟩
      · exact .inl ⟨.inr (.inl h), fun ⟨_, e2⟩ => hdis _ h.mem.2 (by rw [e2]; exact List.mem_cons_self)⟩
      · exact .inr h
    · rintro (⟨⟨z, h1, h2, h3, h4⟩ | h | h | h, h5⟩ | h)
      · exact .inl ⟨z, h1, h2, h3, h4⟩
      · exact .inr (.inr (.inl h))
      · exact .inr (.inl h)
      · exact absurd h h5
      · exact .inr (.inr (.inr h))
  · rw [hdel] at hc
    have c1 : Cn (AdL (fun u v => Nx n seq u v ∧ ¬ (u = pr + 1 ∧ v = x + 1)) tt) (iN x + 1) (iN l + 1) := stretch_cn (l := (x + 1) :: B) (fun u hu => hnz u (inB u hu)) (fun u v h => ⟨(nx_part p hX (by omega) _ _).2 (.inr ((nbs _ _).2 (.inr (.inl h)))), fun ⟨e1, _⟩ => hdis _ hpm (by rw [← e1]; exact h.mem.1)⟩) List.mem_cons_self hlm
    have c2 : Cn (AdL (fun u v => Nx n seq u v ∧ ¬ (u = pr + 1 ∧ v = x + 1)) tt) (iN d + 1) (iN pr + 1) := stretch_cn (l := (d + 1) :: A') (fun u hu => hnz u (inA u hu)) (fun u v h => ⟨(nx_part p hX (by omega) _ _).2 (.inr ((nbs _ _).2 (.inl h))), fun ⟨_, e2⟩ => hdis _ h.mem.2 (by rw [e2]; exact List.mem_cons_self)⟩) List.mem_cons_self hpm
    have c3 := ((c1.trans hc).trans c2).symm (fun u v h => h.symm)
    rw [← hdel] at c3
    exact del_apart hw (adL_item hpx) c3

/-- What 'Split' cuts: the face begins with the one. -/
theorem split_links (p : Part n seq) {a b l : Nat} {P Q : List Nat} (ha : a < n) (e : seq (a + 1) = (a + 1) :: P ++ (b + 1) :: Q) (hl : (rot (seq (b + 1)) (b + 1))[(seq (b + 1)).length - 1]? = some (l + 1)) :
    l < n ∧ Ad n seq tt (iN l + 1) (iN b + 1) ∧ delE (Ad n seq tt) (iN l + 1) (iN b + 1) = Ad n (cutS seq ((a + 1) :: P) (b + 1) Q) tt ∧ (Wood (Ad n seq tt) → ¬ Cn (Ad n (cutS seq ((a + 1) :: P) (b + 1) Q) tt) (iN a + 1) (iN b + 1)) := by
  have hX : a + 1 ≠ 0 := by omega
  have hnd := p.nd _ hX
  have hbin : b + 1 ∈ seq (a + 1) := by rw [e]; simp
  have hsb : seq (b + 1) = seq (a + 1) := (p.mem _ _ hX hbin).1
  have hdis : ∀ u, u ∈ (a + 1) :: P → u ∉ (b + 1) :: Q := fun u hu q => by
    rw [e] at hnd
    exact (List.nodup_append.1 hnd).2.2 u hu u q rfl
  have hbP : b + 1 ∉ (a + 1) :: P := fun q => hdis _ q List.mem_cons_self
  have hrot : rot (seq (b + 1)) (b + 1) = (b + 1) :: Q ++ ((a + 1) :: P) := by rw [hsb, e, rot_split hbP]; rfl
  have hlA : ∃ K, (a + 1) :: P = K ++ [l + 1] := by
    rw [← rot_len (seq (b + 1)) (b + 1), hrot] at hl
    exact last_get (by simp) hl
  have hlm : l + 1 ∈ (a + 1) :: P := by obtain ⟨K, hK⟩ := hlA; exact mem_last hK
  have inA : ∀ u, u ∈ (a + 1) :: P → u ∈ seq (a + 1) := fun u hu => by rw [e]; exact List.mem_append.2 (.inl hu)
  have hnz : ∀ u, u ∈ seq (a + 1) → u ≠ 0 := fun u hu => (p.mem _ u hX hu).2
  have nbs : ∀ u v, Nb (seq (a + 1)) u v ↔ Nb ((a + 1) :: P) u v ∨ Nb ((b + 1) :: Q) u v ∨ (u = l + 1 ∧ v = b + 1) := fun u v => by
    rw [e]; exact nb_append hlA ⟨Q, rfl⟩ u v
  have hlb : Nx n seq (l + 1) (b + 1) := (nx_part p hX (by omega) _ _).2 (.inr ((nbs _ _).2 (.inr (.inr ⟨rfl, rfl⟩))))
  have key : ∀ u v, Nx n (cutS seq ((a + 1) :: P) (b + 1) Q) u v ↔ Nx n seq u v ∧ ¬ (u = l + 1 ∧ v = b + 1) := fun u v => by
    rw [nx_cut p hX (by omega) e List.mem_cons_self, nx_part p hX (by omega), nbs]
    constructor
    · rintro (⟨z, h1, h2, h3, h4⟩ | h | h)
      · have := nx_sub (l := []) (m := []) p hX h1 h3 h4
        exact ⟨.inl ⟨z, h1, h2, h3, h4⟩, fun ⟨e1, _⟩ => this.1 (by rw [e1]; exact inA _ hlm)⟩
      · exact ⟨.inr (.inl h), fun ⟨_, e2⟩ => hbP (by rw [← e2]; exact h.mem.2)⟩
      · exact ⟨.inr (.inr (.inl h)), fun ⟨e1, _⟩ => hdis _ hlm (by rw [← e1]; exact h.mem.1)⟩
    · rintro ⟨⟨z, h1, h2, h3, h4⟩ | h | h | h, h5⟩
      · exact .inl ⟨z, h1, h2, h3, h4⟩
      · exact .inr (.inl h)
      · exact .inr (.inr h)
      · exact absurd h h5
  have hdel : delE (Ad n seq tt) (iN l + 1) (iN b + 1) = Ad n (cutS seq ((a + 1) :: P) (b + 1) Q) tt := ad_del key (hlb.back p)
  refine ⟨by have := p.le _ _ hX (by omega) (inA _ hlm); omega, adL_item hlb, hdel, fun hw hc => ?_⟩
  have c1 : Cn (Ad n (cutS seq ((a + 1) :: P) (b + 1) Q) tt) (iN a + 1) (iN l + 1) := stretch_cn (l := (a + 1) :: P) (fun u hu => hnz u (inA u hu)) (fun u v h => (key u v).2 ⟨(nx_part p hX (by omega) _ _).2 (.inr ((nbs _ _).2 (.inl h))), fun ⟨_, e2⟩ => hbP (by rw [← e2]; exact h.mem.2)⟩) List.mem_cons_self hlm
  have c2 := (c1.symm (fun u v h => h.symm)).trans hc
  rw [← hdel] at c2
  exact del_apart hw (adL_item hlb) c2

/-- What 'Merge' links: both faces begin with the ones. -/
theorem merge_links (p : Part n seq) {a b l : Nat} {P Q : List Nat} (ha : a < n) (hb : b < n) (ea : seq (a + 1) = (a + 1) :: P) (eb : seq (b + 1) = (b + 1) :: Q) (hl : (rot (seq (a + 1)) (a + 1))[(seq (a + 1)).length - 1]? = some (l + 1)) (hno : ¬ Cn (Ad n seq tt) (iN a + 1) (iN b + 1)) :
    l < n ∧ addE (Ad n seq tt) (iN l + 1) (iN b + 1) = Ad n (mrgS seq (a + 1) (b + 1)) tt ∧ ¬ Cn (Ad n seq tt) (iN l + 1) (iN b + 1) := by
  have hX : a + 1 ≠ 0 := by omega
  have hY : b + 1 ≠ 0 := by omega
  have hra : rot (seq (a + 1)) (a + 1) = (a + 1) :: P := by rw [rot_self ea, ea]
  have hrb : rot (seq (b + 1)) (b + 1) = (b + 1) :: Q := by rw [rot_self eb, eb]
  have hlA : ∃ K, (a + 1) :: P = K ++ [l + 1] := by
    rw [hra, ea] at hl
    exact last_get (K := []) (by simp) hl
  have hlm : l + 1 ∈ seq (a + 1) := by obtain ⟨K, hK⟩ := hlA; rw [ea]; exact mem_last hK
  refine ⟨by have := p.le _ _ hX (by omega) hlm; omega, ?_, fun hc => hno ((face_cn p ha hlm).trans hc)⟩
  refine ad_add (fun u v => ?_)
  rw [nx_merge p hX (by omega), nx_part2 p hX (by omega) hY (by omega), hra, hrb, nb_append hlA ⟨Q, rfl⟩, ea, eb]
  constructor
  · rintro (h | h | h | h)
    · exact .inl (.inl h)
    · exact .inl (.inr (.inl h))
    · exact .inl (.inr (.inr h))
    · exact .inr h
  · rintro ((h | h | h) | h)
    · exact .inl h
    · exact .inr (.inl h)
    · exact .inr (.inr (.inl h))
    · exact .inr (.inr (.inr h))
end
end Go.Proofs.YtdmkbcbgjdmgdaaGreatDoor

namespace Go.Proofs.YtdmkbcbgjdmgdaaGreatDoor
set_option linter.unusedVariables false

/-- The same cycles. -/
def Rq (s s' : Nat → List Nat) : Prop := ∀ x, x ≠ 0 → rot (s x) x = rot (s' x) x

theorem Rq.refl (s : Nat → List Nat) : Rq s s := fun _ _ => rfl
theorem Rq.trans {a b c : Nat → List Nat} (h : Rq a b) (k : Rq b c) : Rq a c := fun x hx => (h x hx).trans (k x hx)

section
variable {n : Nat} {s s' : Nat → List Nat}

theorem Rq.mem (h : Rq s s') {x y : Nat} (hx : x ≠ 0) : y ∈ s x ↔ y ∈ s' x := by
  have := h x hx
  constructor
  · intro q; exact rot_mem.1 (this ▸ rot_mem.2 q)
  · intro q; exact rot_mem.1 (this ▸ rot_mem.2 q)

theorem Rq.len (h : Rq s s') {x : Nat} (hx : x ≠ 0) : (s x).length = (s' x).length := by
  rw [← rot_len (s x) x, h x hx, rot_len]

theorem rq_turn (p : Part n s) {X : Nat} (hX : X ≠ 0) : Rq (turnS s X) s := fun x hx => by
  by_cases e : x ∈ s X
  · rw [turnS_in e, rot_rot (p.nd X hX) (p.self X hX) e, (p.mem X x hX e).1]
  · rw [turnS_out e]

theorem splS_out {X Y z : Nat} {P Q : List Nat} (p : Part n s) (hX : X ≠ 0) (e : rot (s X) X = P ++ Y :: Q) (hP : Y ∉ P) (hz : z ∉ s X) : splS s X Y z = s z := by
  rw [splS_of e hP]
  have : ∀ u, u ∈ P ++ Y :: Q → u ∈ s X := fun u hu => rot_mem.1 (by rw [e]; exact hu)
  unfold cutS
  rw [if_neg (fun q => hz (this z (List.mem_append.2 (.inl q)))), if_neg (fun q => hz (this z (List.mem_append.2 (.inr q))))]

theorem rq_split (p : Part n s) (p' : Part n s') (h : Rq s s') {X Y : Nat} (hX : X ≠ 0) (hne : X ≠ Y) (hY : Y ∈ s X) : Rq (splS s X Y) (splS s' X Y) := fun x hx => by
  obtain ⟨P, Q, e, hP⟩ := rot_parts p hX hne hY
  have e' : rot (s' X) X = X :: P ++ Y :: Q := by rw [← h X hX]; exact e
  by_cases hz : x ∈ s X
  · have hz' : x ∈ X :: P ++ Y :: Q := by rw [← e]; exact rot_mem.2 hz
    rcases List.mem_append.1 hz' with q | q
    · rw [splS_first p hX e x q, splS_first p' hX e' x q]
    · rw [splS_second p hX e x q, splS_second p' hX e' x q]
  · rw [splS_out p hX e hP hz, splS_out p' hX e' hP (fun q => hz ((h.mem hX).2 q))]
    exact h x hx

theorem rq_merge (h : Rq s s') {X Y : Nat} (hX : X ≠ 0) (hY : Y ≠ 0) : Rq (mrgS s X Y) (mrgS s' X Y) := fun x hx => by
  unfold mrgS
  rw [h X hX, h Y hY]
  by_cases q : x ∈ s X ∨ x ∈ s Y
  · rw [if_pos q, if_pos (by rw [← h.mem hX, ← h.mem hY]; exact q)]
  · rw [if_neg q, if_neg (by rw [← h.mem hX, ← h.mem hY]; exact q)]
    exact h x hx

theorem split_turn (p : Part n s) {X Y : Nat} (hX : X ≠ 0) (hne : X ≠ Y) (hY : Y ∈ s X) : splS (turnS s X) X Y = splS s X Y := by
  obtain ⟨P, Q, e, hP⟩ := rot_parts p hX hne hY
  have e1 : turnS s X X = X :: P ++ Y :: Q := by rw [turnS_self p hX, e]
  have e2 : rot (turnS s X X) X = X :: P ++ Y :: Q := by rw [rot_self (T := P ++ Y :: Q) (by rw [e1]; rfl), e1]
  rw [splS_of e2 hP, split_is p hX e]

theorem merge_turn (p : Part n s) {X Y : Nat} (hX : X ≠ 0) (hY : Y ≠ 0) : mrgS (turnS (turnS s X) Y) X Y = mrgS s X Y := by
  have p1 := part_turn p hX
  have q1 := rq_turn p hX
  have q2 := (rq_turn p1 hY).trans q1
  funext x
  unfold mrgS
  rw [q2 X hX, q2 Y hY]
  by_cases q : x ∈ s X ∨ x ∈ s Y
  · rw [if_pos q, if_pos (by rw [q2.mem hX, q2.mem hY]; exact q)]
  · have hq1 : x ∉ turnS s X Y := fun k => q (.inr ((q1.mem hY).1 k))
    rw [if_neg q, if_neg (by rw [q2.mem hX, q2.mem hY]; exact q), turnS_out hq1, turnS_out (fun k => q (.inl k))]

theorem part_split (p : Part n s) {X Y : Nat} (hX : X ≠ 0) (hne : X ≠ Y) (hY : Y ∈ s X) : Part n (splS s X Y) := by
  obtain ⟨P, Q, e, hP⟩ := rot_parts p hX hne hY
  have hnd : (X :: P ++ Y :: Q).Nodup := by rw [← e]; exact rot_nd (p.nd X hX)
  have hin : ∀ u, u ∈ s X ↔ u ∈ X :: P ++ Y :: Q := fun u => by rw [← e, rot_mem]
  have hlen : (X :: P ++ Y :: Q).length = (s X).length := by rw [← e, rot_len]
  have hl := p.len X hX
  -- the three kinds of items
  have kind : ∀ x, (x ∈ X :: P ∧ splS s X Y x = X :: P) ∨ (x ∈ Y :: Q ∧ splS s X Y x = Y :: Q) ∨ (x ∉ s X ∧ splS s X Y x = s x) := fun x => by
    by_cases hz : x ∈ s X
    · rcases List.mem_append.1 ((hin x).1 hz) with q | q
      · exact .inl ⟨q, splS_first p hX e x q⟩
      · exact .inr (.inl ⟨q, splS_second p hX e x q⟩)
    · exact .inr (.inr ⟨hz, splS_out p hX e hP hz⟩)
  have sub : ∀ x, x ≠ 0 → ∀ y, y ∈ splS s X Y x → y ∈ s x := fun x hx y hy => by
    rcases kind x with ⟨q, h⟩ | ⟨q, h⟩ | ⟨q, h⟩
    · rw [h] at hy
      have hx' := (hin x).2 (List.mem_append.2 (.inl q))
      rw [(p.mem X x hX hx').1]
      exact (hin y).2 (List.mem_append.2 (.inl hy))
    · rw [h] at hy
      have hx' := (hin x).2 (List.mem_append.2 (.inr q))
      rw [(p.mem X x hX hx').1]
      exact (hin y).2 (List.mem_append.2 (.inr hy))
    · rw [h] at hy; exact hy
  refine ⟨fun x hx => ?_, fun x y hx hy => ⟨?_, (p.mem x y hx (sub x hx y hy)).2⟩, fun x hx => ?_, fun x y hx hxn hy => p.le x y hx hxn (sub x hx y hy), fun x hx => ?_⟩
  · rcases kind x with ⟨q, h⟩ | ⟨q, h⟩ | ⟨q, h⟩
    · rw [h]; exact q
    · rw [h]; exact q
    · rw [h]; exact p.self x hx
  · rcases kind x with ⟨q, h⟩ | ⟨q, h⟩ | ⟨q, h⟩
    · rw [h] at hy ⊢; exact splS_first p hX e y hy
    · rw [h] at hy ⊢; exact splS_second p hX e y hy
    · rw [h] at hy ⊢
      have : y ∉ s X := fun k => q (by
        have e1 := (p.mem x y hx hy).1
        have e2 := (p.mem X y hX k).1
        rw [← e2, e1]; exact p.self x hx)
      rw [splS_out p hX e hP this]
      exact (p.mem x y hx hy).1
  · rcases kind x with ⟨q, h⟩ | ⟨q, h⟩ | ⟨q, h⟩
    · rw [h]; exact (List.nodup_append.1 hnd).1
    · rw [h]; exact (List.nodup_append.1 hnd).2.1
    · rw [h]; exact p.nd x hx
  · rw [List.length_append] at hlen
    rcases kind x with ⟨q, h⟩ | ⟨q, h⟩ | ⟨q, h⟩
    · rw [h]; omega
    · rw [h]; omega
    · rw [h]; exact p.len x hx

theorem part_len (p : Part n s) (hn : n ≤ 4194304) {X : Nat} (hX : X ≠ 0) (hXn : X ≤ n) : (s X).length ≤ n := by
  have key : ∀ (F : Nat) (l : List Nat), l.Nodup → (∀ z, z ∈ l → z ≠ 0 ∧ z ≤ F) → l.length ≤ F := by
    intro F
    induction F with
    | zero =>
      intro l hn h
      cases l with
      | nil => simp
      | cons a l => have := h a (by simp); omega
    | succ F ih =>
      intro l hn h
      by_cases q : F + 1 ∈ l
      · have h1 := ih (l.erase (F + 1)) (hn.erase _) (fun z hz => by
          have h2 := (List.Nodup.mem_erase_iff hn).1 hz
          have := h z h2.2
          omega)
        rw [List.length_erase_of_mem q] at h1
        omega
      · have := ih l hn (fun z hz => by
          have h1 := h z hz
          have : z ≠ F + 1 := fun e => q (e ▸ hz)
          omega)
        omega
  exact key n (s X) (p.nd X hX) (fun z hz => ⟨(p.mem X z hX hz).2, p.le X z hX hXn hz⟩)

theorem part_merge (p : Part n s) (hn : n ≤ 4194304) {X Y : Nat} (hX : X ≠ 0) (hXn : X ≤ n) (hY : Y ≠ 0) (hYn : Y ≤ n) (hne : Y ∉ s X) : Part n (mrgS s X Y) := by
  have hin : ∀ u, (u ∈ s X ∨ u ∈ s Y) ↔ u ∈ rot (s X) X ++ rot (s Y) Y := fun u => by rw [List.mem_append, rot_mem, rot_mem]
  have kind : ∀ x, ((x ∈ s X ∨ x ∈ s Y) ∧ mrgS s X Y x = rot (s X) X ++ rot (s Y) Y) ∨ (¬ (x ∈ s X ∨ x ∈ s Y) ∧ mrgS s X Y x = s x) := fun x => by
    by_cases q : x ∈ s X ∨ x ∈ s Y
    · exact .inl ⟨q, by unfold mrgS; rw [if_pos q]⟩
    · exact .inr ⟨q, by unfold mrgS; rw [if_neg q]⟩
  have dis : ∀ u, u ∈ s X → u ∉ s Y := fun u h1 h2 => hne (by
    rw [← (p.mem X u hX h1).1, (p.mem Y u hY h2).1]; exact p.self Y hY)
  have nz : ∀ u, u ∈ s X ∨ u ∈ s Y → u ≠ 0 ∧ u ≤ n := fun u hu => by
    rcases hu with q | q
    · exact ⟨(p.mem X u hX q).2, p.le X u hX hXn q⟩
    · exact ⟨(p.mem Y u hY q).2, p.le Y u hY hYn q⟩
  refine ⟨fun x hx => ?_, fun x y hx hy => ?_, fun x hx => ?_, fun x y hx hxn hy => ?_, fun x hx => ?_⟩
  · rcases kind x with ⟨q, h⟩ | ⟨q, h⟩
    · rw [h]; exact (hin x).1 q
    · rw [h]; exact p.self x hx
  · rcases kind x with ⟨q, h⟩ | ⟨q, h⟩
    · rw [h] at hy ⊢
      have hy' := (hin y).2 hy
      refine ⟨?_, (nz y hy').1⟩
      unfold mrgS
      rw [if_pos hy']
    · rw [h] at hy ⊢
      obtain ⟨e1, e2⟩ := p.mem x y hx hy
      refine ⟨?_, e2⟩
      have : ¬ (y ∈ s X ∨ y ∈ s Y) := fun k => q (by
        rcases k with k | k
        · exact .inl (by rw [← (p.mem X y hX k).1, e1]; exact p.self x hx)
        · exact .inr (by rw [← (p.mem Y y hY k).1, e1]; exact p.self x hx))
      unfold mrgS
      rw [if_neg this, e1]
  · rcases kind x with ⟨q, h⟩ | ⟨q, h⟩
    · rw [h]
      refine List.nodup_append.2 ⟨rot_nd (p.nd X hX), rot_nd (p.nd Y hY), fun u hu v hv e => ?_⟩
      subst e
      exact dis u (rot_mem.1 hu) (rot_mem.1 hv)
    · rw [h]; exact p.nd x hx
  · rcases kind x with ⟨q, h⟩ | ⟨q, h⟩
    · rw [h] at hy; exact (nz y ((hin y).2 hy)).2
    · rw [h] at hy; exact p.le x y hx hxn hy
  · rcases kind x with ⟨q, h⟩ | ⟨q, h⟩
    · rw [h, List.length_append, rot_len, rot_len]
      have := part_len p hn hX hXn
      have := part_len p hn hY hYn
      omega
    · rw [h]; exact p.len x hx

theorem rq_cn (p : Part n s) (p' : Part n s') (h : Rq s s') {tt : Nat → Option (Nat × Nat)} {a b : Nat} : Cn (Ad n s tt) a b ↔ Cn (Ad n s' tt) a b := by
  constructor
  · refine cn_same p' (fun u v k => ?_)
    obtain ⟨h1, h2, h3, _, h5, _⟩ := k.in_ p
    exact ⟨h1, h2, h3, (h.mem h1).1 h5⟩
  · refine cn_same p (fun u v k => ?_)
    obtain ⟨h1, h2, h3, _, h5, _⟩ := k.in_ p'
    exact ⟨h1, h2, h3, (h.mem h1).2 h5⟩
end
end Go.Proofs.YtdmkbcbgjdmgdaaGreatDoor
