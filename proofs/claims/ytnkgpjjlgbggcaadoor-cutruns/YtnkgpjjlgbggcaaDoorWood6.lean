/- Trees told by what each hangs on; roads: plain facts, of no program. -/
import Derived.WalkKit
namespace Go.Proofs.YtnkgpjjlgbggcaaDoor
open Go.RowKit
set_option linter.unusedVariables false

/-- One behind another, the first one hanging on q. -/
def Chn (par : Nat → Nat) : Nat → List Nat → Prop
  | _, [] => True
  | q, y :: l => par y = q ∧ Chn par y l

def lst : Nat → List Nat → Nat
  | q, [] => q
  | _, y :: l => lst y l

theorem lst_app (q x : Nat) : ∀ l, lst q (l ++ [x]) = x
  | [] => rfl
  | y :: l => lst_app y x l

theorem lst_cat (q : Nat) : ∀ a b, lst q (a ++ b) = lst (lst q a) b
  | [], _ => rfl
  | y :: a, b => lst_cat y a b

theorem lst_mem (q : Nat) : ∀ l, l ≠ [] → lst q l ∈ l
  | [], h => absurd rfl h
  | [y], _ => by simp [lst]
  | y :: z :: l, _ => List.mem_cons_of_mem _ (lst_mem y (z :: l) (by simp))

theorem lst_any (q q' : Nat) : ∀ l, l ≠ [] → lst q l = lst q' l
  | [], h => absurd rfl h
  | _ :: _, _ => rfl

theorem split_last (q : Nat) : ∀ l, l ≠ [] → ∃ l0, l = l0 ++ [lst q l]
  | [], h => absurd rfl h
  | [y], _ => ⟨[], rfl⟩
  | y :: z :: l, _ => by
    obtain ⟨l0, h⟩ := split_last y (z :: l) (by simp)
    exact ⟨y :: l0, by rw [show lst q (y :: z :: l) = lst y (z :: l) from rfl, List.cons_append]; exact congrArg _ h⟩

variable {par par' : Nat → Nat}

theorem chn_append {q : Nat} : ∀ {a b : List Nat}, Chn par q (a ++ b) ↔ Chn par q a ∧ Chn par (lst q a) b
  | [], b => by simp [Chn, lst]
  | y :: a, b => by
    simp only [List.cons_append, Chn, lst]
    rw [chn_append (q := y) (a := a) (b := b)]
    exact and_assoc.symm

theorem chn_congr {q : Nat} : ∀ {l : List Nat}, (∀ y, y ∈ l → par' y = par y) → Chn par q l → Chn par' q l
  | [], _, _ => trivial
  | y :: l, h, hc => ⟨(h y List.mem_cons_self).trans hc.1, chn_congr (fun z hz => h z (List.mem_cons_of_mem _ hz)) hc.2⟩

/-- How deep a node hangs. -/
def Dp (par : Nat → Nat) : Nat → Nat → Prop
  | 0, x => x = 0
  | k + 1, x => x ≠ 0 ∧ Dp par k (par x)

def Acy (par : Nat → Nat) : Prop := ∀ x, ∃ k, Dp par k x

theorem Dp.uniq : ∀ {k j x : Nat}, Dp par k x → Dp par j x → k = j
  | 0, 0, _, _, _ => rfl
  | 0, _ + 1, _, h, g => absurd h g.1
  | _ + 1, 0, _, h, g => absurd g h.1
  | k + 1, j + 1, x, h, g => by rw [Dp.uniq h.2 g.2]

theorem Dp.chn : ∀ {l : List Nat} {q k : Nat}, Dp par k q → (∀ y, y ∈ l → y ≠ 0) → Chn par q l → ∀ y, y ∈ l → ∃ j, k < j ∧ Dp par j y
  | [], _, _, _, _, _, y, hy => by cases hy
  | z :: l, q, k, hq, h0, hc, y, hy => by
    have hz : Dp par (k + 1) z := ⟨h0 z List.mem_cons_self, by rw [hc.1]; exact hq⟩
    rcases List.mem_cons.1 hy with rfl | hy
    · exact ⟨k + 1, by omega, hz⟩
    · obtain ⟨j, h1, h2⟩ := Dp.chn hz (fun y hy => h0 y (List.mem_cons_of_mem _ hy)) hc.2 y hy
      exact ⟨j, by omega, h2⟩

/-- What a chain hangs on is not of it. -/
theorem Acy.not_mem (h : Acy par) {q : Nat} {l : List Nat} (h0 : ∀ y, y ∈ l → y ≠ 0) (hc : Chn par q l) : q ∉ l := fun hm => by
  obtain ⟨k, hk⟩ := h q
  obtain ⟨j, h1, h2⟩ := hk.chn h0 hc q hm
  have := hk.uniq h2
  omega

theorem Acy.nodup (h : Acy par) : ∀ {l : List Nat} {q : Nat}, (∀ y, y ∈ l → y ≠ 0) → Chn par q l → l.Nodup
  | [], _, _, _ => List.nodup_nil
  | y :: l, _, h0, hc => by
    have h0' : ∀ z, z ∈ l → z ≠ 0 := fun z hz => h0 z (List.mem_cons_of_mem _ hz)
    exact List.nodup_cons.2 ⟨h.not_mem h0' hc.2, h.nodup h0' hc.2⟩

/-- Two nodes are linked. -/
def Adj (par : Nat → Nat) (x y : Nat) : Prop := x ≠ 0 ∧ y ≠ 0 ∧ (par x = y ∨ par y = x)

theorem Adj.symm {x y : Nat} (h : Adj par x y) : Adj par y x := ⟨h.2.1, h.1, h.2.2.symm⟩

theorem Acy.ne (h : Acy par) {x : Nat} (hx : x ≠ 0) : par x ≠ x := fun e => h.not_mem (q := x) (l := [x]) (by simp; exact hx) ⟨e, trivial⟩ List.mem_cons_self

/-- The last node's chain. -/
theorem chn_at {q y : Nat} {A B : List Nat} (h : Chn par q (A ++ y :: B)) : par y = lst q A := (chn_append.1 h).2.1

/-- The chain of a node, from the top on. -/
theorem Dp.road : ∀ {k x : Nat}, Dp par k x → x ≠ 0 → ∃ l, Chn par 0 (l ++ [x]) ∧ (∀ y, y ∈ l → y ≠ 0)
  | 0, _, h, hx => absurd h hx
  | k + 1, x, h, hx => by
    by_cases hp : par x = 0
    · exact ⟨[], ⟨hp, trivial⟩, by simp⟩
    · obtain ⟨l, h1, h2⟩ := Dp.road h.2 hp
      refine ⟨l ++ [par x], chn_append.2 ⟨h1, ?_, trivial⟩, ?_⟩
      · rw [lst_app]
      · intro y hy
        rcases List.mem_append.1 hy with hy | hy
        · exact h2 y hy
        · rw [List.mem_singleton] at hy; rw [hy]; exact hp

/-- Chains from the top on to one node are the same. -/
theorem Dp.same : ∀ {k x : Nat}, Dp par k x → x ≠ 0 → ∀ {a b : List Nat}, (∀ y, y ∈ a → y ≠ 0) → (∀ y, y ∈ b → y ≠ 0) → Chn par 0 (a ++ [x]) → Chn par 0 (b ++ [x]) → a = b
  | 0, x, h, hx, a, b, _, _, ha, hb => absurd h hx
  | k + 1, x, h, hx, a, b, na, nb, ha, hb => by
    have h1 := (chn_append.1 ha).2.1
    have h2 := (chn_append.1 hb).2.1
    by_cases hp : par x = 0
    · have key : ∀ c : List Nat, (∀ y, y ∈ c → y ≠ 0) → par x = lst 0 c → c = [] := fun c hc h3 => by
        cases c with
        | nil => rfl
        | cons z c => exact absurd (h3.symm.trans hp) (hc _ (lst_mem 0 (z :: c) (by simp)))
      rw [key a na h1, key b nb h2]
    · have key : ∀ c : List Nat, Chn par 0 (c ++ [x]) → ∃ c0, c = c0 ++ [par x] := fun c hc => by
        have h3 := (chn_append.1 hc).2.1
        cases c with
        | nil => exact absurd h3 hp
        | cons z c =>
          obtain ⟨c0, e⟩ := split_last 0 (z :: c) (by simp)
          exact ⟨c0, by rw [h3]; exact e⟩
      obtain ⟨a0, rfl⟩ := key a ha
      obtain ⟨b0, rfl⟩ := key b hb
      rw [Dp.same h.2 hp (fun y hy => na y (List.mem_append.2 (Or.inl hy))) (fun y hy => nb y (List.mem_append.2 (Or.inl hy))) (chn_append.1 ha).1 (chn_append.1 hb).1]

/-- The one that a list tells ahead of another one. -/
def prd : Nat → List Nat → Nat → Nat
  | _, [], _ => 0
  | q, z :: l, y => if y = z then q else prd z l y

theorem chn_prd : ∀ {l : List Nat} {q : Nat}, l.Nodup → Chn (prd q l) q l
  | [], _, _ => trivial
  | z :: l, q, h => by
    obtain ⟨h1, h2⟩ := List.nodup_cons.1 h
    refine ⟨if_pos rfl, chn_congr (par := prd z l) (fun y hy => ?_) (chn_prd h2)⟩
    show (if y = z then q else prd z l y) = prd z l y
    rw [if_neg (fun e : y = z => h1 (e ▸ hy))]

theorem adj_turn {l : List Nat} (hc : Chn par 0 l) (hc' : Chn par' 0 l.reverse) (ho : ∀ y, y ∉ l → par' y = par y) {x y : Nat} (h : Adj par x y) : Adj par' x y := by
  have key : ∀ x y, x ≠ 0 → par y = x → par' y = x ∨ par' x = y := fun x y hx e => by
    by_cases hy : y ∈ l
    · obtain ⟨A, B, rfl⟩ := List.append_of_mem hy
      have h1 := chn_at hc
      rw [e] at h1
      right
      cases A with
      | nil => exact absurd h1 hx
      | cons z A =>
        obtain ⟨A0, e0⟩ := split_last 0 (z :: A) (by simp)
        rw [← h1] at e0
        rw [e0] at hc'
        have e1 : (A0 ++ [x] ++ y :: B).reverse = (B.reverse ++ [y]) ++ x :: A0.reverse := by simp
        rw [e1] at hc'
        have := chn_at hc'
        rw [lst_app] at this
        exact this
    · exact Or.inl ((ho y hy).trans e)
  refine ⟨h.1, h.2.1, ?_⟩
  rcases h.2.2 with e | e
  · exact (key y x h.2.1 e)
  · exact (key x y h.1 e).symm

/-- A chain from the top on, turned round. -/
theorem reroot (hA : Acy par) {l : List Nat} (h0 : ∀ y, y ∈ l → y ≠ 0) (hc : Chn par 0 l) : ∃ par', Chn par' 0 l.reverse ∧ (∀ y, y ∉ l → par' y = par y) ∧ (∀ x y, Adj par' x y ↔ Adj par x y) ∧ Acy par' := by
  have hn := hA.nodup h0 hc
  have hr : l.reverse.Nodup := by
    unfold List.Nodup; rw [List.pairwise_reverse]; exact List.Pairwise.imp (fun h e => h e.symm) hn
  obtain ⟨par', hp⟩ : ∃ p : Nat → Nat, (fun y => if y ∈ l then prd 0 l.reverse y else par y) = p := ⟨_, rfl⟩
  have hin : ∀ y, y ∈ l → par' y = prd 0 l.reverse y := fun y hy => by rw [← hp]; exact if_pos hy
  have hout : ∀ y, y ∉ l → par' y = par y := fun y hy => by rw [← hp]; exact if_neg hy
  have hc' : Chn par' 0 l.reverse := chn_congr (fun y hy => hin y (List.mem_reverse.1 hy)) (chn_prd hr)
  refine ⟨par', hc', hout, fun x y => ⟨fun h => ?_, adj_turn hc hc' hout⟩, ?_⟩
  · exact adj_turn (par := par') (par' := par) (l := l.reverse) hc' (by rw [List.reverse_reverse]; exact hc) (fun y hy => (hout y (fun e => hy (List.mem_reverse.2 e))).symm) h
  · have hl : ∀ y, y ∈ l → ∃ k, Dp par' k y := fun y hy => by
      obtain ⟨j, _, hj⟩ := Dp.chn (k := 0) (q := 0) rfl (fun y hy => h0 y (List.mem_reverse.1 hy)) hc' y (List.mem_reverse.2 hy)
      exact ⟨j, hj⟩
    have : ∀ k x, Dp par k x → ∃ j, Dp par' j x := by
      intro k
      induction k with
      | zero => intro x hx; exact ⟨0, hx⟩
      | succ k ih =>
        intro x hx
        by_cases hm : x ∈ l
        · exact hl x hm
        · obtain ⟨j, hj⟩ := ih _ hx.2
          exact ⟨j + 1, hx.1, by rw [hout x hm]; exact hj⟩
    intro x
    obtain ⟨k, hk⟩ := hA x
    exact this k x hk

/-- The top of a node's tree. -/
def Top (par : Nat → Nat) (x r : Nat) : Prop := ∃ l, Chn par 0 (r :: l) ∧ lst r l = x ∧ ∀ y, y ∈ r :: l → y ≠ 0

theorem Top.ne {x r : Nat} (h : Top par x r) : x ≠ 0 := by
  obtain ⟨l, _, h2, h3⟩ := h
  have := lst_mem 0 (r :: l) (by simp)
  rw [show lst 0 (r :: l) = lst r l from rfl, h2] at this
  exact h3 x this

theorem Top.self {x : Nat} (hx : x ≠ 0) (h : par x = 0) : Top par x x := ⟨[], ⟨h, trivial⟩, rfl, by simp; exact hx⟩

theorem Top.uniq (hA : Acy par) {x r s : Nat} (h : Top par x r) (k : Top par x s) : r = s := by
  have hx := h.ne
  obtain ⟨l, h1, h2, h3⟩ := h
  obtain ⟨m, k1, k2, k3⟩ := k
  obtain ⟨d, hd⟩ := hA x
  obtain ⟨l0, e1⟩ := split_last 0 (r :: l) (by simp)
  obtain ⟨m0, e2⟩ := split_last 0 (s :: m) (by simp)
  rw [show lst 0 (r :: l) = lst r l from rfl, h2] at e1
  rw [show lst 0 (s :: m) = lst s m from rfl, k2] at e2
  rw [e1] at h1 h3
  rw [e2] at k1 k3
  have := hd.same hx (fun y hy => h3 y (List.mem_append.2 (Or.inl hy))) (fun y hy => k3 y (List.mem_append.2 (Or.inl hy))) h1 k1
  rw [this] at e1
  rw [← e2] at e1
  injection e1

theorem Top.down {x y r : Nat} (h : Top par x r) (hy : y ≠ 0) (e : par y = x) : Top par y r := by
  obtain ⟨l, h1, h2, h3⟩ := h
  refine ⟨l ++ [y], ?_, lst_app _ _ _, ?_⟩
  · show Chn par 0 ((r :: l) ++ [y])
    refine chn_append.2 ⟨h1, ?_, trivial⟩
    rw [show lst 0 (r :: l) = lst r l from rfl, h2]; exact e
  · intro z hz
    rw [← List.cons_append] at hz
    rcases List.mem_append.1 hz with hz | hz
    · exact h3 z hz
    · rw [List.mem_singleton] at hz; rw [hz]; exact hy

theorem Acy.top (hA : Acy par) {x : Nat} (hx : x ≠ 0) : ∃ r, Top par x r := by
  obtain ⟨k, hk⟩ := hA x
  obtain ⟨l, h1, h2⟩ := hk.road hx
  cases l with
  | nil => exact ⟨x, [], h1, rfl, by simp; exact hx⟩
  | cons r l =>
    refine ⟨r, l ++ [x], h1, lst_app _ _ _, ?_⟩
    intro z hz
    rw [← List.cons_append] at hz
    rcases List.mem_append.1 hz with hz | hz
    · exact h2 z hz
    · rw [List.mem_singleton] at hz; rw [hz]; exact hx

theorem Top.up (hA : Acy par) {x y r : Nat} (h : Top par y r) (hx : x ≠ 0) (e : par y = x) : Top par x r := by
  obtain ⟨s, hs⟩ := hA.top hx
  have := hs.down h.ne e
  rw [h.uniq hA this]
  exact hs

theorem Top.adj (hA : Acy par) {x y r : Nat} (h : Top par x r) (a : Adj par x y) : Top par y r := by
  rcases a.2.2 with e | e
  · exact h.up hA a.2.1 e
  · exact h.down a.2.1 e

theorem Top.chn {q r : Nat} : ∀ {l : List Nat}, Top par q r → (∀ y, y ∈ l → y ≠ 0) → Chn par q l → ∀ y, y ∈ l → Top par y r
  | [], _, _, _, y, hy => by cases hy
  | z :: l, h, h0, hc, y, hy => by
    have hz := h.down (h0 z List.mem_cons_self) hc.1
    rcases List.mem_cons.1 hy with rfl | hy
    · exact hz
    · exact Top.chn hz (fun y hy => h0 y (List.mem_cons_of_mem _ hy)) hc.2 y hy

/-- All of a chain have one top. -/
theorem Acy.one (hA : Acy par) {q : Nat} {l : List Nat} (h0 : ∀ y, y ∈ l → y ≠ 0) (hc : Chn par q l) {y z r : Nat} (hy : y ∈ l) (hz : z ∈ l) (h : Top par y r) : Top par z r := by
  by_cases hq : q = 0
  · subst hq
    cases l with
    | nil => cases hy
    | cons a l =>
      have ha : Top par a a := Top.self (h0 a List.mem_cons_self) hc.1
      have all : ∀ u, u ∈ a :: l → Top par u a := fun u hu => by
        rcases List.mem_cons.1 hu with rfl | hu
        · exact ha
        · exact Top.chn ha (fun y hy => h0 y (List.mem_cons_of_mem _ hy)) hc.2 u hu
      rw [h.uniq hA (all y hy)]; exact all z hz
  · obtain ⟨s, hs⟩ := hA.top hq
    rw [h.uniq hA (hs.chn h0 hc y hy)]
    exact hs.chn h0 hc z hz

/-- A walk from one node to another. -/
inductive Wk (adj : Nat → Nat → Prop) : Nat → Nat → List Nat → Prop
  | one (a : Nat) : a ≠ 0 → Wk adj a a [a]
  | step (a c b : Nat) (l : List Nat) : a ≠ 0 → adj a c → Wk adj c b l → Wk adj a b (a :: l)

/-- The road. -/
structure Rd (adj : Nat → Nat → Prop) (a b : Nat) (l : List Nat) : Prop where
  wk : Wk adj a b l
  nd : l.Nodup

variable {adj adj' : Nat → Nat → Prop}

theorem Wk.head {a b : Nat} {l : List Nat} (h : Wk adj a b l) : ∃ m, l = a :: m ∧ lst a m = b := by
  induction h with
  | one a _ => exact ⟨[], rfl, rfl⟩
  | step a c b l _ _ _ ih =>
    obtain ⟨m, e, h1⟩ := ih
    exact ⟨l, rfl, by rw [e]; exact h1⟩

theorem Wk.ne {a b : Nat} {l : List Nat} (h : Wk adj a b l) : ∀ y, y ∈ l → y ≠ 0 := by
  induction h with
  | one a h => simp; exact h
  | step a c b l h _ _ ih =>
    intro y hy
    rcases List.mem_cons.1 hy with rfl | hy
    · exact h
    · exact ih y hy

theorem Wk.first {a b : Nat} {l : List Nat} (h : Wk adj a b l) : a ∈ l := by obtain ⟨m, e, _⟩ := h.head; rw [e]; exact List.mem_cons_self

theorem Wk.mono {a b : Nat} {l : List Nat} (hs : ∀ x y, x ∈ l → y ∈ l → adj x y → adj' x y) (h : Wk adj a b l) : Wk adj' a b l := by
  induction h with
  | one a h => exact Wk.one a h
  | step a c b l h ha hw ih => exact Wk.step a c b l h (hs a c List.mem_cons_self (List.mem_cons_of_mem _ hw.first) ha) (ih (fun x y hx hy => hs x y (List.mem_cons_of_mem _ hx) (List.mem_cons_of_mem _ hy)))

theorem Wk.snoc {a b c : Nat} {l : List Nat} (h : Wk adj a b l) (hc : c ≠ 0) (e : adj b c) : Wk adj a c (l ++ [c]) := by
  induction h with
  | one a h => exact Wk.step a c c [c] h e (Wk.one c hc)
  | step a d b l h ha _ ih => exact Wk.step a d c _ h ha (ih e)

theorem Wk.rev (hs : ∀ x y, adj x y → adj y x) {a b : Nat} {l : List Nat} (h : Wk adj a b l) : Wk adj b a l.reverse := by
  induction h with
  | one a h => exact Wk.one a h
  | step a c b l h ha _ ih =>
    rw [List.reverse_cons]
    exact ih.snoc h (hs _ _ ha)

theorem Rd.rev (hs : ∀ x y, adj x y → adj y x) {a b : Nat} {l : List Nat} (h : Rd adj a b l) : Rd adj b a l.reverse :=
  ⟨h.wk.rev hs, by unfold List.Nodup; rw [List.pairwise_reverse]; exact List.Pairwise.imp (fun h e => h e.symm) h.nd⟩

theorem Wk.cat {a b c : Nat} {l m : List Nat} (h : Wk adj a b l) (k : Wk adj b c m) : ∃ j, Wk adj a c j := by
  induction h with
  | one a _ => exact ⟨m, k⟩
  | step a d b l h ha _ ih =>
    obtain ⟨j, hj⟩ := ih k
    exact ⟨_, Wk.step a d c j h ha hj⟩

/-- A chain is a walk. -/
theorem chn_wk (he : ∀ x y, adj x y ↔ Adj par x y) : ∀ {l : List Nat} {a : Nat}, (∀ y, y ∈ a :: l → y ≠ 0) → Chn par a l → Wk adj a (lst a l) (a :: l)
  | [], a, h0, _ => Wk.one a (h0 a List.mem_cons_self)
  | y :: l, a, h0, hc => by
    have ha := h0 a List.mem_cons_self
    have hy := h0 y (by simp)
    exact Wk.step a y _ _ ha ((he a y).2 ⟨ha, hy, Or.inr hc.1⟩) (chn_wk he (fun z hz => h0 z (List.mem_cons_of_mem _ hz)) hc.2)

theorem Wk.top (he : ∀ x y, adj x y ↔ Adj par x y) (hA : Acy par) {a b r : Nat} {l : List Nat} (h : Wk adj a b l) : Top par a r → Top par b r := by
  induction h with
  | one a _ => exact fun h => h
  | step a c b l _ ha _ ih => exact fun h => ih (h.adj hA ((he _ _).1 ha))

/-- From the top on a road leads down. -/
theorem Wk.down (he : ∀ x y, adj x y ↔ Adj par x y) {c b : Nat} {l : List Nat} (h : Wk adj c b l) : l.Nodup → ∀ q, q ∉ l → par c = q → Chn par q l := by
  induction h with
  | one a _ => exact fun _ q _ e => ⟨e, trivial⟩
  | step a d b l _ ha hw ih =>
    intro hn q hq e
    obtain ⟨h1, h2⟩ := List.nodup_cons.1 hn
    refine ⟨e, ih h2 a h1 ?_⟩
    rcases ((he _ _).1 ha).2.2 with e2 | e2
    · exact absurd (List.mem_cons_of_mem _ (by rw [← e, e2]; exact hw.first)) hq
    · exact e2

theorem Rd.down (he : ∀ x y, adj x y ↔ Adj par x y) {a b : Nat} {l : List Nat} (h : Rd adj a b l) (ha : par a = 0) : Chn par 0 l := h.wk.down he h.nd 0 (fun e => h.wk.ne 0 e rfl) ha

/-- Links that make trees. -/
def Wood (adj : Nat → Nat → Prop) : Prop := ∃ par, (∀ x y, adj x y ↔ Adj par x y) ∧ Acy par

theorem Wood.symm (h : Wood adj) {x y : Nat} (e : adj x y) : adj y x := by
  obtain ⟨par, he, _⟩ := h
  exact (he _ _).2 ((he _ _).1 e).symm

theorem Wood.ne (h : Wood adj) {x y : Nat} (e : adj x y) : x ≠ 0 ∧ y ≠ 0 ∧ x ≠ y := by
  obtain ⟨par, he, hA⟩ := h
  have := (he _ _).1 e
  refine ⟨this.1, this.2.1, fun e2 => ?_⟩
  subst e2
  rcases this.2.2 with e | e <;> exact hA.ne this.1 e

theorem Wood.root (h : Wood adj) {a : Nat} (ha : a ≠ 0) : ∃ par, (∀ x y, adj x y ↔ Adj par x y) ∧ Acy par ∧ par a = 0 := by
  obtain ⟨par, he, hA⟩ := h
  obtain ⟨k, hk⟩ := hA a
  obtain ⟨l, h1, h2⟩ := hk.road ha
  obtain ⟨par', p1, _, p3, p4⟩ := reroot hA (l := l ++ [a]) (fun y hy => by
    rcases List.mem_append.1 hy with hy | hy
    · exact h2 y hy
    · rw [List.mem_singleton] at hy; rw [hy]; exact ha) h1
  refine ⟨par', fun x y => (he x y).trans (p3 x y).symm, p4, ?_⟩
  rw [List.reverse_append] at p1
  exact p1.1

theorem chn_uniq (hA : Acy par) {l m : List Nat} {b : Nat} (hl : Chn par 0 l) (hm : Chn par 0 m) (l0 : ∀ y, y ∈ l → y ≠ 0) (m0 : ∀ y, y ∈ m → y ≠ 0) (el : l ≠ []) (em : m ≠ []) (hb : lst 0 l = b) (hb' : lst 0 m = b) : l = m := by
  obtain ⟨a, ea⟩ := split_last 0 l el
  obtain ⟨c, ec⟩ := split_last 0 m em
  rw [hb] at ea
  rw [hb'] at ec
  obtain ⟨k, hk⟩ := hA b
  have hb0 : b ≠ 0 := l0 b (by rw [ea]; simp)
  rw [ea] at hl l0
  rw [ec] at hm m0
  rw [ea, ec, hk.same hb0 (fun y hy => l0 y (List.mem_append.2 (Or.inl hy))) (fun y hy => m0 y (List.mem_append.2 (Or.inl hy))) hl hm]

theorem Wk.last {a b : Nat} {l : List Nat} (h : Wk adj a b l) : l ≠ [] ∧ lst 0 l = b := by
  obtain ⟨m, e, h1⟩ := h.head
  rw [e]
  exact ⟨by simp, h1⟩

theorem Wood.uniq (h : Wood adj) {a b : Nat} {l m : List Nat} (hl : Rd adj a b l) (hm : Rd adj a b m) : l = m := by
  obtain ⟨par, he, hA, ha⟩ := h.root (hl.wk.ne a hl.wk.first)
  exact chn_uniq hA (hl.down he ha) (hm.down he ha) hl.wk.ne hm.wk.ne hl.wk.last.1 hm.wk.last.1 hl.wk.last.2 hm.wk.last.2

theorem rd_chn (he : ∀ x y, adj x y ↔ Adj par x y) (hA : Acy par) {a b : Nat} {l : List Nat} (hc : Chn par 0 (a :: l)) (h0 : ∀ y, y ∈ a :: l → y ≠ 0) (hb : lst a l = b) : Rd adj a b (a :: l) :=
  ⟨by have := chn_wk he h0 hc.2; rw [hb] at this; exact this, hA.nodup h0 hc⟩

theorem Wood.conn (h : Wood adj) {a b : Nat} {l : List Nat} (hw : Wk adj a b l) : ∃ m, Rd adj a b m := by
  obtain ⟨par, he, hA, ha⟩ := h.root (hw.ne a hw.first)
  obtain ⟨m, h1, h2, h3⟩ := hw.top he hA (Top.self (hw.ne a hw.first) ha)
  exact ⟨_, rd_chn he hA h1 h3 h2⟩

theorem Wood.near (h : Wood adj) {a b : Nat} (e : adj a b) : Rd adj a b [a, b] := by
  obtain ⟨h1, h2, h3⟩ := h.ne e
  exact ⟨Wk.step a b b [b] h1 e (Wk.one b h2), by simp [h3]⟩

theorem Rd.two {a b : Nat} {l : List Nat} (h : Rd adj a b l) (e : l.length = 2) : adj a b := by
  obtain ⟨hw, hn⟩ := h
  cases hw with
  | one _ _ => simp at e
  | step _ c _ l _ ha hk =>
    cases hk with
    | one _ _ => exact ha
    | step _ d _ m _ hb hm =>
      have := hm.first
      cases m with
      | nil => cases this
      | cons _ _ => simp at e

/-- One link more. -/
def addE (adj : Nat → Nat → Prop) (a b : Nat) : Nat → Nat → Prop := fun x y => adj x y ∨ (x = a ∧ y = b) ∨ (x = b ∧ y = a)
/-- One link less. -/
def delE (adj : Nat → Nat → Prop) (a b : Nat) : Nat → Nat → Prop := fun x y => adj x y ∧ ¬ (x = a ∧ y = b) ∧ ¬ (x = b ∧ y = a)

theorem acy_link (hA : Acy par) {a b : Nat} (ha : a ≠ 0) (hb : b ≠ 0) (pa : par a = 0) (hn : ¬ Top par b a) : Acy (fun y => if y = a then b else par y) := by
  have key : ∀ k x, Dp par k x → (x = 0 ∨ ¬ Top par x a) → ∃ j, Dp (fun y => if y = a then b else par y) j x := by
    intro k
    induction k with
    | zero => intro x hx _; exact ⟨0, hx⟩
    | succ k ih =>
      intro x hx ht
      have hxa : x ≠ a := fun e => by
        rcases ht with e2 | e2
        · exact hx.1 e2
        · exact e2 (by rw [e]; exact Top.self ha pa)
      obtain ⟨j, hj⟩ := ih _ hx.2 (by
        by_cases h0 : par x = 0
        · exact Or.inl h0
        · right
          intro h
          rcases ht with e2 | e2
          · exact hx.1 e2
          · exact e2 (h.down hx.1 rfl))
      exact ⟨j + 1, hx.1, by simp only [if_neg hxa]; exact hj⟩
  obtain ⟨kb, hkb⟩ := hA b
  obtain ⟨jb, hjb⟩ := key kb b hkb (Or.inr hn)
  intro x
  obtain ⟨k, hk⟩ := hA x
  have : ∀ k x, Dp par k x → ∃ j, Dp (fun y => if y = a then b else par y) j x := by
    intro k
    induction k with
    | zero => intro x hx; exact ⟨0, hx⟩
    | succ k ih =>
      intro x hx
      by_cases e : x = a
      · exact ⟨jb + 1, hx.1, by simp only [if_pos e]; exact hjb⟩
      · obtain ⟨j, hj⟩ := ih _ hx.2
        exact ⟨j + 1, hx.1, by simp only [if_neg e]; exact hj⟩
  exact this k x hk

theorem adj_link {a b : Nat} (ha : a ≠ 0) (hb : b ≠ 0) (pa : par a = 0) (x y : Nat) : Adj (fun y => if y = a then b else par y) x y ↔ addE (Adj par) a b x y := by
  unfold addE Adj
  dsimp only
  constructor
  · rintro ⟨h1, h2, h3 | h3⟩
    · by_cases e : x = a
      · rw [if_pos e] at h3; exact Or.inr (Or.inl ⟨e, h3.symm⟩)
      · rw [if_neg e] at h3; exact Or.inl ⟨h1, h2, Or.inl h3⟩
    · by_cases e : y = a
      · rw [if_pos e] at h3; exact Or.inr (Or.inr ⟨h3.symm, e⟩)
      · rw [if_neg e] at h3; exact Or.inl ⟨h1, h2, Or.inr h3⟩
  · rintro (⟨h1, h2, h3 | h3⟩ | ⟨rfl, rfl⟩ | ⟨rfl, rfl⟩)
    · refine ⟨h1, h2, Or.inl ?_⟩
      by_cases e : x = a
      · rw [e, pa] at h3; exact absurd h3.symm h2
      · rw [if_neg e]; exact h3
    · refine ⟨h1, h2, Or.inr ?_⟩
      by_cases e : y = a
      · rw [e, pa] at h3; exact absurd h3.symm h1
      · rw [if_neg e]; exact h3
    · exact ⟨ha, hb, Or.inl (if_pos rfl)⟩
    · exact ⟨hb, ha, Or.inr (if_pos rfl)⟩

theorem acy_cut (hA : Acy par) (b : Nat) : Acy (fun y => if y = b then 0 else par y) := by
  have key : ∀ k x, Dp par k x → ∃ j, Dp (fun y => if y = b then 0 else par y) j x := by
    intro k
    induction k with
    | zero => intro x hx; exact ⟨0, hx⟩
    | succ k ih =>
      intro x hx
      by_cases e : x = b
      · exact ⟨1, hx.1, by simp only [if_pos e]; rfl⟩
      · obtain ⟨j, hj⟩ := ih _ hx.2
        exact ⟨j + 1, hx.1, by simp only [if_neg e]; exact hj⟩
  intro x
  obtain ⟨k, hk⟩ := hA x
  exact key k x hk

theorem adj_cut {a b : Nat} (pa : par a = 0) (pb : par b = a) (x y : Nat) : Adj (fun y => if y = b then 0 else par y) x y ↔ delE (Adj par) a b x y := by
  unfold delE Adj
  dsimp only
  constructor
  · rintro ⟨h1, h2, h3 | h3⟩
    · by_cases e : x = b
      · rw [if_pos e] at h3; exact absurd h3.symm h2
      · rw [if_neg e] at h3
        exact ⟨⟨h1, h2, Or.inl h3⟩, fun ⟨e1, _⟩ => h2 (by rw [← h3, e1, pa]), fun ⟨e1, _⟩ => e e1⟩
    · by_cases e : y = b
      · rw [if_pos e] at h3; exact absurd h3.symm h1
      · rw [if_neg e] at h3
        exact ⟨⟨h1, h2, Or.inr h3⟩, fun ⟨_, e1⟩ => e e1, fun ⟨_, e1⟩ => h1 (by rw [← h3, e1, pa])⟩
  · rintro ⟨⟨h1, h2, h3⟩, n1, n2⟩
    refine ⟨h1, h2, ?_⟩
    rcases h3 with h3 | h3
    · by_cases e : x = b
      · exact absurd ⟨e, by rw [← h3, e, pb]⟩ n2
      · exact Or.inl (by rw [if_neg e]; exact h3)
    · by_cases e : y = b
      · exact absurd ⟨by rw [← h3, e, pb], e⟩ n1
      · exact Or.inr (by rw [if_neg e]; exact h3)

theorem del_add (h : Wood adj) {a b : Nat} (hn : ¬ adj a b) : delE (addE adj a b) a b = adj ∧ delE (addE adj a b) b a = adj := by
  have hn' : ¬ adj b a := fun e => hn (h.symm e)
  constructor <;> (funext x y; apply propext; unfold delE addE; constructor)
  · rintro ⟨h1 | h1 | h1, h2, h3⟩
    · exact h1
    · exact absurd h1 h2
    · exact absurd h1 h3
  · intro h1
    refine ⟨Or.inl h1, ?_, ?_⟩
    · rintro ⟨rfl, rfl⟩; exact hn h1
    · rintro ⟨rfl, rfl⟩; exact hn' h1
  · rintro ⟨h1 | h1 | h1, h2, h3⟩
    · exact h1
    · exact absurd h1 h3
    · exact absurd h1 h2
  · intro h1
    refine ⟨Or.inl h1, ?_, ?_⟩
    · rintro ⟨rfl, rfl⟩; exact hn' h1
    · rintro ⟨rfl, rfl⟩; exact hn h1

theorem add_del (h : Wood adj) {a b : Nat} (hn : adj a b) : addE (delE adj a b) b a = adj := by
  have hn' : adj b a := h.symm hn
  funext x y
  apply propext
  unfold delE addE
  constructor
  · rintro (⟨h1, _, _⟩ | ⟨rfl, rfl⟩ | ⟨rfl, rfl⟩)
    · exact h1
    · exact hn'
    · exact hn
  · intro h1
    by_cases e1 : x = a ∧ y = b
    · exact Or.inr (Or.inr e1)
    · by_cases e2 : x = b ∧ y = a
      · exact Or.inr (Or.inl e2)
      · exact Or.inl ⟨h1, e1, e2⟩

/-- How far walks lead. -/
theorem Wk.far (he : ∀ x y, adj x y ↔ Adj par x y) {a b : Nat} {l : List Nat} (h : Wk adj a b l) : ∀ i j, Dp par i a → Dp par j b → (i + j + l.length) % 2 = 1 ∧ j + 1 ≤ i + l.length := by
  induction h with
  | one a _ => intro i j hi hj; have := hi.uniq hj; simp; omega
  | step a c b l h ha hw ih =>
    intro i j hi hj
    have hc := (he _ _).1 ha
    have : ∃ k, Dp par k c ∧ (k = i + 1 ∨ i = k + 1) := by
      rcases hc.2.2 with e | e
      · cases i with
        | zero => exact absurd hi hc.1
        | succ i => exact ⟨i, by rw [← e]; exact hi.2, Or.inr rfl⟩
      · exact ⟨i + 1, ⟨hc.2.1, by rw [e]; exact hi⟩, Or.inl rfl⟩
    obtain ⟨k, hk, hik⟩ := this
    have := ih k j hk hj
    simp only [List.length_cons]
    omega

theorem Dp.len : ∀ {l : List Nat} {q k : Nat}, Dp par k q → (∀ y, y ∈ l → y ≠ 0) → Chn par q l → Dp par (k + l.length) (lst q l)
  | [], _, _, h, _, _ => h
  | y :: l, q, k, h, h0, hc => by
    have := Dp.len (q := y) (k := k + 1) ⟨h0 y List.mem_cons_self, by rw [hc.1]; exact h⟩ (fun z hz => h0 z (List.mem_cons_of_mem _ hz)) hc.2
    rw [List.length_cons, show k + (l.length + 1) = k + 1 + l.length from by omega]
    exact this

theorem Wood.three (h : Wood adj) {a b c : Nat} {l m k : List Nat} (h1 : Rd adj a b l) (h2 : Rd adj b c m) (h3 : Rd adj c a k) : (l.length + m.length + k.length) % 2 = 1 ∧ k.length + 1 ≤ l.length + m.length := by
  obtain ⟨par, he, hA, hc⟩ := h.root (h3.wk.ne c h3.wk.first)
  have hs : ∀ x y, adj x y → adj y x := fun x y => h.symm
  have dc : Dp par 1 c := ⟨h3.wk.ne c h3.wk.first, hc⟩
  have da := Dp.len (k := 0) (q := 0) rfl h3.wk.ne (h3.down he hc)
  rw [h3.wk.last.2, Nat.zero_add] at da
  obtain ⟨j, db⟩ := hA b
  have f1 := (h2.wk.rev hs).far he 1 j dc db
  have f2 := (h1.wk.rev hs).far he j k.length db da
  rw [List.length_reverse] at f1 f2
  omega

end Go.Proofs.YtnkgpjjlgbggcaaDoor
