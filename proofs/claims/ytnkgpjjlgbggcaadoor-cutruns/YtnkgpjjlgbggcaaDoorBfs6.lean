/- The reference's search for a road, as lists: plain facts, of no program. Nodes are told from 0 on, adj speaks of them by one more. -/
import Derived.Test.YtnkgpjjlgbggcaaDoorWood6
namespace Go.Proofs.YtnkgpjjlgbggcaaDoor
set_option linter.unusedVariables false

/-- How far the search has come: al are those that were met, F from where. -/
structure BF (n : Nat) (adj : Nat → Nat → Prop) (a : Nat) (F : Nat → Int) (al : List Nat) : Prop where
  nd : al.Nodup
  lt : ∀ x ∈ al, x < n
  hd : al[0]? = some a
  mem : ∀ x, (0 ≤ F x ↔ x ∈ al)
  par : ∀ (j x : Nat), al[j]? = some x → 0 < j → ∃ (i p : Nat), i < j ∧ al[i]? = some p ∧ F x = (p : Int) ∧ adj (p + 1) (x + 1)

theorem BF.init {n : Nat} {adj : Nat → Nat → Prop} {a : Nat} (ha : a < n) : BF n adj a (fun x => if x = a then (a : Int) else -1) [a] := by
  refine ⟨by simp, by simpa using ha, rfl, fun x => ?_, fun j x hj h0 => ?_⟩
  · by_cases e : x = a
    · simp [e]
    · simp [e]
  · have := (List.getElem?_eq_some_iff.1 hj).1
    simp at this
    omega

/-- One more is met. -/
theorem BF.push {n : Nat} {adj : Nat → Nat → Prop} {a : Nat} {F : Nat → Int} {al : List Nat} (h : BF n adj a F al) {i x y : Nat} (hx : al[i]? = some x) (hy : y < n) (hF : F y < 0) (e : adj (x + 1) (y + 1)) :
    BF n adj a (fun z => if z = y then (x : Int) else F z) (al ++ [y]) := by
  have hny : y ∉ al := fun hm => by have := (h.mem y).2 hm; omega
  have hil := (List.getElem?_eq_some_iff.1 hx).1
  refine ⟨?_, fun z hz => ?_, ?_, fun z => ?_, fun j z hj h0 => ?_⟩
  · rw [List.nodup_append]
    exact ⟨h.nd, by simp, fun u hu v hv e => hny (by rw [List.mem_singleton.1 hv] at e; rw [← e]; exact hu)⟩
  · rcases List.mem_append.1 hz with hz | hz
    · exact h.lt z hz
    · rw [List.mem_singleton.1 hz]; exact hy
  · rw [List.getElem?_append_left (by have := (List.getElem?_eq_some_iff.1 h.hd).1; omega)]
    exact h.hd
  · by_cases ez : z = y
    · simp [ez]
    · rw [if_neg ez, List.mem_append, List.mem_singleton]
      exact ⟨fun q => Or.inl ((h.mem z).1 q), fun q => (h.mem z).2 (q.resolve_right ez)⟩
  · rcases Nat.lt_or_ge j al.length with hl | hl
    · rw [List.getElem?_append_left hl] at hj
      obtain ⟨i', p, h1, h2, h3, h4⟩ := h.par j z hj h0
      have hzy : z ≠ y := fun e => hny (e ▸ List.mem_of_getElem? hj)
      refine ⟨i', p, h1, ?_, by simp only [if_neg hzy]; exact h3, h4⟩
      rw [List.getElem?_append_left (by omega)]
      exact h2
    · rw [List.getElem?_append_right hl] at hj
      have hlt := (List.getElem?_eq_some_iff.1 hj).1
      simp at hlt
      obtain rfl : j = al.length := by omega
      simp at hj
      subst hj
      refine ⟨i, x, hil, ?_, by simp, e⟩
      rw [List.getElem?_append_left hil]
      exact hx

theorem nodup_le : ∀ (n : Nat) (l : List Nat), l.Nodup → (∀ x ∈ l, x < n) → l.length ≤ n
  | 0, l, _, h => by
    cases l with
    | nil => simp
    | cons x l => exact absurd (h x List.mem_cons_self) (by omega)
  | n + 1, l, hd, h => by
    have h1 := nodup_le n (l.erase n) (hd.erase n) (fun x hx => by
      have h2 := (List.Nodup.mem_erase_iff hd).1 hx
      have h3 := h x h2.2
      have := h2.1
      omega)
    have h4 : l.length ≤ (l.erase n).length + 1 := by
      rw [List.length_erase]
      split <;> omega
    omega

theorem BF.len {n : Nat} {adj : Nat → Nat → Prop} {a : Nat} {F : Nat → Int} {al : List Nat} (h : BF n adj a F al) : al.length ≤ n := nodup_le n al h.nd h.lt

/-- All that stands beside one that was met was met. -/
def Closed (adj : Nat → Nat → Prop) (al : List Nat) : Prop := ∀ x ∈ al, ∀ y, adj (x + 1) (y + 1) → y ∈ al

theorem Closed.reach {adj : Nat → Nat → Prop} {al : List Nat} (h : Closed adj al) (h0 : ∀ x y, adj x y → y ≠ 0) {c b : Nat} {l : List Nat} (hw : Wk adj c b l) : ∀ c', c = c' + 1 → c' ∈ al → ∃ b', b = b' + 1 ∧ b' ∈ al := by
  induction hw with
  | one c hc => intro c' e hm; exact ⟨c', e, hm⟩
  | step c d b l hc hcd hw ih =>
    intro c' e hm
    subst e
    obtain ⟨d', rfl⟩ : ∃ d', d = d' + 1 := ⟨d - 1, by have := h0 _ _ hcd; omega⟩
    exact ih d' rfl (h c' hm d' hcd)

/-- The way back: y stands at the place j of those that were met, all of the road so far at j or behind. -/
structure OutR (adj : Nat → Nat → Prop) (al : List Nat) (b : Nat) (j y : Nat) (l : List Nat) : Prop where
  at_ : al[j]? = some y
  wk : Wk adj (y + 1) (b + 1) (l.map (· + 1))
  nd : l.Nodup
  hd : l[0]? = some y
  far : ∀ z ∈ l, ∃ k, j ≤ k ∧ al[k]? = some z

theorem OutR.one {adj : Nat → Nat → Prop} {al : List Nat} {b j : Nat} (h : al[j]? = some b) : OutR adj al b j b [b] :=
  ⟨h, Wk.one _ (by omega), by simp, rfl, fun z hz => ⟨j, Nat.le_refl _, by rw [List.mem_singleton.1 hz]; exact h⟩⟩

theorem OutR.step {n : Nat} {adj : Nat → Nat → Prop} {a b j y : Nat} {F : Nat → Int} {al l : List Nat} (h : OutR adj al b j y l) (hB : BF n adj a F al) (hy : y ≠ a) :
    ∃ (i p : Nat), i < j ∧ F y = (p : Int) ∧ p < n ∧ OutR adj al b i p (p :: l) := by
  have hj : 0 < j := by
    rcases Nat.eq_zero_or_pos j with e | e
    · have := h.at_
      rw [e, hB.hd] at this
      exact absurd (Option.some.inj this).symm hy
    · exact e
  obtain ⟨i, p, h1, h2, h3, h4⟩ := hB.par j y h.at_ hj
  refine ⟨i, p, h1, h3, hB.lt p (List.mem_of_getElem? h2), ⟨h2, ?_, ?_, rfl, fun z hz => ?_⟩⟩
  · exact Wk.step _ _ _ _ (by omega) h4 h.wk
  · refine List.nodup_cons.2 ⟨fun hm => ?_, h.nd⟩
    obtain ⟨k, hk, hz⟩ := h.far p hm
    have := (List.getElem?_inj (List.getElem?_eq_some_iff.1 h2).1 hB.nd).1 (h2.trans hz.symm)
    omega
  · rcases List.mem_cons.1 hz with rfl | hz
    · exact ⟨i, Nat.le_refl _, h2⟩
    · obtain ⟨k, hk, e⟩ := h.far z hz
      exact ⟨k, by omega, e⟩

/-- Where the way back ends: the road. -/
theorem OutR.road {adj : Nat → Nat → Prop} {al l : List Nat} {a b j : Nat} (h : OutR adj al b j a l) : Rd adj (a + 1) (b + 1) (l.map (· + 1)) :=
  ⟨h.wk, by
    rw [List.nodup_iff_pairwise_ne] at *
    exact List.Pairwise.map _ (fun x y hxy e => hxy (by omega)) (List.nodup_iff_pairwise_ne.1 h.nd)⟩

end Go.Proofs.YtnkgpjjlgbggcaaDoor
