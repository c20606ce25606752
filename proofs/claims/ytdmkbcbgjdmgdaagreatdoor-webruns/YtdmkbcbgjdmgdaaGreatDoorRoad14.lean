/- What a tie parts and what it links; the road back: plain facts. -/
import Derived.Test.YtdmkbcbgjdmgdaaGreatDoorDc14
namespace Go.Proofs.YtdmkbcbgjdmgdaaGreatDoor
open Go.RowKit
set_option linter.unusedVariables false

theorem FR.rev {fc A B : Nat → Nat} {T : Nat → Prop} {f g : Nat} {r ls : List Nat} (k : FR fc A B T f g r ls) : FR fc A B T g f r.reverse ls.reverse := by
  induction k with
  | nil f => exact .nil f
  | cons ht he _ ih =>
    rw [List.reverse_cons, List.reverse_cons]
    refine ih.snoc ht ?_
    rcases he with ⟨e1, e2⟩ | ⟨e1, e2⟩
    · exact .inr ⟨e2, e1⟩
    · exact .inl ⟨e2, e1⟩

theorem FR.nil_eq {fc A B : Nat → Nat} {T : Nat → Prop} {f g : Nat} {ls : List Nat} (k : FR fc A B T f g [] ls) : f = g := by
  cases k
  rfl

/-- A tie links. -/
theorem tie_lkd {n : Nat} {sq : Nat → List Nat} {tt : Nat → Option (Nat × Nat)} {e a b : Nat} (h : tt e = some (a, b)) : Lkd n sq tt a b :=
  Cn.trans (Cn.step (by omega) (by omega) (AdL.symm (adL_a h))) (Cn.step (by omega) (by omega) (adL_b h))

theorem setK_same {ky : Nat → Int} {e : Nat} {key : Int} (h : ky e = key) : setK ky e key = ky := by
  funext k
  unfold setK
  split
  · rename_i q; rw [q, h]
  · rfl

section
variable {lo wb n m : Nat} {w w0 w' : World} {sq : Nat → List Nat} {tt : Nat → Option (Nat × Nat)} {ky : Nat → Int} {fi : Nat → Nat}

/-- There are labels. -/
theorem Dc.lb {xv : Value} (d : Dc n m sq tt ky w0 xv) (p : Part n sq) : ∃ fi, Lb n sq fi := by
  obtain ⟨fv, tv, ls, ts, h1, h2, h3, h4, h5⟩ := d
  exact ⟨_, fiD_lb h3 p⟩

/-- Faces that are not linked are two. -/
theorem WQ.two (h : WQ lo w wb n m sq tt ky w0) {tt' : Nat → Option (Nat × Nat)} (hl : Lb n sq fi) {a b : Nat} (ha : a < n) (hb : b < n) (hn : ¬ Lkd n sq tt' a b) : fi a ≠ fi b := fun q => hn (face_cn h.part ha ((hl a b ha hb).1 q))

/-- A tie alone is the weakest one. -/
theorem WQ.weak_one (h : WQ lo w wb n m sq tt ky w0) (hl : Lb n sq fi) {e a b : Nat} (hc : tt e = some (a, b)) (hne : fi a ≠ fi b) {z : Int} (hz : WkP n sq tt ky a b z) : z = (e : Int) := by
  obtain ⟨q1, q2, q3, q4⟩ := h.ends e a b hc
  obtain ⟨r, ls, k1, k2, k3⟩ := hz fi hl
  obtain ⟨e1, e2⟩ := eA_of hc
  have k : FR fi (eA tt) (eB tt) (Td tt) (fi a) (fi b) [e] [fi a, fi b] := .cons ⟨a, b, hc⟩ (.inl ⟨by rw [e1], by rw [e2]⟩) (.nil _)
  have := h.uniq hl q2 q3 k1 k2 k (by simp [hne])
  subst this
  rcases k3 with ⟨q, _⟩ | ⟨P, e', Q, hr, rfl, _⟩
  · cases q
  · cases P with
    | nil => injection hr with hr _; rw [hr]
    | cons x P => injection hr with _ hr; cases P <;> cases hr

/-- Untied, its ends are not linked. -/
theorem WQ.cut (h : WQ lo w wb n m sq tt ky w0) {e a b : Nat} (hc : tt e = some (a, b)) : ¬ Lkd n sq (updT tt e none) a b := fun q => by
  obtain ⟨seq, h1, h2, rb, fb, cb, N, vz, v, h4, h5⟩ := h
  obtain ⟨q1, q2, q3, q4⟩ := h5.ends e a b hc
  have q' : Cn (Ad n seq (updT tt e none)) (iN a + 1) (iN b + 1) := (rq_cn h4.part h2 h1).2 q
  have ee : Ad n seq (updT tt e none) = delE (delE (Ad n seq tt) (tN e + 1) (iN a + 1)) (tN e + 1) (iN b + 1) := (ad_untie hc).symm
  rw [ee] at q'
  refine del_apart h4.ct.wood (a := tN e + 1) (b := iN a + 1) (adL_a hc) ?_
  refine Cn.trans (q := iN b + 1) (Cn.step (by omega) (by omega) ⟨adL_b hc, fun ⟨_, j⟩ => q4 (iN_inj (by omega)), fun ⟨j, _⟩ => iN_tN a e (by omega)⟩) ?_
  refine Cn.symm (del_symm (fun _ _ k => AdL.symm k)) (Cn.mono (fun x y k => k.1) q')

/-- The weakest tie of a road, untied, parts them. -/
theorem WQ.parts (h : WQ lo w wb n m sq tt ky w0) {e : Nat} {w1 : World} {ky' : Nat → Int} (h' : WQ lo w wb n m sq (updT tt e none) ky' w1) (hl : Lb n sq fi) {a b : Nat} (ha : a < n) (hb : b < n) (hz : WkP n sq tt ky a b (e : Int)) : ¬ Lkd n sq (updT tt e none) a b := fun q => by
  obtain ⟨r, ls, k⟩ := (h'.lkd_iff hl ha hb).1 q
  obtain ⟨r1, ls1, k1, k2⟩ := k.erase
  have hT : ∀ t, Td (updT tt e none) t → t ≠ e ∧ Td tt t := fun t ⟨x, y, j⟩ => by
    by_cases te : t = e
    · rw [te, updT_self] at j; cases j
    · rw [updT_ne none te] at j; exact ⟨te, x, y, j⟩
  have hE : ∀ t, Td (updT tt e none) t → eA tt t = eA (updT tt e none) t ∧ eB tt t = eB (updT tt e none) t := fun t ht => by
    unfold eA eB
    rw [updT_ne none (hT t ht).1]
    exact ⟨rfl, rfl⟩
  have k3 : FR fi (eA tt) (eB tt) (Td tt) (fi a) (fi b) (r1.map id) ls1 := k1.conv id (fun t ht => (hT t ht).2) (fun t ht => by rw [show id t = t from rfl, (hE t ht).1]) (fun t ht => by rw [show id t = t from rfl, (hE t ht).2])
  rw [List.map_id] at k3
  obtain ⟨r2, ls2, k4, k5, k6⟩ := hz fi hl
  have := h.uniq hl ha hb k3 k2 k4 k5
  subst this
  rcases k6 with ⟨_, q⟩ | ⟨P, e', Q, hr, q, _⟩
  · omega
  · have : e = e' := by omega
    subst this
    exact (hT e (k1.tied e (by rw [hr]; simp))).1 rfl

/-- The same key both ways. -/
theorem WQ.both (h : WQ lo w wb n m sq tt ky w0) (hl : Lb n sq fi) {a b : Nat} (ha : a < n) (hb : b < n) {e : Nat} (hz : WkP n sq tt ky a b (e : Int)) {z : Int} (hz' : WkP n sq tt ky b a z) : ∃ e' : Nat, z = (e' : Int) ∧ Td tt e' ∧ ky e' = ky e := by
  obtain ⟨r, ls, k1, k2, k3⟩ := hz fi hl
  obtain ⟨r', ls', g1, g2, g3⟩ := hz' fi hl
  have := h.uniq hl hb ha k1.rev (List.pairwise_reverse.2 (k2.imp fun q => Ne.symm q)) g1 g2
  subst this
  rcases k3 with ⟨_, q⟩ | ⟨P, e1, Q, hr, q, q1, q2⟩
  · omega
  have : e = e1 := by omega
  subst this
  have he : e ∈ r := by rw [hr]; simp
  rcases g3 with ⟨j, _⟩ | ⟨P', e', Q', hr', rfl, q3, q4⟩
  · have : e ∈ r.reverse := List.mem_reverse.2 he
    rw [j] at this; cases this
  · have he' : e' ∈ r := List.mem_reverse.1 (by rw [hr']; simp)
    have a1 := q1 e' he'
    have a2 := q3 e (List.mem_reverse.2 he)
    exact ⟨e', rfl, k1.tied e' he', by omega⟩

/-- What it tells is tied, or the face is one. -/
theorem WkP.kind (hl : Lb n sq fi) {a b : Nat} (ha : a < n) (hb : b < n) {z : Int} (hz : WkP n sq tt ky a b z) : (z = -1 ∧ b + 1 ∈ sq (a + 1)) ∨ ∃ e x y : Nat, z = (e : Int) ∧ tt e = some (x, y) := by
  obtain ⟨r, ls, k1, k2, k3⟩ := hz fi hl
  rcases k3 with ⟨rfl, rfl⟩ | ⟨P, e, Q, hr, rfl, _⟩
  · exact .inl ⟨rfl, (hl a b ha hb).1 k1.nil_eq⟩
  · obtain ⟨x, y, q⟩ := k1.tied e (by rw [hr]; simp)
    exact .inr ⟨e, x, y, rfl, q⟩

/-- The place of a tie in the document's list. -/
theorem at_tied {ts : List Wd.Ti} (hts : Ts tt ky ts) {e x y : Nat} (hc : tt e = some (x, y)) {i : Int} (hi : Wd.AtIs ts (e : Int) i) : ∃ j : Nat, i = (j : Int) ∧ ts[j]? = some ⟨e, x, y, ky e⟩ := by
  rcases hi with ⟨j, t, rfl, ht, he, _⟩ | ⟨_, hno⟩
  · refine ⟨j, rfl, ?_⟩
    obtain ⟨q1, q2⟩ := hts.into t (List.mem_of_getElem? ht)
    have : t.e = e := by omega
    rw [this] at q1 q2
    rw [hc] at q1
    injection q1 with q1
    injection q1 with q3 q4
    rw [ht]
    obtain ⟨te, ta, tb, tk⟩ := t
    simp only [] at this q2 q3 q4
    rw [this, ← q3, ← q4, ← q2]
  · obtain ⟨t, ht, he⟩ := hts.out e x y hc
    exact absurd (by rw [he]) (hno t ht)

/-- Whether it is tied. -/
theorem at_is {ts : List Wd.Ti} (hts : Ts tt ky ts) {e : Int} {i : Int} (hi : Wd.AtIs ts e i) : (0 ≤ i ↔ 0 ≤ e ∧ (tt e.toNat).isSome = true) := by
  rcases hi with ⟨j, t, rfl, ht, he, _⟩ | ⟨rfl, hno⟩
  · obtain ⟨q1, q2⟩ := hts.into t (List.mem_of_getElem? ht)
    refine ⟨fun _ => ⟨by omega, ?_⟩, fun _ => by omega⟩
    rw [show e.toNat = t.e by omega, q1]
    rfl
  · refine ⟨fun q => by omega, fun ⟨q1, q2⟩ => ?_⟩
    cases hc : tt e.toNat with
    | none => rw [hc] at q2; cases q2
    | some p =>
      obtain ⟨x, y⟩ := p
      obtain ⟨t, ht, he⟩ := hts.out e.toNat x y hc
      exact absurd (by omega) (hno t ht)
end
end Go.Proofs.YtdmkbcbgjdmgdaaGreatDoor
