/- What is no bridge, taken away: plain mathematics. -/
import Derived.Test.YtghpjljnbdjmaaaGreatDoorBksure
import Derived.Test.YtghpjljnbdjmaaaGreatDoorBlink
namespace Go.Proofs.YtghpjljnbdjmaaaGreatDoor
set_option linter.unusedVariables false

section
variable {V E : Nat} {R : Nat → List Nat}

/-- An edge that is no bridge, lifted, parts nothing. -/
theorem lb_nobridge (h : Tn V E R) (t : Tw V E R) {e : Nat} (he : e < E) (hi : In V R (2 * e)) (hb : ¬ Br V R e) : lb V E (liftR R e) = lb V E R := by
  rw [br_lb h t, Ne, Classical.not_not] at hb
  rw [lb_lift h t he hi, Un.jn_same hb]

/-- A bridge, lifted, parts one group. -/
theorem cc_bridge (h : Tn V E R) (t : Tw V E R) {e : Nat} (he : e < E) (hi : In V R (2 * e)) (hb : Br V R e) : cc V E (liftR R e) = cc V E R + 1 := by
  rw [br_lb h t] at hb
  have hj := (t e he).1 hi
  unfold cc
  rw [lb_lift h t he hi]
  exact Un.fix_join (lb_lab V E (liftR R e)) (og_is hi).1 (og_is hj).1 hb

/-- A bridge stays one where another edge is lifted. -/
theorem br_more (h : Tn V E R) (t : Tw V E R) {e k : Nat} (hk : In V (liftR R e) (2 * k)) (hkE : k < E) (hb : Br V R k) : Br V (liftR R e) k := by
  have hl := h.lift t (e := e)
  have hk2 := (hl.2.1 k hkE).1 hk
  unfold Br at hb ⊢
  rw [og_lift h hk, og_lift h hk2]
  intro q
  refine hb (Kn.into (P := fun z => Kn V R (k : Int) (og V R (2 * k)) z) (fun d g p => ?_) q (Kn.refl _))
  rw [og_lift h g.1] at p
  rw [og_lift h (g.1.tw hl.1 hl.2.1)]
  exact p.trans (Kn.one ⟨((hl.2.2 d).1 g.1).1, g.2⟩)

/-- Where all edges are bridges, there are as many as vertices less groups. -/
theorem all_bridges : ∀ (n : Nat) (R : Nat → List Nat), Tn V E R → Tw V E R → (es V R E).length = n → (∀ e, e < E → In V R (2 * e) → Br V R e) → (es V R E).length + cc V E R = V
  | 0, R, h, t, hn, _ => by
    have e1 : es V R E = [] := List.eq_nil_of_length_eq_zero hn
    rw [hn]
    unfold cc lb
    rw [e1]
    have := Un.fix_start V
    show 0 + Un.fix V (fun x => x) = V
    omega
  | n + 1, R, h, t, hn, hb => by
    obtain ⟨e, he⟩ : ∃ e, e ∈ es V R E := List.exists_mem_of_length_pos (by omega)
    obtain ⟨h1, h2⟩ := mem_es.1 he
    have hl := h.lift t (e := e)
    have c1 := es_lift h t h1 h2
    have c2 := cc_bridge h t h1 h2 (hb e h1 h2)
    have ih := all_bridges n (liftR R e) hl.1 hl.2.1 (by omega) (fun k hk hi => br_more h t hi hk (hb k hk ((hl.2.2 _).1 hi).1))
    omega

/-- Then the bridges are all edges. -/
theorem brs_all (hb : ∀ e, e < E → In V R (2 * e) → Br V R e) : brs V E R = es V R E := by
  classical
  unfold brs es
  refine List.filter_congr (fun e he => ?_)
  have := hb e (List.mem_range.1 he)
  by_cases q : In V R (2 * e)
  · simp [q, this q]
  · simp [q]

theorem es_yes {e : Nat} (hi : In V R (2 * e)) : es V R (e + 1) = es V R e ++ [e] := by
  classical
  unfold es
  rw [List.range_succ, List.filter_append]
  simp [hi]
end

end Go.Proofs.YtghpjljnbdjmaaaGreatDoor
