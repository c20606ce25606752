/- Bridges and faces; an edge lifted and laid again: plain mathematics. -/
import Derived.Test.YtghpjljnbdjmaaaGreatDoorBare15
import Derived.Test.YtghpjljnbdjmaaaGreatDoorBfind
import Derived.Test.YtghpjljnbdjmaaaGreatDoorBtakes
namespace Go.Proofs.YtghpjljnbdjmaaaGreatDoor
set_option linter.unusedVariables false

section
variable {V E : Nat} {R : Nat → List Nat} {e : Nat}

/-- Where all is flat an edge is a bridge just where both its darts are of one face. -/
theorem br_face (h : Tn V E R) (t : Tw V E R) (he : e < E) (hi : In V R (2 * e)) (hx : Xi V E R = 0) : Br V R e ↔ 2 * e + 1 ∈ Pq.orb (fx V R) (2 * e) := by
  rw [(fx_pm h t).mem_orb (hi.low h)]
  show Br V R e ↔ Pq.Of1 (fx V R) (2 * e) (2 * e + 1)
  rw [br_lb h t]
  constructor
  · intro q
    exact Classical.not_not.1 (fun z => q (bridge h t he hi z))
  · intro q z
    have h1 := (xi_lift h t he hi).1 ⟨q, z⟩
    have hl := h.lift t (e := e)
    have h2 := xi_le _ (liftR R e) hl.1 hl.2.1 rfl
    omega

/-- A bridge is where, taken away, there is one group more. -/
theorem cc_lift (h : Tn V E R) (t : Tw V E R) (he : e < E) (hi : In V R (2 * e)) : (Br V R e ∧ cc V E (liftR R e) = cc V E R + 1) ∨ (¬ Br V R e ∧ cc V E (liftR R e) = cc V E R) := by
  by_cases q : Br V R e
  · exact .inl ⟨q, cc_bridge h t he hi q⟩
  · exact .inr ⟨q, by unfold cc; rw [lb_nobridge h t he hi q]⟩

theorem co_none_of {u : Nat} {b : Int} (h : Co V R (u : Int) b) (q : co b = none) : R u = [] := by
  obtain ⟨u', e, hu, ⟨rfl, h1⟩ | ⟨d, rfl, h1⟩⟩ := h
  · obtain rfl : u = u' := by omega
    exact h1
  · rw [co_some] at q; cases q

/-- Laid again between the same vertices, wherever behind: the groups are as they were. -/
theorem relay (h : Tn V E R) (t : Tw V E R) (he : e < E) (hi : In V R (2 * e)) {p q : Int} (hp : Co V (liftR R e) (og V R (2 * e) : Int) p) (hq : Co V (liftR R e) (og V R (2 * e + 1) : Int) q) :
    Tw V E (layR (liftR R e) e (og V R (2 * e)) (og V R (2 * e + 1)) (co p) (co q)) ∧ cc V E (layR (liftR R e) e (og V R (2 * e)) (og V R (2 * e + 1)) (co p) (co q)) = cc V E R := by
  have hl := h.lift t (e := e)
  have hj := (t e he).1 hi
  have hn : ¬ In V (liftR R e) (2 * e) := fun z => ((hl.2.2 _).1 z).2.1 rfl
  have hu := (og_is hi).1
  have hv := (og_is hj).1
  have st := lay_steps hl.1 hl.2.1 he hu hv hp.mem hq.mem (co_none_of hp) (co_none_of hq) hn
  refine ⟨(hl.1.lay hl.2.1 he hu hv hp.mem hq.mem hn).2.1, ?_⟩
  rcases cc_lift h t he hi with ⟨b1, b2⟩ | ⟨b1, b2⟩
  · have := (st.2.1 ((br_lb h t).1 b1)).2.1
    omega
  · rw [br_lb h t, Ne, Classical.not_not] at b1
    rw [(st.2.2 b1).1, b2]

theorem lift_mem {u d : Nat} (hd : d ∈ R u) (hn : d / 2 ≠ e) : d ∈ liftR R e u := by
  unfold liftR outR
  rw [List.mem_erase_of_ne (by omega), List.mem_erase_of_ne (by omega)]
  exact hd

/-- The corner behind the dart before. -/
theorem co_prev (h : Tn V E R) {u d : Nat} (hu : u < V) (hd : d ∈ R u) (hn : pv (R u) d / 2 ≠ e) : Co V (liftR R e) (u : Int) (pv (R u) d : Int) :=
  ⟨u, rfl, hu, .inr ⟨_, rfl, lift_mem (pv_mem (h.nd u hu) hd).1 hn⟩⟩

theorem co_bare {u : Nat} (hu : u < V) (hr : R u = []) : Co V R (u : Int) (-1) := ⟨u, rfl, hu, .inl ⟨rfl, hr⟩⟩
theorem co_first {u m : Nat} (hu : u < V) (hm : (lf (R u))[0]? = some m) : Co V R (u : Int) (m : Int) := ⟨u, rfl, hu, .inr ⟨m, rfl, rot_mem.1 (List.mem_of_getElem? hm)⟩⟩
end

end Go.Proofs.YtghpjljnbdjmaaaGreatDoor
