/- What stands round a face: plain mathematics. -/
import Derived.Test.YtieglcjfphmglaaDoorPerm11
import Derived.Test.YtieglcjfphmglaaDoorLay10
namespace Go.Proofs.YtieglcjfphmglaaDoor
set_option linter.unusedVariables false

/-- The other dart of the edge. -/
def tw (d : Nat) : Nat := if d % 2 = 0 then d + 1 else d - 1

theorem tw_tw (d : Nat) : tw (tw d) = d := by
  unfold tw
  by_cases h : d % 2 = 0
  · rw [if_pos h, if_neg (by omega)]; omega
  · rw [if_neg h, if_pos (by omega)]; omega
theorem tw_lt {d E : Nat} (h : d < 2 * E) : tw d < 2 * E := by unfold tw; split <;> omega
theorem tw_ne (d : Nat) : tw d ≠ d := by unfold tw; split <;> omega
theorem tw_inj {a b : Nat} (h : tw a = tw b) : a = b := by rw [← tw_tw a, h, tw_tw]
theorem tw_even (e : Nat) : tw (2 * e) = 2 * e + 1 := by unfold tw; rw [if_pos (by omega)]
theorem tw_odd (e : Nat) : tw (2 * e + 1) = 2 * e := by unfold tw; rw [if_neg (by omega)]; omega

theorem In.low {V E : Nat} {R : Nat → List Nat} (h : Tn V E R) {d : Nat} (hd : In V R d) : d < 2 * E := by
  obtain ⟨v, hv, hm⟩ := hd
  exact h.low v d hv hm

theorem In.tw {V E : Nat} {R : Nat → List Nat} (h : Tn V E R) (t : Tw V E R) {d : Nat} (hd : In V R d) : In V R (tw d) := by
  have hl := hd.low h
  have := t (d / 2) (by omega)
  unfold Go.Proofs.YtieglcjfphmglaaDoor.tw
  by_cases he : d % 2 = 0
  · rw [if_pos he]
    rw [show 2 * (d / 2) = d by omega] at this
    exact this.1 hd
  · rw [if_neg he]
    rw [show 2 * (d / 2) + 1 = d by omega, show 2 * (d / 2) = d - 1 by omega] at this
    exact this.2 hd

theorem In.tw_iff {V E : Nat} {R : Nat → List Nat} (h : Tn V E R) (t : Tw V E R) {d : Nat} : In V R (Go.Proofs.YtieglcjfphmglaaDoor.tw d) ↔ In V R d :=
  ⟨fun q => by have := q.tw h t; rw [tw_tw] at this; exact this, fun q => q.tw h t⟩

open Classical in
/-- A dart's vertex. -/
noncomputable def og (V : Nat) (R : Nat → List Nat) (d : Nat) : Nat := if h : In V R d then h.choose else 0

theorem og_is {V : Nat} {R : Nat → List Nat} {d : Nat} (h : In V R d) : og V R d < V ∧ d ∈ R (og V R d) := by
  unfold og
  rw [dif_pos h]
  exact h.choose_spec

theorem og_at {V E : Nat} {R : Nat → List Nat} (ht : Tn V E R) {u d : Nat} (hu : u < V) (hm : d ∈ R u) : og V R d = u := by
  have h := og_is (⟨u, hu, hm⟩ : In V R d)
  exact ht.one _ _ d h.1 hu h.2 hm

open Classical in
/-- The dart behind one, round its vertex (of none: itself). -/
noncomputable def vx (V : Nat) (R : Nat → List Nat) (d : Nat) : Nat := if In V R d then nx (R (og V R d)) d else d

theorem vx_at {V E : Nat} {R : Nat → List Nat} (ht : Tn V E R) {u d : Nat} (hu : u < V) (hm : d ∈ R u) : vx V R d = nx (R u) d := by
  unfold vx
  rw [if_pos ⟨u, hu, hm⟩, og_at ht hu hm]
theorem vx_no {V : Nat} {R : Nat → List Nat} {d : Nat} (h : ¬ In V R d) : vx V R d = d := by unfold vx; rw [if_neg h]
theorem vx_in {V : Nat} {R : Nat → List Nat} {d : Nat} (h : In V R d) : In V R (vx V R d) := by
  unfold vx
  rw [if_pos h]
  exact ⟨_, (og_is h).1, nx_mem (og_is h).2⟩
theorem vx_og {V E : Nat} {R : Nat → List Nat} (ht : Tn V E R) {d : Nat} (h : In V R d) : og V R (vx V R d) = og V R d := by
  rw [vx_at ht (og_is h).1 (og_is h).2]
  exact og_at ht (og_is h).1 (nx_mem (og_is h).2)
theorem vx_inj {V E : Nat} {R : Nat → List Nat} (ht : Tn V E R) {c d : Nat} (hc : In V R c) (hd : In V R d) (e : vx V R c = vx V R d) : c = d := by
  have h1 := og_is hc
  have h2 := og_is hd
  have e1 := vx_og ht hc
  rw [e, vx_og ht hd] at e1
  rw [vx_at ht h1.1 h1.2, vx_at ht h2.1 h2.2, e1] at e
  rw [e1] at h2
  exact nx_inj (ht.nd _ h1.1) h1.2 h2.2 e

open Classical in
/-- The dart behind one, round its face (of none: itself). -/
noncomputable def fx (V : Nat) (R : Nat → List Nat) (d : Nat) : Nat := if In V R d then vx V R (tw d) else d

theorem fx_yes {V : Nat} {R : Nat → List Nat} {d : Nat} (h : In V R d) : fx V R d = vx V R (tw d) := by unfold fx; rw [if_pos h]
theorem fx_no {V : Nat} {R : Nat → List Nat} {d : Nat} (h : ¬ In V R d) : fx V R d = d := by unfold fx; rw [if_neg h]

section
variable {V E : Nat} {R : Nat → List Nat} (ht : Tn V E R) (hw : Tw V E R)
include ht hw

theorem fx_in {d : Nat} : In V R (fx V R d) ↔ In V R d := by
  by_cases h : In V R d
  · rw [fx_yes h]
    exact ⟨fun _ => h, fun _ => vx_in (h.tw ht hw)⟩
  · rw [fx_no h]

theorem fx_inj {c d : Nat} (e : fx V R c = fx V R d) : c = d := by
  by_cases hc : In V R c
  · have hd : In V R d := (fx_in ht hw).1 (e ▸ (fx_in ht hw).2 hc)
    rw [fx_yes hc, fx_yes hd] at e
    exact tw_inj (vx_inj ht (hc.tw ht hw) (hd.tw ht hw) e)
  · have hd : ¬ In V R d := fun q => hc ((fx_in ht hw).1 (e ▸ (fx_in ht hw).2 q))
    rw [fx_no hc, fx_no hd] at e
    exact e

theorem fx_pm : Pq.Pm (2 * E) (fx V R) := by
  refine ⟨fun d hd => ?_, fun c d _ _ e => fx_inj ht hw e⟩
  by_cases h : In V R d
  · exact ((fx_in ht hw).2 h).low ht
  · rw [fx_no h]; exact hd

theorem it_in {d : Nat} : ∀ k, In V R (Pq.it (fx V R) k d) ↔ In V R d
  | 0 => Iff.rfl
  | k + 1 => (fx_in ht hw).trans (it_in k)

theorem orb_in {d y : Nat} (hd : In V R d) (hy : y ∈ Pq.orb (fx V R) d) : In V R y := by
  obtain ⟨k, rfl⟩ := ((fx_pm ht hw).mem_orb (hd.low ht)).1 hy
  exact (it_in ht hw k).2 hd
end

open Classical in
/-- The faces whose least darts are below x. -/
noncomputable def fcs (V : Nat) (R : Nat → List Nat) (x : Nat) : List (List Nat) := ((List.range x).filter (fun y => decide (In V R y ∧ Pq.lst (fx V R) y))).map (Pq.orb (fx V R))

theorem fcs_yes {V : Nat} {R : Nat → List Nat} {x : Nat} (h : In V R x) (hl : Pq.lst (fx V R) x) : fcs V R (x + 1) = fcs V R x ++ [Pq.orb (fx V R) x] := by
  classical
  unfold fcs
  rw [List.range_succ, List.filter_append, List.map_append]
  simp [h, hl]
theorem fcs_no {V : Nat} {R : Nat → List Nat} {x : Nat} (h : ¬ (In V R x ∧ Pq.lst (fx V R) x)) : fcs V R (x + 1) = fcs V R x := by
  classical
  unfold fcs
  rw [List.range_succ, List.filter_append, List.map_append]
  rw [List.filter_cons, if_neg (by rw [decide_eq_true_eq]; exact h)]
  simp

theorem fcs_le (V : Nat) (R : Nat → List Nat) (x : Nat) : (fcs V R x).length ≤ x := by
  classical
  unfold fcs
  rw [List.length_map]
  exact Nat.le_trans (List.length_filter_le _ _) (by simp)

/-- What a face of the list is. -/
theorem mem_fcs {V : Nat} {R : Nat → List Nat} {x : Nat} {c : List Nat} : c ∈ fcs V R x ↔ ∃ z, z < x ∧ In V R z ∧ Pq.lst (fx V R) z ∧ c = Pq.orb (fx V R) z := by
  classical
  unfold fcs
  simp only [List.mem_map, List.mem_filter, List.mem_range, decide_eq_true_eq]
  constructor
  · rintro ⟨z, ⟨h1, h2, h3⟩, rfl⟩; exact ⟨z, h1, h2, h3, rfl⟩
  · rintro ⟨z, h1, h2, h3, rfl⟩; exact ⟨z, ⟨h1, h2, h3⟩, rfl⟩

section
variable {V E : Nat} {R : Nat → List Nat} (ht : Tn V E R) (hw : Tw V E R)
include ht hw

/-- Which darts the faces so far have. -/
theorem fcs_mem {x y : Nat} (hx : x ≤ 2 * E) : y ∈ (fcs V R x).flatten ↔ In V R y ∧ ∃ k, Pq.it (fx V R) k y < x := by
  have pm := fx_pm ht hw
  rw [List.mem_flatten]
  constructor
  · rintro ⟨c, hc, hy⟩
    obtain ⟨z, hz, h1, h2, rfl⟩ := mem_fcs.1 hc
    refine ⟨orb_in ht hw h1 hy, ?_⟩
    obtain ⟨k, rfl⟩ := (pm.mem_orb (h1.low ht)).1 hy
    obtain ⟨j, hj⟩ := pm.it_back (h1.low ht) (rfl : Pq.it (fx V R) k z = _)
    exact ⟨j, by omega⟩
  · rintro ⟨hi, k, hk⟩
    have hl := hi.low ht
    obtain ⟨z, z1, z2, z3⟩ := pm.least (pm.it_lt hl k)
    have hz : z ≤ Pq.it (fx V R) k y := Pq.lst_of.1 z2 _ (pm.sym (pm.it_lt hl k) z1)
    have hyz : Pq.Of1 (fx V R) y z := Pq.Of1.trans ⟨k, rfl⟩ z1
    have hiz : In V R z := by
      obtain ⟨j, rfl⟩ := hyz
      exact (it_in ht hw j).2 hi
    refine ⟨Pq.orb (fx V R) z, mem_fcs.2 ⟨z, by omega, hiz, z2, rfl⟩, (pm.mem_orb z3).2 (pm.sym hl hyz)⟩

theorem fcs_nd : ∀ x, x ≤ 2 * E → (fcs V R x).flatten.Nodup
  | 0, _ => by simp [fcs]
  | x + 1, hx => by
    have ih := fcs_nd x (by omega)
    have pm := fx_pm ht hw
    by_cases hl : In V R x ∧ Pq.lst (fx V R) x
    · rw [fcs_yes hl.1 hl.2, List.flatten_append, List.nodup_append]
      simp only [List.flatten_cons, List.flatten_nil, List.append_nil]
      refine ⟨ih, pm.orb_nodup (by omega), fun a ha b hb e => ?_⟩
      subst e
      obtain ⟨_, k, hk⟩ := (fcs_mem ht hw (by omega)).1 ha
      obtain ⟨j, rfl⟩ := (pm.mem_orb (show x < 2 * E by omega)).1 hb
      have := hl.2 (k + j)
      rw [Pq.it_add] at this
      omega
    · rw [fcs_no hl]; exact ih

end
end Go.Proofs.YtieglcjfphmglaaDoor
