/- What is told of turns, as lists to load: plain mathematics. -/
import Derived.Test.YtdlggnibgnflnabDoorLoadT10
import Derived.Test.YtdlggnibgnflnabDoorBack10
namespace Go.Proofs.YtdlggnibgnflnabDoor
set_option linter.unusedVariables false

/-- The lists as they are told. -/
def tolds (V : Nat) (R : Nat → List Nat) : List (List Int) := (List.range V).map (fun u => (lf (R u)).map (fun x : Nat => (x : Int)))

theorem tolds_len (V : Nat) (R : Nat → List Nat) : (tolds V R).length = V := by simp [tolds]
theorem tolds_get {V : Nat} {R : Nat → List Nat} {u : Nat} (hu : u < V) : (tolds V R)[u]? = some ((lf (R u)).map (fun x : Nat => (x : Int))) := by simp [tolds, hu]
theorem row_tolds {V : Nat} {R : Nat → List Nat} {u : Nat} (hu : u < V) : row (tolds V R) u = lf (R u) := by
  unfold row
  rw [tolds_get hu]
  simp [Function.comp_def]
theorem lf_mem {l : List Nat} {y : Nat} : y ∈ lf l ↔ y ∈ l := rot_mem
theorem rr_tolds {V : Nat} {R : Nat → List Nat} {u : Nat} (hu : u < V) : RR (tolds V R) V 0 u = lf (R u) := by
  unfold RR
  rw [if_pos hu, row_tolds hu]
theorem in_tolds {V : Nat} {R : Nat → List Nat} {d : Nat} : In V (RR (tolds V R) V 0) d ↔ In V R d := by
  constructor
  · rintro ⟨u, hu, hm⟩
    rw [rr_tolds hu] at hm
    exact ⟨u, hu, lf_mem.1 hm⟩
  · rintro ⟨u, hu, hm⟩
    exact ⟨u, hu, by rw [rr_tolds hu]; exact lf_mem.2 hm⟩

theorem good_tolds {V E : Nat} {R : Nat → List Nat} (ht : Tn V E R) (hw : Tw V E R) : Good V E (tolds V R) := by
  refine ⟨by rw [tolds_len]; omega, fun v l k z hv hz => ?_, fun e he => ?_⟩
  · have hvV : v < V := by have := (List.getElem?_eq_some_iff.1 hv).1; rw [tolds_len] at this; exact this
    rw [tolds_get hvV] at hv
    cases hv
    rw [List.getElem?_map, Option.map_eq_some_iff] at hz
    obtain ⟨d, hd, rfl⟩ := hz
    have hm := List.mem_of_getElem? hd
    have hmR := lf_mem.1 hm
    have hlow := ht.low v d hvV hmR
    refine ⟨by omega, by omega, ?_⟩
    simp only [Int.toNat_natCast]
    rintro ⟨u, hu, hin⟩
    unfold RR at hin
    split at hin
    · next h1 =>
      rw [row_tolds hu] at hin
      have := ht.one u v d hu hvV (lf_mem.1 hin) hmR
      omega
    · split at hin
      · next h1 h2 =>
        rw [row_tolds hvV] at hin
        obtain ⟨j, hj⟩ := List.getElem?_of_mem hin
        rw [List.getElem?_take] at hj
        split at hj
        · next h3 =>
          have hnd := rot_nd (x := least0 (R v)) (ht.nd v hvV)
          have := (List.getElem?_inj (List.getElem?_eq_some_iff.1 hj).1 hnd).1 (hj.trans hd.symm)
          omega
        · cases hj
      · simp at hin
  · rw [tolds_len, in_tolds, in_tolds]
    exact hw e he

/-- The lists told, in memory, are lists to load. -/
theorem Bf.rv {base V : Nat} {R : Nat → List Nat} {v : Value} {us : List Value} {y : World} (h : Bf base R V v us y) (hV : 1 ≤ V) (hV2 : V ≤ 1000) : RV y v (tolds V R) := by
  obtain ⟨h1, h2, h3⟩ := h
  obtain ⟨g, cap, rfl, hc1, hc2⟩ := own_form h1 (by omega)
  refine ⟨_, V, cap, rfl, tolds_len V R, by omega, fun i l hi => ?_⟩
  have hiV : i < V := by have := (List.getElem?_eq_some_iff.1 hi).1; rw [tolds_len] at this; exact this
  rw [tolds_get hiV] at hi
  cases hi
  obtain ⟨u, hu⟩ : ∃ u, us[i]? = some u := ⟨_, List.getElem?_eq_getElem (by omega)⟩
  refine ⟨g, 0, u, rfl, ?_, (h3 i u hu).iv⟩
  rw [Nat.zero_add, h1.cellAt i (by omega)]
  exact hu

/-- What is told of a dart, here and there, is one. -/
theorem nxt_same {V E : Nat} {R : Nat → List Nat} (ht : Tn V E R) {d n p o n' p' o' : Int} {r r' : Value} (h : Nxt V E R d n p o r) (h' : Nxt V E (RR (tolds V R) V 0) d n' p' o' r') :
    n = n' ∧ o = o' ∧ r = r' ∧ ∃ c : Int, (r = .nilIface ∧ c = 0) ∨ (r = .iface 47 (.int .i64 c) ∧ c ≠ 0) := by
  rcases h with ⟨h1, h2, _, h4, h5⟩ | ⟨h1, h2, _, h4, k, hk, h5, h6⟩ | ⟨h1, k, u, hk, hu, hm, h2, _, h4⟩
  · rcases h' with ⟨g1, g2, _, g4, g5⟩ | ⟨g1, g2, _, g4, k', hk', g5, g6⟩ | ⟨g1, k', u', hk', hu', hm', g2, _, g4⟩
    · exact ⟨h2.trans g2.symm, h4.trans g4.symm, h1.trans g1.symm, 12, .inr ⟨h1, by decide⟩⟩
    · omega
    · rw [rr_tolds hu'] at hm'
      have := ht.low u' k' hu' (lf_mem.1 hm')
      omega
  · rcases h' with ⟨g1, g2, _, g4, g5⟩ | ⟨g1, g2, _, g4, k', hk', g5, g6⟩ | ⟨g1, k', u', hk', hu', hm', g2, _, g4⟩
    · omega
    · exact ⟨h2.trans g2.symm, h4.trans g4.symm, h1.trans g1.symm, 13, .inr ⟨h1, by decide⟩⟩
    · obtain rfl : k = k' := by omega
      exact absurd (in_tolds.1 ⟨u', hu', hm'⟩) h6
  · rcases h' with ⟨g1, g2, _, g4, g5⟩ | ⟨g1, g2, _, g4, k', hk', g5, g6⟩ | ⟨g1, k', u', hk', hu', hm', g2, _, g4⟩
    · have := ht.low u k hu hm
      omega
    · obtain rfl : k = k' := by omega
      exact absurd (in_tolds.2 ⟨u, hu, hm⟩) g6
    · obtain rfl : k = k' := by omega
      rw [rr_tolds hu'] at hm' g2
      obtain rfl := ht.one u u' k hu hu' hm (lf_mem.1 hm')
      rw [nx_lf (ht.nd u hu) hm] at g2
      exact ⟨h2.trans g2.symm, h4.trans g4.symm, h1.trans g1.symm, 0, .inl ⟨h1, rfl⟩⟩

end Go.Proofs.YtdlggnibgnflnabDoor
