/- A model that may be: plain mathematics. -/
import Derived.Test.YtboafgimjadboaaGreatDoorArBlist
import Derived.Test.YtboafgimjadboaaGreatDoorBlink
import Derived.Test.YtboafgimjadboaaGreatDoorBload
import Derived.Test.YtboafgimjadboaaGreatDoorBmo
namespace Go.Proofs.YtboafgimjadboaaGreatDoor
set_option linter.unusedVariables false

/-- What stands round each vertex. -/
noncomputable def Rm (m : Mo) (v : Nat) : List Nat := if v < m.vs.length then row17 m v else []
noncomputable def rwsI (m : Mo) : List (List Int) := (rws m).map (fun l => l.map (fun x : Nat => (x : Int)))
def mV (m : Mo) : Nat := max m.vs.length 1
def mE (m : Mo) : Nat := max m.es.length 1

/-- Places that may be of so many. -/
def FairI (n : Int) (ps : List (Int × Int)) : Prop := ∃ k : Nat, n = (k : Int) ∧ 1 ≤ k ∧ k ≤ 1048576 ∧ Ar.Fair k ps
/-- A model that may be. -/
def May (m : Mo) : Prop := FairI m.n m.vs ∧ FairI m.n m.es ∧ Told m ∧ Cy m ∧ Xi (mV m) (mE m) (Rm m) = 0

theorem row_nd {m : Mo} (hc : Cy m) {v : Nat} : (row17 m v).Nodup := by
  unfold row17 rowB
  cases e : lea m v m.k with
  | none => simp
  | some d => exact hc.1.orb_nodup (lea_is e).1

section
variable {m : Mo} (h : Told m) (hc : Cy m)
include h hc

theorem row_mem {v x : Nat} : x ∈ row17 m v ↔ Lv m.es (x / 2) ∧ m.fr x = v := by
  unfold row17 rowB
  cases e : lea m v m.k with
  | none =>
    simp only [List.not_mem_nil, false_iff]
    exact fun q => lea_none e (h.dart q.1).1 q
  | some d =>
    obtain ⟨a, b, c⟩ := lea_is e
    simp only
    rw [hc.1.mem_orb a]
    constructor
    · rintro ⟨j, rfl⟩
      exact ⟨(h.it_live j).2 b, (h.it_fr b j).trans c⟩
    · rintro ⟨q, r⟩
      exact hc.2 d x b q (c.trans r.symm)

theorem rm_mem {v x : Nat} : x ∈ Rm m v ↔ Lv m.es (x / 2) ∧ m.fr x = v := by
  unfold Rm
  split
  · exact row_mem h hc
  · next q =>
    simp only [List.not_mem_nil, false_iff]
    rintro ⟨a, b⟩
    have := (h.dart a).2.1.lt
    omega

theorem rm_in {V x : Nat} (hV : m.vs.length ≤ V) : In V (Rm m) x ↔ Lv m.es (x / 2) := by
  constructor
  · rintro ⟨v, _, hx⟩
    exact ((rm_mem h hc).1 hx).1
  · intro q
    have := (h.dart q).2.1.lt
    exact ⟨m.fr x, by omega, (rm_mem h hc).2 ⟨q, rfl⟩⟩

theorem rm_tn {V E : Nat} (hE : m.es.length ≤ E) : Tn V E (Rm m) := by
  refine ⟨fun v _ => ?_, fun u v d _ _ a b => ((rm_mem h hc).1 a).2.symm.trans ((rm_mem h hc).1 b).2, fun v d _ a => ?_⟩
  · unfold Rm
    split
    · exact row_nd hc
    · simp
  · have := ((rm_mem h hc).1 a).1.lt
    omega

theorem rm_tw {V E : Nat} (hV : m.vs.length ≤ V) : Tw V E (Rm m) := fun e _ => by
  rw [rm_in h hc hV, rm_in h hc hV, show (2 * e + 1) / 2 = e by omega, show 2 * e / 2 = e by omega]

theorem rm_vl {V : Nat} (hV : m.vs.length ≤ V) : Vl V (Rm m) (Ar.lives m.vs) := by
  refine ⟨?_, fun x hx => ?_, fun v _ hv => ?_⟩
  · unfold Ar.lives Ar.lv
    exact List.nodup_range.filter _
  · have := ((Ar.lv_mem _ _ _).1 hx).1
    omega
  · obtain ⟨x, l, e⟩ := List.exists_cons_of_ne_nil hv
    have hx := (rm_mem h hc).1 (show x ∈ Rm m v by rw [e]; simp)
    have hl := (h.dart hx.1).2.1
    rw [hx.2] at hl
    exact (Ar.lv_mem _ _ _).2 ⟨hl.lt, hl⟩
end

theorem rws_len (m : Mo) : (rws m).length = m.vs.length := rwB_len _ _ _
theorem rwsI_len (m : Mo) : (rwsI m).length = m.vs.length := by unfold rwsI; rw [List.length_map, rws_len]
theorem rwsI_get {m : Mo} {v : Nat} (h : v < m.vs.length) : (rwsI m)[v]? = some ((Rm m v).map (fun x : Nat => (x : Int))) := by
  unfold rwsI rws
  rw [List.getElem?_map, rwB_get h]
  unfold Rm
  rw [if_pos h]
  rfl
theorem rrow {m : Mo} {v : Nat} (h : v < m.vs.length) : row (rwsI m) v = Rm m v := by
  unfold row
  rw [rwsI_get h]
  simp [Function.comp_def]

theorem rr_rm (m : Mo) : RR (rwsI m) (rwsI m).length 0 = Rm m := by
  funext u
  unfold RR
  rw [rwsI_len]
  by_cases h : u < m.vs.length
  · rw [if_pos h, rrow h]
  · rw [if_neg h]
    unfold Rm
    rw [if_neg h]
    split <;> simp

theorem good17 {m : Mo} (h : Told m) (hc : Cy m) {V E : Nat} (hV : m.vs.length ≤ V) (hE : m.es.length ≤ E) : Good V E (rwsI m) := by
  have ht := rm_tn h hc (V := V) hE
  refine ⟨by rw [rwsI_len]; exact hV, fun v l k z hv hz => ?_, ?_⟩
  · have hvV : v < m.vs.length := by have := (List.getElem?_eq_some_iff.1 hv).1; rw [rwsI_len] at this; exact this
    rw [rwsI_get hvV] at hv
    cases hv
    rw [List.getElem?_map, Option.map_eq_some_iff] at hz
    obtain ⟨d, hd, rfl⟩ := hz
    have hm := List.mem_of_getElem? hd
    have hlow := ht.low v d (by omega) hm
    refine ⟨by omega, by omega, ?_⟩
    simp only [Int.toNat_natCast]
    rintro ⟨u, hu, hin⟩
    unfold RR at hin
    split at hin
    · next h1 =>
      rw [rrow (by omega)] at hin
      have := ht.one u v d hu (by omega) hin hm
      omega
    · split at hin
      · next h1 h2 =>
        rw [rrow hvV] at hin
        obtain ⟨j, hj⟩ := List.getElem?_of_mem hin
        rw [List.getElem?_take] at hj
        split at hj
        · next h3 =>
          have := (List.getElem?_inj (List.getElem?_eq_some_iff.1 hj).1 (ht.nd v (by omega))).1 (hj.trans hd.symm)
          omega
        · cases hj
      · simp at hin
  · rw [rr_rm]
    exact rm_tw h hc hV

end Go.Proofs.YtboafgimjadboaaGreatDoor
