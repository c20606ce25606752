/- The document's way to what stands round each vertex: plain mathematics. The degrees together: plain mathematics. The rows' darts, each behind the one ahead; how many; other ages: plain mathematics. -/
import Derived.Test.YtboafgimjadboaaGreatDoorBdoc
import Derived.Test.YtboafgimjadboaaGreatDoorBput
import Derived.Test.YtboafgimjadboaaGreatDoorGood17
namespace Go.Proofs.YtboafgimjadboaaGreatDoor
set_option linter.unusedVariables false

/-- The darts of live edges, of the first edges. -/
def dts (m : Mo) (n : Nat) : List Nat := (List.range (2 * n)).filter (fun d => decide (Lv m.es (d / 2)))

theorem dts_zero (m : Mo) : dts m 0 = [] := rfl
theorem dts_yes {m : Mo} {n : Nat} (h : Lv m.es n) : dts m (n + 1) = dts m n ++ [2 * n, 2 * n + 1] := by
  unfold dts
  rw [show 2 * (n + 1) = 2 * n + 1 + 1 by omega, List.range_succ, List.range_succ, List.filter_append, List.filter_append]
  simp [show (2 * n) / 2 = n by omega, show (2 * n + 1) / 2 = n by omega, h]
theorem dts_no {m : Mo} {n : Nat} (h : ¬ Lv m.es n) : dts m (n + 1) = dts m n := by
  unfold dts
  rw [show 2 * (n + 1) = 2 * n + 1 + 1 by omega, List.range_succ, List.range_succ, List.filter_append, List.filter_append]
  simp [show (2 * n) / 2 = n by omega, show (2 * n + 1) / 2 = n by omega, h]
theorem dts_le (m : Mo) (n : Nat) : (dts m n).length ≤ 2 * n := by
  have := List.length_filter_le (fun d => decide (Lv m.es (d / 2))) (List.range (2 * n))
  rw [List.length_range] at this
  exact this
theorem dts_nd (m : Mo) (n : Nat) : (dts m n).Nodup := List.nodup_range.filter _
/-- All. -/
def dtl (m : Mo) : List Nat := dts m m.es.length
theorem mem_dtl {m : Mo} {d : Nat} : d ∈ dtl m ↔ Lv m.es (d / 2) := by
  unfold dtl dts
  rw [List.mem_filter, List.mem_range, decide_eq_true_iff]
  exact ⟨fun h => h.2, fun h => ⟨by have := h.lt; omega, h⟩⟩

/-- What is told of a dart may be. -/
def DOk (m : Mo) (d : Nat) : Prop := Lv m.vs (m.fr d) ∧ Lv m.es (m.nd d / 2) ∧ m.fr (m.nd d) = m.fr d
/-- The document's: what fits. -/
structure Fit (m : Mo) : Prop where
  v : FairI m.n m.vs
  e : FairI m.n m.es
  len : m.l.length = m.es.length
  z : ∀ e, e < m.l.length → ¬ Lv m.es e → m.eg e = ez
  d : ∀ d, Lv m.es (d / 2) → DOk m d
  inj : ∀ d d', Lv m.es (d / 2) → Lv m.es (d' / 2) → m.nd d = m.nd d' → d = d'

theorem Fit.told {m : Mo} (h : Fit m) : Told m := by
  refine ⟨h.len, fun e x hx => ⟨fun hn => ?_, fun hl s hs => ?_⟩⟩
  · have := h.z e (List.getElem?_eq_some_iff.1 hx).1 hn
    rwa [Mo.eg_at hx] at this
  · have hd := h.d (2 * e + s) (by rw [show (2 * e + s) / 2 = e by omega]; exact hl)
    have e1 : m.fr (2 * e + s) = x.fr s := by unfold Mo.fr; rw [show (2 * e + s) / 2 = e by omega, show (2 * e + s) % 2 = s by omega, Mo.eg_at hx]
    have e2 : m.nd (2 * e + s) = x.nx s := by unfold Mo.nd; rw [show (2 * e + s) / 2 = e by omega, show (2 * e + s) % 2 = s by omega, Mo.eg_at hx]
    unfold DOk at hd
    rw [e1, e2] at hd
    exact hd

theorem Fit.pm {m : Mo} (h : Fit m) : Pq.Pm m.k m.f := by
  have ht := h.told
  refine ⟨fun i hi => ?_, fun a b ha hb e => ?_⟩
  · by_cases q : Lv m.es (i / 2)
    · exact (ht.dart (ht.live.2 q)).1
    · rw [Mo.f_dead q]; exact hi
  · by_cases qa : Lv m.es (a / 2)
    · have qb : Lv m.es (b / 2) := ht.live.1 (e ▸ ht.live.2 qa)
      rw [Mo.f_live qa, Mo.f_live qb] at e
      exact h.inj a b qa qb e
    · have qb : ¬ Lv m.es (b / 2) := fun q => qa (ht.live.1 (e ▸ ht.live.2 q))
      rwa [Mo.f_dead qa, Mo.f_dead qb] at e

theorem May.fit {m : Mo} (h : May m) : Fit m := by
  obtain ⟨h1, h2, ht, hc, _⟩ := h
  refine ⟨h1, h2, ht.1, fun e he hn => ?_, fun d hd => (ht.dart hd).2, fun d d' hd hd' e => ?_⟩
  · obtain ⟨x, hx⟩ : ∃ x, m.l[e]? = some x := ⟨_, List.getElem?_eq_getElem he⟩
    rw [Mo.eg_at hx]
    exact (ht.2 e x hx).1 hn
  · exact hc.1.inj d d' (ht.dart hd).1 (ht.dart hd').1 (by rw [Mo.f_live hd, Mo.f_live hd']; exact e)

/-- The darts of a vertex. -/
def vdt (m : Mo) (v : Nat) (l : List Nat) : List Nat := l.filter (fun d => decide (m.fr d = v))
theorem vdt_step {m : Mo} {v i d : Nat} {l : List Nat} (h : l[i]? = some d) : vdt m v (l.take (i + 1)) = vdt m v (l.take i) ++ (if m.fr d = v then [d] else []) := by
  unfold vdt
  rw [List.take_add_one, h, List.filter_append]
  by_cases q : m.fr d = v <;> simp [q]
/-- The least one, or -1. -/
def hd1 (l : List Nat) : Int := match l with
  | [] => -1
  | d :: _ => (d : Int)
theorem hd1_pos {l : List Nat} (h : l ≠ []) : 0 ≤ hd1 l := by
  cases l with
  | nil => exact absurd rfl h
  | cons a l => show (0 : Int) ≤ (a : Int); omega
theorem hd1_app {l : List Nat} (h : l ≠ []) (t : List Nat) : hd1 (l ++ t) = hd1 l := by
  cases l with
  | nil => exact absurd rfl h
  | cons a l => rfl

theorem mem_vdt {m : Mo} {v d : Nat} : d ∈ vdt m v (dtl m) ↔ Lv m.es (d / 2) ∧ m.fr d = v := by
  unfold vdt
  rw [List.mem_filter, mem_dtl, decide_eq_true_iff]
theorem vdt_nd (m : Mo) (v : Nat) : (vdt m v (dtl m)).Nodup := (dts_nd m _).filter _

/-- The first of them is the least. -/
theorem vdt_lea {m : Mo} (hl : m.l.length = m.es.length) (v : Nat) : (vdt m v (dtl m)).head? = lea m v m.k := by
  unfold vdt dtl dts lea Mo.k
  rw [List.filter_filter, List.head?_filter, hl]
  congr 1
  funext d
  rw [← Bool.decide_and, decide_eq_decide]
  exact And.comm

theorem vdt_nil {m : Mo} (hl : m.l.length = m.es.length) {v : Nat} (h : vdt m v (dtl m) = []) : row17 m v = [] := by
  have := vdt_lea hl v
  rw [h] at this
  unfold row17 rowB
  rw [← this]; rfl

theorem vd_first {m : Mo} {v d : Nat} {l : List Nat} (hv : vdt m v (dtl m) = d :: l) : Lv m.es (d / 2) ∧ m.fr d = v := mem_vdt.1 (by rw [hv]; simp)

section
variable {m : Mo} (h : Fit m) {v d : Nat} {l : List Nat} (hv : vdt m v (dtl m) = d :: l)
include h hv

/-- Gone round without coming back too early, all of them were met. -/
theorem vd_all (hr : ∀ i, 0 < i → i < l.length + 1 → Pq.it m.f i d ≠ d) : ∀ x, Lv m.es (x / 2) → m.fr x = v → ∃ j, j < l.length + 1 ∧ Pq.it m.f j d = x := by
  have ht := h.told
  obtain ⟨h1, h2⟩ := vd_first hv
  have hk := (ht.dart h1).1
  have hnd : (Pq.fl (l.length + 1) (fun j => Pq.it m.f j d)).Nodup := by
    refine Pq.fl_nodup (fun i j hi hj e => ?_)
    rcases Nat.lt_trichotomy i j with q | q | q
    · have := h.pm.cancel hk (by omega : i ≤ j) e
      exact absurd this (hr _ (by omega) (by omega))
    · exact q
    · have := h.pm.cancel hk (by omega : j ≤ i) e.symm
      exact absurd this (hr _ (by omega) (by omega))
  intro x hx hf
  have hp := (Pq.pig2 _ (vdt m v (dtl m)) hnd (fun y hy => by
    obtain ⟨j, _, rfl⟩ := Pq.mem_fl.1 hy
    exact mem_vdt.2 ⟨(ht.it_live j).2 h1, (ht.it_fr h1 j).trans h2⟩)).2 (by rw [hv]; simp)
  exact Pq.mem_fl.1 (hp.mem_iff.1 (mem_vdt.2 ⟨hx, hf⟩))

/-- The row, gone round without coming back too early. -/
theorem vd_row2 (hr : ∀ i, 0 < i → i < l.length + 1 → Pq.it m.f i d ≠ d) : row17 m v = Pq.fl (l.length + 1) (fun j => Pq.it m.f j d) := by
  have ht := h.told
  obtain ⟨h1, h2⟩ := vd_first hv
  have hk := (ht.dart h1).1
  have ha := vd_all h hv hr
  have hq : Pq.it m.f (l.length + 1) d = d := by
    obtain ⟨j, hj, e⟩ := ha _ ((ht.it_live (l.length + 1)).2 h1) ((ht.it_fr h1 _).trans h2)
    have := h.pm.cancel hk (by omega : j ≤ l.length + 1) e
    by_cases q : j = 0
    · subst q; exact this
    · exact absurd this (hr _ (by omega) (by omega))
  have hl := vdt_lea h.len v
  rw [hv] at hl
  have e1 : row17 m v = Pq.orb m.f d := by
    unfold row17 rowB
    rw [← hl]; rfl
  rw [e1]
  refine orb_of (by omega) hq (fun i j hi hj e => ?_)
  rcases Nat.lt_trichotomy i j with q | q | q
  · have := h.pm.cancel hk (by omega : i ≤ j) e
    exact absurd this (hr _ (by omega) (by omega))
  · exact q
  · have := h.pm.cancel hk (by omega : j ≤ i) e.symm
    exact absurd this (hr _ (by omega) (by omega))

/-- The row, where the darts are one cycle. -/
theorem vd_row (hc : Cy m) : row17 m v = Pq.fl (l.length + 1) (fun j => Pq.it m.f j d) ∧ ∀ i, 0 < i → i < l.length + 1 → Pq.it m.f i d ≠ d := by
  have ht := h.told
  obtain ⟨h1, h2⟩ := vd_first hv
  have hk := (ht.dart h1).1
  have hr : ∀ i, 0 < i → i < l.length + 1 → Pq.it m.f i d ≠ d := fun i i0 i1 e => by
    have := Pq.pig (vdt_nd m v) (m := Pq.fl i (fun j => Pq.it m.f j d)) (fun x hx => by
      obtain ⟨a, b⟩ := mem_vdt.1 hx
      obtain ⟨j, hj⟩ := hc.2 d x h1 a (h2.trans b.symm)
      refine Pq.mem_fl.2 ⟨j % i, Nat.mod_lt _ i0, ?_⟩
      rw [← hj]
      have := Nat.div_add_mod j i
      rw [← this, Nat.mul_comm, Nat.add_comm, Pq.it_add, it_mul e, Nat.add_mul_mod_self_right, Nat.mod_mod])
    rw [hv, Pq.fl_length] at this
    simp at this
    omega
  exact ⟨vd_row2 h hv hr, hr⟩
end

/-- Each vertex was gone round. -/
theorem Fit.cy {m : Mo} (h : Fit m) (hr : ∀ v d l, v < m.vs.length → vdt m v (dtl m) = d :: l → ∀ i, 0 < i → i < l.length + 1 → Pq.it m.f i d ≠ d) : Cy m := by
  refine ⟨h.pm, fun x y hx hy e => ?_⟩
  have hx' := mem_vdt.2 ⟨hx, rfl⟩
  cases hv : vdt m (m.fr x) (dtl m) with
  | nil => rw [hv] at hx'; simp at hx'
  | cons d l =>
    have hlt := (h.d x hx).1.lt
    have ha := vd_all h hv (hr _ d l hlt hv)
    obtain ⟨i, hi, e1⟩ := ha x hx rfl
    obtain ⟨j, hj, e2⟩ := ha y hy e.symm
    obtain ⟨h1, h2⟩ := vd_first hv
    obtain ⟨k, hk⟩ := h.pm.it_back (h.told.dart h1).1 (rfl : Pq.it m.f i d = _)
    rw [e1] at hk
    exact ⟨j + k, by rw [Pq.it_add, hk, e2]⟩

end Go.Proofs.YtboafgimjadboaaGreatDoor

namespace Go.Proofs.YtboafgimjadboaaGreatDoor
set_option linter.unusedVariables false

def allL (R : Nat → List Nat) : Nat → List Nat
  | 0 => []
  | n + 1 => allL R n ++ R n

theorem allL_len (R : Nat → List Nat) : ∀ n, (allL R n).length = sumL R n
  | 0 => rfl
  | n + 1 => by rw [allL, List.length_append, allL_len R n, sumL]

theorem allL_mem (R : Nat → List Nat) : ∀ n d, d ∈ allL R n ↔ ∃ v, v < n ∧ d ∈ R v
  | 0, d => by simp [allL]
  | n + 1, d => by
    rw [allL, List.mem_append, allL_mem R n]
    constructor
    · rintro (⟨v, hv, hd⟩ | hd)
      · exact ⟨v, by omega, hd⟩
      · exact ⟨n, by omega, hd⟩
    · rintro ⟨v, hv, hd⟩
      by_cases e : v = n
      · subst e; exact .inr hd
      · exact .inl ⟨v, by omega, hd⟩

theorem allL_nd {V E : Nat} {R : Nat → List Nat} (h : Tn V E R) : ∀ n, n ≤ V → (allL R n).Nodup
  | 0, _ => by simp [allL]
  | n + 1, hn => by
    rw [allL]
    refine List.nodup_append.2 ⟨allL_nd h n (by omega), h.nd n (by omega), fun a ha b hb e => ?_⟩
    subst e
    obtain ⟨v, hv, hd⟩ := (allL_mem R n a).1 ha
    have := h.one v n a (by omega) (by omega) hd hb
    omega

theorem laid_nd (V : Nat) (R : Nat → List Nat) : ∀ k, (laid V R k).Nodup
  | 0 => by simp [laid]
  | k + 1 => by
    by_cases h : In V R k
    · rw [laid_yes h]
      refine List.nodup_append.2 ⟨laid_nd V R k, by simp, fun a ha b hb e => ?_⟩
      subst e
      have := (mem_laid.1 ha).1
      simp at hb
      omega
    · rw [laid_no h]; exact laid_nd V R k

open Classical in
/-- How many of the first edges are laid. -/
noncomputable def cntE (V : Nat) (R : Nat → List Nat) : Nat → Nat
  | 0 => 0
  | k + 1 => cntE V R k + (if In V R (2 * k) then 1 else 0)

theorem cntE_yes {V : Nat} {R : Nat → List Nat} {k : Nat} (h : In V R (2 * k)) : cntE V R (k + 1) = cntE V R k + 1 := by rw [cntE, if_pos h]
theorem cntE_no {V : Nat} {R : Nat → List Nat} {k : Nat} (h : ¬ In V R (2 * k)) : cntE V R (k + 1) = cntE V R k := by rw [cntE, if_neg h, Nat.add_zero]
theorem cntE_le (V : Nat) (R : Nat → List Nat) : ∀ k, cntE V R k ≤ k
  | 0 => Nat.le_refl _
  | k + 1 => by
    have := cntE_le V R k
    by_cases h : In V R (2 * k)
    · rw [cntE_yes h]; omega
    · rw [cntE_no h]; omega

theorem laid_cnt {V E : Nat} {R : Nat → List Nat} (t : Tw V E R) : ∀ k, k ≤ E → (laid V R (2 * k)).length = 2 * cntE V R k
  | 0, _ => rfl
  | k + 1, hk => by
    have ih := laid_cnt t k (by omega)
    rw [show 2 * (k + 1) = 2 * k + 1 + 1 from by omega]
    by_cases h : In V R (2 * k)
    · rw [laid_yes ((t k (by omega)).1 h), laid_yes h, cntE_yes h]
      simp
      omega
    · rw [laid_no (fun q => h ((t k (by omega)).2 q)), laid_no h, cntE_no h, ih]

theorem sum_twice {V E : Nat} {R : Nat → List Nat} (h : Tn V E R) (t : Tw V E R) : sumL R V = 2 * cntE V R E := by
  rw [← laid_cnt t E (Nat.le_refl _), ← allL_len]
  refine Nat.le_antisymm (pig _ _ (allL_nd h V (Nat.le_refl _)) fun x hx => ?_) (pig _ _ (laid_nd V R _) fun x hx => ?_)
  · obtain ⟨v, hv, hd⟩ := (allL_mem R V x).1 hx
    exact mem_laid.2 ⟨h.low v x hv hd, v, hv, hd⟩
  · obtain ⟨v, hv, hd⟩ := (mem_laid.1 hx).2
    exact (allL_mem R V x).2 ⟨v, hv, hd⟩

theorem half_in {V E : Nat} {R : Nat → List Nat} (t : Tw V E R) {d : Nat} (hl : d < 2 * E) (hd : In V R d) : In V R (2 * (d / 2)) ∧ d / 2 < E := by
  refine ⟨?_, by omega⟩
  by_cases h : d % 2 = 0
  · rw [show 2 * (d / 2) = d from by omega]; exact hd
  · exact (t (d / 2) (by omega)).2 (by rw [show 2 * (d / 2) + 1 = d from by omega]; exact hd)

theorem sumL_le {V E : Nat} {R : Nat → List Nat} (h : Tn V E R) (n : Nat) (hn : n ≤ V) : sumL R n ≤ 2 * E := by
  rw [← allL_len]
  have := pig (allL R n) (List.range (2 * E)) (allL_nd h n hn) (fun x hx => by
    obtain ⟨v, hv, hd⟩ := (allL_mem R n x).1 hx
    exact List.mem_range.2 (h.low v x (by omega) hd))
  simpa using this

end Go.Proofs.YtboafgimjadboaaGreatDoor

namespace Go.Proofs.YtboafgimjadboaaGreatDoor
set_option linter.unusedVariables false

theorem all_dts {m : Mo} (h : Told m) (hc : Cy m) : sumL (Rm m) m.vs.length = (dtl m).length := by
  rw [← allL_len]
  refine Nat.le_antisymm (Pq.pig (allL_nd (rm_tn h hc (V := m.vs.length) (Nat.le_refl _)) _ (Nat.le_refl _)) fun x hx => ?_) (Pq.pig (dts_nd m _) fun x hx => ?_)
  · obtain ⟨v, hv, hd⟩ := (allL_mem _ _ x).1 hx
    exact mem_dtl.2 ((rm_mem h hc).1 hd).1
  · have := mem_dtl.1 hx
    exact (allL_mem _ _ x).2 ⟨m.fr x, (h.dart this).2.1.lt, (rm_mem h hc).2 ⟨this, rfl⟩⟩

/-- A row: a first dart, so many steps. -/
theorem row_steps {m : Mo} (h : Told m) (hc : Cy m) (v : Nat) : row17 m v = [] ∨ ∃ d p, lea m v m.k = some d ∧ Pq.Per m.f d p ∧ row17 m v = Pq.fl p (fun i => Pq.it m.f i d) := by
  unfold row17 rowB
  cases e : lea m v m.k with
  | none => exact .inl rfl
  | some d =>
    have hp := (hc.1.per_is (lea_is e).1).1
    exact .inr ⟨d, _, rfl, hp, rfl⟩

/-- What a dart of a row tells. -/
theorem row_at {m : Mo} (h : Told m) (hc : Cy m) {v i d : Nat} (hd : (row17 m v)[i]? = some d) :
    Lv m.es (d / 2) ∧ m.fr d = v ∧ (row17 m v)[(i + 1) % (row17 m v).length]? = some (m.nd d) ∧ ∃ x, (row17 m v)[0]? = some x ∧ x ≤ d := by
  have hm := (row_mem h hc).1 (List.mem_of_getElem? hd)
  rcases row_steps h hc v with e | ⟨x, p, hx, hp, e⟩
  · rw [e] at hd; simp at hd
  · obtain ⟨a, b, c⟩ := lea_is hx
    have hpos := hp.pos
    have hi : i < p ∧ Pq.it m.f i x = d := by rw [e] at hd; exact Pq.fl_get' hd
    refine ⟨hm.1, hm.2, ?_, x, ?_, ?_⟩
    · rw [e, Pq.fl_length, Pq.fl_get (Nat.mod_lt _ (by omega)), ← hp.mod]
      show some (m.f (Pq.it m.f i x)) = _
      rw [hi.2, Mo.f_live hm.1]
    · rw [e, Pq.fl_get (by omega)]; rfl
    · rcases Nat.lt_or_ge d x with q | q
      · exact absurd hm (lea_least hx d q)
      · exact q

/-- Other ages of places that are free. -/
def reage (a : Int) (ps : List (Int × Int)) : List (Int × Int) := ps.map (fun p => if p.2 = 0 then (a, p.2) else p)
theorem reage_len (a : Int) (ps : List (Int × Int)) : (reage a ps).length = ps.length := by simp [reage]
theorem reage_get {a : Int} {ps : List (Int × Int)} {i : Nat} {p : Int × Int} (h : ps[i]? = some p) : (reage a ps)[i]? = some (if p.2 = 0 then (a, p.2) else p) := by simp [reage, h]
theorem reage_lv {a : Int} {ps : List (Int × Int)} {i : Nat} : Lv (reage a ps) i ↔ Lv ps i := by
  unfold Lv
  cases h : ps[i]? with
  | none => rw [List.getElem?_eq_none (by rw [reage_len]; exact List.getElem?_eq_none_iff.1 h)]
  | some p =>
    rw [reage_get h]
    show (if p.2 = 0 then (a, p.2) else p).2 = 1 ↔ p.2 = 1
    split
    · exact Iff.rfl
    · exact Iff.rfl
theorem reage_fair {n : Nat} {a : Int} {ps : List (Int × Int)} (h : Ar.Fair n ps) (h0 : 0 < a) (h1 : a < 4294967295) : Ar.Fair n (reage a ps) := by
  have hg : ∀ (i : Nat) p, (reage a ps)[i]? = some p → ∃ q, ps[i]? = some q ∧ p = (if q.2 = 0 then (a, q.2) else q) := fun i p hp => by
    unfold reage at hp
    rw [List.getElem?_map, Option.map_eq_some_iff] at hp
    obtain ⟨q, e1, e2⟩ := hp
    exact ⟨q, e1, e2.symm⟩
  refine ⟨by rw [reage_len]; exact h.le, fun i p hp => ?_, fun i p hp hi => ?_⟩
  · obtain ⟨q, e1, rfl⟩ := hg i p hp
    have := h.ok i q e1
    split
    · next c =>
      unfold Ar.okP at this ⊢
      dsimp only
      omega
    · exact this
  · obtain ⟨q, e1, rfl⟩ := hg i p hp
    rw [reage_len] at hi
    have := h.last i q e1 hi
    split
    · show a ≠ 0; omega
    · exact this

def Mo.age (m : Mo) (a : Int) : Mo := ⟨m.n, reage a m.vs, m.es, m.l⟩
theorem age_rows (m : Mo) (a : Int) : rws (m.age a) = rws m := by
  unfold rws
  show rwB (m.age a) (reage a m.vs).length m.k = _
  rw [reage_len]
  rfl
theorem age_may {m : Mo} {a : Int} (h : May m) (h0 : 0 < a) (h1 : a < 4294967295) : May (m.age a) := by
  obtain ⟨⟨k, e1, k1, k2, f1⟩, h2, ht, hc, hx⟩ := h
  refine ⟨⟨k, e1, k1, k2, reage_fair f1 h0 h1⟩, h2, ⟨ht.1, fun e x hx => ⟨(ht.2 e x hx).1, fun hl s hs => ?_⟩⟩, hc, ?_⟩
  · obtain ⟨a1, a2, a3⟩ := (ht.2 e x hx).2 hl s hs
    exact ⟨reage_lv.2 a1, a2, a3⟩
  · have e1 : Rm (m.age a) = Rm m := by
      funext v
      unfold Rm
      show (if v < (reage a m.vs).length then row17 m v else []) = _
      rw [reage_len]
    have e2 : mV (m.age a) = mV m := by show max (reage a m.vs).length 1 = _; rw [reage_len]; rfl
    rw [e1, e2]
    exact hx

end Go.Proofs.YtboafgimjadboaaGreatDoor
