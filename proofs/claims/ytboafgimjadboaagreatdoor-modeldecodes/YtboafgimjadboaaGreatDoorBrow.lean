/- The document's way to what stands round each vertex: plain mathematics. The degrees together: plain mathematics. The rows' darts, each behind the one ahead; how many; other ages: plain mathematics. -/
import Derived.Test.YtboafgimjadboaaGreatDoorBdoc
import Derived.Test.YtboafgimjadboaaGreatDoorBput
import Derived.Test.YtboafgimjadboaaGreatDoorGood17
namespace Go.Proofs.YtboafgimjadboaaGreatDoor
set_option linter.unusedVariables false

/-- The darts of live edges, of the first edges. -/
def dts (m : Mo) (n : Nat) : List Nat := (List.range (2 * n)).filter (fun d => decide (Lv m.es (d / 2)))

theorem dts_yes {m : Mo} {n : Nat} (h : Lv m.es n) : dts m (n + 1) = dts m n ++ [2 * n, 2 * n + 1] := by
  unfold dts
  rw [show 2 * (n + 1) = 2 * n + 1 + 1 by omega, List.range_succ, List.range_succ, List.filter_append, List.filter_append]
  simp [show (2 * n) / 2 = n by omega, show (2 * n + 1) / 2 = n by omega, h]
theorem dts_no {m : Mo} {n : Nat} (h : ¬ Lv m.es n) : dts m (n + 1) = dts m n := by
  unfold dts
  rw [show 2 * (n + 1) = 2 * n + 1 + 1 by omega, List.range_succ, List.range_succ, List.filter_append, List.filter_append]
  simp [show (2 * n) / 2 = n by omega, show (2 * n + 1) / 2 = n by omega, h]
theorem dts_le (m : Mo) (n : Nat) : (dts m n).length ≤ 2 * n := by
  have := List.length_filter_le (fun d => decide (Lv m.es (d / 2))) (List.range (2 * n))
  rw [List.length_range] at this
  exact this
theorem dts_nd (m : Mo) (n : Nat) : (dts m n).Nodup := List.nodup_range.filter _
/-- All. -/
def dtl (m : Mo) : List Nat := dts m m.es.length
theorem mem_dtl {m : Mo} {d : Nat} : d ∈ dtl m ↔ Lv m.es (d / 2) := by
  unfold dtl dts
  rw [List.mem_filter, List.mem_range, decide_eq_true_iff]
  exact ⟨fun h => h.2, fun h => ⟨by have := h.lt; omega, h⟩⟩

/-- What is told of a dart may be. -/
def DOk (m : Mo) (d : Nat) : Prop := Lv m.vs (m.fr d) ∧ Lv m.es (m.nd d / 2) ∧ m.fr (m.nd d) = m.fr d
/-- The document's: what fits. -/
structure Fit (m : Mo) : Prop where
  v : FairI m.n m.vs
  e : FairI m.n m.es
  len : m.l.length = m.es.length
  z : ∀ e, e < m.l.length → ¬ Lv m.es e → m.eg e = ez
  d : ∀ d, Lv m.es (d / 2) → DOk m d
  inj : ∀ d d', Lv m.es (d / 2) → Lv m.es (d' / 2) → m.nd d = m.nd d' → d = d'

theorem Fit.told {m : Mo} (h : Fit m) : Told m := by
  refine ⟨h.len, fun e x hx => ⟨fun hn => ?_, fun hl s hs => ?_⟩⟩
  · have := h.z e (List.getElem?_eq_some_iff.1 hx).1 hn
    rwa [Mo.eg_at hx] at this
  · have hd := h.d (2 * e + s) (by rw [show (2 * e + s) / 2 = e by omega]; exact hl)
    have e1 : m.fr (2 * e + s) = x.fr s := by unfold Mo.fr; rw [show (2 * e + s) / 2 = e by omega, show (2 * e + s) % 2 = s by omega, Mo.eg_at hx]
    have e2 : m.nd (2 * e + s) = x.nx s := by unfold Mo.nd; rw [show (2 * e + s) / 2 = e by omega, show (2 * e + s) % 2 = s by omega, Mo.eg_at hx]
    unfold DOk at hd
    rw [e1, e2] at hd
    exact hd

theorem Fit.pm {m : Mo} (h : Fit m) : Pq.Pm m.k m.f := by
  have ht := h.told
  refine ⟨fun i hi => ?_, fun a b ha hb e => ?_⟩
  · by_cases q : Lv m.es (i / 2)
    · exact (ht.dart (ht.live.2 q)).1
    · rw [Mo.f_dead q]; exact hi
  · by_cases qa : Lv m.es (a / 2)
    · have qb : Lv m.es (b / 2) := ht.live.1 (e ▸ ht.live.2 qa)
      rw [Mo.f_live qa, Mo.f_live qb] at e
      exact h.inj a b qa qb e
    · have qb : ¬ Lv m.es (b / 2) := fun q => qa (ht.live.1 (e ▸ ht.live.2 q))
      rwa [Mo.f_dead qa, Mo.f_dead qb] at e

theorem May.fit {m : Mo} (h : May m) : Fit m := by
  obtain ⟨h1, h2, ht, hc, _⟩ := h
  refine ⟨h1, h2, ht.1, fun e he hn => ?_, fun d hd => (ht.dart hd).2, fun d d' hd hd' e => ?_⟩
  · obtain ⟨x, hx⟩ : ∃ x, m.l[e]? = some x := ⟨_, List.getElem?_eq_getElem he⟩
    rw [Mo.eg_at hx]
    exact (ht.2 e x hx).1 hn
  · exact hc.1.inj d d' (ht.dart hd).1 (ht.dart hd').1 (by rw [Mo.f_live hd, Mo.f_live hd']; exact e)

/-- The darts of a vertex. -/
def vdt (m : Mo) (v : Nat) (l : List Nat) : List Nat := l.filter (fun d => decide (m.fr d = v))
theorem vdt_step {m : Mo} {v i d : Nat} {l : List Nat} (h : l[i]? = some d) : vdt m v (l.take (i + 1)) = vdt m v (l.take i) ++ (if m.fr d = v then [d] else []) := by
  unfold vdt
  rw [List.take_add_one, h, List.filter_append]
  by_cases q : m.fr d = v <;> simp [q]
/-- The least one, or -1. -/
def hd1 (l : List Nat) : Int := match l with
  | [] => -1
  | d :: _ => (d : Int)
theorem hd1_pos {l : List Nat} (h : l ≠ []) : 0 ≤ hd1 l := by
  cases l with
  | nil => exact absurd rfl h
  | cons a l => show (0 : Int) ≤ (a : Int); omega
theorem hd1_app {l : List Nat} (h : l ≠ []) (t : List Nat) : hd1 (l ++ t) = hd1 l := by
  cases l with
  | nil => exact absurd rfl h
  | cons a l => rfl

theorem mem_vdt {m : Mo} {v d : Nat} : d ∈ vdt m v (dtl m) ↔ Lv m.es (d / 2) ∧ m.fr d = v := by
  unfold vdt
  rw [List.mem_filter, mem_dtl, decide_eq_true_iff]
theorem vdt_nd (m : Mo) (v : Nat) : (vdt m v (dtl m)).Nodup := (dts_nd m _).filter _

/-- The first of them is the least. -/
theorem vdt_lea {m : Mo} (hl : m.l.length = m.es.length) (v : Nat) : (vdt m v (dtl m)).head? = lea m v m.k := by
  unfold vdt dtl dts lea Mo.k
  rw [List.filter_filter, List.head?_filter, hl]
  congr 1
  funext d
  rw [← Bool.decide_and, decide_eq_decide]
  exact And.comm

theorem vdt_nil {m : Mo} (hl : m.l.length = m.es.length) {v : Nat} (h : vdt m v (dtl m) = []) : row17 m v = [] := by
  have := vdt_lea hl v
  rw [h] at this
  unfold row17 rowB
  rw [← this]; rfl

theorem vd_first {m : Mo} {v d : Nat} {l : List Nat} (hv : vdt m v (dtl m) = d :: l) : Lv m.es (d / 2) ∧ m.fr d = v := mem_vdt.1 (by rw [hv]; simp)

section
variable {m : Mo} (h : Fit m) {v d : Nat} {l : List Nat} (hv : vdt m v (dtl m) = d :: l)
include h hv

/-- Gone round without coming back too early, all of them were met. -/
theorem vd_all (hr : ∀ i, 0 < i → i < l.length + 1 → Pq.it m.f i d ≠ d) : ∀ x, Lv m.es (x / 2) → m.fr x = v → ∃ j, j < l.length + 1 ∧ Pq.it m.f j d = x := by
  have ht := h.told
  obtain ⟨h1, h2⟩ := vd_first hv
  have hk := (ht.dart h1).1
  have hnd : (Pq.fl (l.length + 1) (fun j => Pq.it m.f j d)).Nodup := by
    refine Pq.fl_nodup (fun i j hi hj e => ?_)
    rcases Nat.lt_trichotomy i j with q | q | q
    · have := h.pm.cancel hk (by omega : i ≤ j) e
      exact absurd this (hr _ (by omega) (by omega))
    · exact q
    · have := h.pm.cancel hk (by omega : j ≤ i) e.symm
      exact absurd this (hr _ (by omega) (by omega))
  intro x hx hf
  have hp := (Pq.pig2 _ (vdt m v (dtl m)) hnd (fun y hy => by
    obtain ⟨j, _, rfl⟩ := Pq.mem_fl.1 hy
    exact mem_vdt.2 ⟨(ht.it_live j).2 h1, (ht.it_fr h1 j).trans h2⟩)).2 (by rw [hv]; simp)
  exact Pq.mem_fl.1 (hp.mem_iff.1 (mem_vdt.2 ⟨hx, hf⟩))

/-- The row, gone round without coming back too early. -/
theorem vd_row2 (hr : ∀ i, 0 < i → i < l.length + 1 → Pq.it m.f i d ≠ d) : row17 m v = Pq.fl (l.length + 1) (fun j => Pq.it m.f j d) := by
  have ht := h.told
  obtain ⟨h1, h2⟩ := vd_first hv
  have hk := (ht.dart h1).1
  have ha := vd_all h hv hr
  have hq : Pq.it m.f (l.length + 1) d = d := by
    obtain ⟨j, hj, e⟩ := ha _ ((ht.it_live (l.length + 1)).2 h1) ((ht.it_fr h1 _).trans h2)
    have := h.pm.cancel hk (by omega : j ≤ l.length + 1) e
    by_cases q : j = 0
    · subst q; exact this
    · exact absurd this (hr _ (by omega) (by omega))
  have hl := vdt_lea h.len v
  rw [hv] at hl
  have e1 : row17 m v = Pq.orb m.f d := by
    unfold row17 rowB
    rw [← hl]; rfl
  rw [e1]
  refine orb_of (by omega) hq (fun i j hi hj e => ?_)
  rcases Nat.lt_trichotomy i j with q | q | q
  · have := h.pm.cancel hk (by omega : i ≤ j) e
    exact absurd this (hr _ (by omega) (by omega))
  · exact q
  · have := h.pm.cancel hk (by omega : j ≤ i) e.symm
    exact absurd this (hr _ (by omega) (by omega))

/-- The row, where the darts are one cycle. -/
theorem vd_row (hc : Cy m) : row17 m v = Pq.fl (l.length + 1) (fun j => Pq.it m.f j d) ∧ ∀ i, 0 < i → i < l.length + 1 → Pq.it m.f i d ≠ d := by
  have ht := h.told
  obtain ⟨h1, h2⟩ := vd_first hv
  have hk := (ht.dart h1).1
  have hr : ∀ i, 0 < i → i < l.length + 1 → Pq.it m.f i d ≠ d := fun i i0 i1 e => by
    have := Pq.pig (vdt_nd m v) (m := Pq.fl i (fun j => Pq.it m.f j d)) (fun x hx => by
      obtain ⟨a, b⟩ := mem_vdt.1 hx
      obtain ⟨j, hj⟩ := hc.2 d x h1 a (h2.trans b.symm)
      refine Pq.mem_fl.2 ⟨j % i, Nat.mod_lt _ i0, ?_⟩
      rw [← hj]
      have := Nat.div_add_mod j i
      rw [← this, Nat.mul_comm, Nat.add_comm, Pq.it_add, it_mul e, Nat.add_mul_mod_self_right, Nat.mod_mod])
    rw [hv, Pq.fl_length] at this
    simp at this
    omega
  exact ⟨vd_row2 h hv hr, hr⟩
end

/-- Each vertex was gone round. -/
theorem Fit.cy {m : Mo} (h : Fit m) (hr : ∀ v d l, v < m.vs.length → vdt m v (dtl m) = d :: l → ∀ i, 0 < i → i < l.length + 1 → Pq.it m.f i d ≠ d) : Cy m := by
  refine ⟨h.pm, fun x y hx hy e => ?_⟩
  have hx' := mem_vdt.2 ⟨hx, rfl⟩
  cases hv : vdt m (m.fr x) (dtl m) with
  | nil => rw [hv] at hx'; simp at hx'
  | cons d l =>
    have hlt := (h.d x hx).1.lt
    have ha := vd_all h hv (hr _ d l hlt hv)
    obtain ⟨i, hi, e1⟩ := ha x hx rfl
    obtain ⟨j, hj, e2⟩ := ha y hy e.symm
    obtain ⟨h1, h2⟩ := vd_first hv
    obtain ⟨k, hk⟩ := h.pm.it_back (h.told.dart h1).1 (rfl : Pq.it m.f i d = _)
    rw [e1] at hk
    exact ⟨j + k, by rw [Pq.it_add, hk, e2]⟩

end Go.Proofs.YtboafgimjadboaaGreatDoor

namespace Go.Proofs.YtboafgimjadboaaGreatDoor
set_option linter.unusedVariables false

def allL (R : Nat → List Nat) : Nat → List Nat
  | 0 => []
  | n + 1 => allL R n ++ R n

open Classical in
/-- How many of the first edges are laid. -/
noncomputable def cntE (V : Nat) (R : Nat → List Nat) : Nat → Nat
  | 0 => 0
  | k + 1 => cntE V R k + (if In V R (2 * k) then 1 else 0)

end Go.Proofs.YtboafgimjadboaaGreatDoor

namespace Go.Proofs.YtboafgimjadboaaGreatDoor
set_option linter.unusedVariables false

/-- Other ages of places that are free. -/
def reage (a : Int) (ps : List (Int × Int)) : List (Int × Int) := ps.map (fun p => if p.2 = 0 then (a, p.2) else p)
def Mo.age (m : Mo) (a : Int) : Mo := ⟨m.n, reage a m.vs, m.es, m.l⟩
end Go.Proofs.YtboafgimjadboaaGreatDoor
