/- A map as a plain list: plain mathematics. A model's bytes: plain mathematics. What stands round the vertices, row by row: plain mathematics. -/
import Derived.Test.YtboafgimjadboaaGreatDoorBpure
import Derived.Test.YtboafgimjadboaaGreatDoorWiBtake
namespace Go.Proofs.YtboafgimjadboaaGreatDoor
set_option linter.unusedVariables false

/-- An edge: its darts' vertices, the darts behind them, its weight. -/
structure Eg where
  f0 : Nat
  f1 : Nat
  n0 : Nat
  n1 : Nat
  w : Int

/-- A model. -/
structure Mo where
  n : Int
  vs : List (Int × Int)
  es : List (Int × Int)
  l : List Eg

def Eg.fr (x : Eg) (s : Nat) : Nat := if s = 0 then x.f0 else x.f1
def Eg.nx (x : Eg) (s : Nat) : Nat := if s = 0 then x.n0 else x.n1
def ez : Eg := ⟨0, 0, 0, 0, 0⟩

/-- Such a place is Live. -/
def Lv (ps : List (Int × Int)) (i : Nat) : Prop := ((ps[i]?).getD (0, 0)).2 = 1
instance (ps : List (Int × Int)) (i : Nat) : Decidable (Lv ps i) := by unfold Lv; infer_instance

theorem Lv.lt {ps : List (Int × Int)} {i : Nat} (h : Lv ps i) : i < ps.length := by
  unfold Lv at h
  rcases Nat.lt_or_ge i ps.length with q | q
  · exact q
  · rw [List.getElem?_eq_none q] at h; simp at h

def Mo.eg (m : Mo) (e : Nat) : Eg := (m.l[e]?).getD ez
def Mo.fr (m : Mo) (d : Nat) : Nat := (m.eg (d / 2)).fr (d % 2)
def Mo.nd (m : Mo) (d : Nat) : Nat := (m.eg (d / 2)).nx (d % 2)
/-- The dart behind, or the number itself. -/
def Mo.f (m : Mo) (d : Nat) : Nat := if Lv m.es (d / 2) then m.nd d else d
def Mo.k (m : Mo) : Nat := 2 * m.l.length

/-- What is told of an edge may be. -/
def EOk (m : Mo) (e : Nat) (x : Eg) : Prop := (¬ Lv m.es e → x = ez) ∧ (Lv m.es e → ∀ s, s < 2 → Lv m.vs (x.fr s) ∧ Lv m.es (x.nx s / 2) ∧ m.fr (x.nx s) = x.fr s)
def Told (m : Mo) : Prop := m.l.length = m.es.length ∧ ∀ e x, m.l[e]? = some x → EOk m e x

theorem Mo.f_live {m : Mo} {d : Nat} (h : Lv m.es (d / 2)) : m.f d = m.nd d := if_pos h
theorem Mo.f_dead {m : Mo} {d : Nat} (h : ¬ Lv m.es (d / 2)) : m.f d = d := if_neg h
theorem Mo.eg_at {m : Mo} {e : Nat} {x : Eg} (h : m.l[e]? = some x) : m.eg e = x := by unfold Mo.eg; rw [h]; rfl

section
variable {m : Mo} (h : Told m)
include h

theorem Told.dart {d : Nat} (hd : Lv m.es (d / 2)) : d < m.k ∧ Lv m.vs (m.fr d) ∧ Lv m.es (m.nd d / 2) ∧ m.fr (m.nd d) = m.fr d := by
  have h1 := hd.lt
  have h2 := h.1
  obtain ⟨x, hx⟩ : ∃ x, m.l[d / 2]? = some x := ⟨_, List.getElem?_eq_getElem (by omega)⟩
  obtain ⟨a, b, c⟩ := (h.2 _ x hx).2 hd (d % 2) (by omega)
  have e1 : m.fr d = x.fr (d % 2) := by unfold Mo.fr; rw [Mo.eg_at hx]
  have e2 : m.nd d = x.nx (d % 2) := by unfold Mo.nd; rw [Mo.eg_at hx]
  refine ⟨by unfold Mo.k; omega, ?_, ?_, ?_⟩
  · rw [e1]; exact a
  · rw [e2]; exact b
  · rw [e2, e1]; exact c

theorem Told.live {d : Nat} : Lv m.es (m.f d / 2) ↔ Lv m.es (d / 2) := by
  unfold Mo.f
  split
  · next q => exact ⟨fun _ => q, fun _ => (h.dart q).2.2.1⟩
  · exact Iff.rfl

theorem Told.it_live {d : Nat} : ∀ j, Lv m.es (Pq.it m.f j d / 2) ↔ Lv m.es (d / 2)
  | 0 => Iff.rfl
  | j + 1 => (h.live).trans (Told.it_live j)

theorem Told.it_fr {d : Nat} (hd : Lv m.es (d / 2)) : ∀ j, m.fr (Pq.it m.f j d) = m.fr d
  | 0 => rfl
  | j + 1 => by
    show m.fr (m.f (Pq.it m.f j d)) = _
    have q := (h.it_live (d := d) j).2 hd
    rw [Mo.f_live q, (h.dart q).2.2.2]
    exact Told.it_fr hd j

theorem Told.it_lt {d : Nat} (hd : Lv m.es (d / 2)) (j : Nat) : Pq.it m.f j d < m.k := (h.dart ((h.it_live (d := d) j).2 hd)).1
end

/-- The darts of each vertex are one cycle. -/
def Cy (m : Mo) : Prop := Pq.Pm m.k m.f ∧ ∀ d d', Lv m.es (d / 2) → Lv m.es (d' / 2) → m.fr d = m.fr d' → ∃ j, Pq.it m.f j d = d'

/-- The least dart of a vertex below a bound. -/
def lea (m : Mo) (v b : Nat) : Option Nat := (List.range b).find? (fun d => decide (Lv m.es (d / 2) ∧ m.fr d = v))
noncomputable def rowB (m : Mo) (v b : Nat) : List Nat := match lea m v b with
  | none => []
  | some d => Pq.orb m.f d
noncomputable def row17 (m : Mo) (v : Nat) : List Nat := rowB m v m.k

theorem lea_zero (m : Mo) (v : Nat) : lea m v 0 = none := rfl
theorem lea_yes {m : Mo} {v b : Nat} (h0 : lea m v b = none) (h1 : Lv m.es (b / 2)) (h2 : m.fr b = v) : lea m v (b + 1) = some b := by
  unfold lea at h0 ⊢
  rw [List.range_succ, List.find?_append, h0]
  simp [h1, h2]
theorem lea_no {m : Mo} {v b : Nat} (h1 : ¬ (Lv m.es (b / 2) ∧ m.fr b = v)) : lea m v (b + 1) = lea m v b := by
  unfold lea
  rw [List.range_succ, List.find?_append]
  simp [h1]
theorem lea_old {m : Mo} {v b d : Nat} (h : lea m v b = some d) : lea m v (b + 1) = some d := by
  unfold lea at h ⊢
  rw [List.range_succ, List.find?_append, h]; rfl
theorem lea_is {m : Mo} {v b d : Nat} (h : lea m v b = some d) : d < b ∧ Lv m.es (d / 2) ∧ m.fr d = v := by
  have h1 := List.find?_some h
  have h2 := List.mem_range.1 (List.mem_of_find?_eq_some h)
  simp at h1
  exact ⟨h2, h1⟩
theorem lea_none {m : Mo} {v b d : Nat} (h : lea m v b = none) (hd : d < b) : ¬ (Lv m.es (d / 2) ∧ m.fr d = v) := by
  have := List.find?_eq_none.1 h d (List.mem_range.2 hd)
  simpa using this
/-- Gone over so far: which were seen, each its own cycle, one cycle a vertex. -/
structure Ci (m : Mo) (d : Nat) (S : Nat → Prop) : Prop where
  mem : ∀ x, S x ↔ ∃ y j, y < d ∧ Lv m.es (y / 2) ∧ Pq.it m.f j y = x
  per : ∀ y, y < d → Lv m.es (y / 2) → ∃ p, 0 < p ∧ Pq.it m.f p y = y
  one : ∀ y y', y < d → y' < d → Lv m.es (y / 2) → Lv m.es (y' / 2) → m.fr y = m.fr y' → ∃ j, Pq.it m.f j y = y'

theorem it_mul {f : Nat → Nat} {x p : Nat} (h : Pq.it f p x = x) : ∀ q, Pq.it f (q * p) x = x
  | 0 => by rw [Nat.zero_mul]; rfl
  | q + 1 => by rw [Nat.succ_mul, Pq.it_add, h]; exact it_mul h q

/-- Back on a ring. -/
theorem it_ret {f : Nat → Nat} {x p : Nat} (hp : 0 < p) (h : Pq.it f p x = x) (j : Nat) : ∃ i, Pq.it f i (Pq.it f j x) = x :=
  ⟨j * p - j, by
    rw [← Pq.it_add]
    have : j ≤ j * p := Nat.le_mul_of_pos_right j hp
    rw [show j * p - j + j = j * p by omega]
    exact it_mul h j⟩

theorem Ci.zero (m : Mo) : Ci m 0 (fun _ => False) := ⟨fun x => ⟨False.elim, fun ⟨y, _, h, _⟩ => by omega⟩, fun y h => by omega, fun y _ h => by omega⟩

section
variable {m : Mo}
theorem Ci.dead {d : Nat} {S : Nat → Prop} (c : Ci m d S) (hl : ¬ Lv m.es (d / 2)) : Ci m (d + 1) S := by
  have hd : ∀ y, y < d + 1 → Lv m.es (y / 2) → y < d := fun y hy ly => by
    rcases Nat.lt_or_ge y d with q | q
    · exact q
    · obtain rfl : y = d := by omega
      exact absurd ly hl
  refine ⟨fun x => ⟨fun hx => ?_, fun ⟨y, j, a, b, e⟩ => (c.mem x).2 ⟨y, j, hd y a b, b, e⟩⟩, fun y hy ly => c.per y (hd y hy ly) ly, fun y y' hy hy' ly ly' => c.one y y' (hd y hy ly) (hd y' hy' ly') ly ly'⟩
  obtain ⟨y, j, a, b, e⟩ := (c.mem x).1 hx
  exact ⟨y, j, by omega, b, e⟩
theorem Ci.add {d p : Nat} {S S' : Nat → Prop} (c : Ci m d S) (hl : Lv m.es (d / 2)) (hn : lea m (m.fr d) d = none) (p0 : 0 < p) (pe : Pq.it m.f p d = d) (hS : ∀ x, S' x ↔ S x ∨ ∃ j, j < p ∧ Pq.it m.f j d = x) : Ci m (d + 1) S' := by
  refine ⟨fun x => ?_, fun y hy ly => ?_, fun y y' hy hy' ly ly' hf => ?_⟩
  · rw [hS x]
    constructor
    · rintro (hx | ⟨j, _, hj⟩)
      · obtain ⟨y, j, a, b, e⟩ := (c.mem x).1 hx
        exact ⟨y, j, by omega, b, e⟩
      · exact ⟨d, j, by omega, hl, hj⟩
    · rintro ⟨y, j, a, b, e⟩
      rcases Nat.lt_or_ge y d with q | q
      · exact .inl ((c.mem x).2 ⟨y, j, q, b, e⟩)
      · obtain rfl : y = d := by omega
        refine .inr ⟨j % p, Nat.mod_lt _ p0, ?_⟩
        rw [← e]
        have := Nat.div_add_mod j p
        rw [← this, Nat.mul_comm, Nat.add_comm, Pq.it_add, it_mul pe, Nat.add_mul_mod_self_right]
        rw [Nat.mod_mod]
  · rcases Nat.lt_or_ge y d with q | q
    · exact c.per y q ly
    · obtain rfl : y = d := by omega
      exact ⟨p, p0, pe⟩
  · rcases Nat.lt_or_ge y d with q | q
    · rcases Nat.lt_or_ge y' d with q' | q'
      · exact c.one y y' q q' ly ly' hf
      · obtain rfl : y' = d := by omega
        exact absurd ⟨ly, hf⟩ (lea_none hn q)
    · obtain rfl : y = d := by omega
      rcases Nat.lt_or_ge y' y with q' | q'
      · exact absurd ⟨ly', hf.symm⟩ (lea_none hn q')
      · obtain rfl : y' = y := by omega
        exact ⟨0, rfl⟩
/-- One vertex has two cycles. -/
theorem Ci.two {d y : Nat} {S : Nat → Prop} (c : Ci m d S) (hl : Lv m.es (d / 2)) (hs : ¬ S d) (hn : lea m (m.fr d) d = some y) : ¬ Cy m := fun hc => by
  obtain ⟨a, b, e⟩ := lea_is hn
  obtain ⟨j, hj⟩ := hc.2 y d b hl e
  exact hs ((c.mem d).2 ⟨y, j, a, b, hj⟩)
end

section
variable {m : Mo} (h : Told m)
include h

theorem Ci.seen {d : Nat} {S : Nat → Prop} (c : Ci m d S) (hs : S d) : Ci m (d + 1) S := by
  obtain ⟨y0, j0, a0, b0, e0⟩ := (c.mem d).1 hs
  have hl : Lv m.es (d / 2) := by rw [← e0]; exact (h.it_live j0).2 b0
  have hfr : m.fr d = m.fr y0 := by rw [← e0]; exact h.it_fr b0 j0
  obtain ⟨p, p0, pe⟩ := c.per y0 a0 b0
  obtain ⟨i0, hi0⟩ := it_ret p0 pe j0
  rw [e0] at hi0
  refine ⟨fun x => ⟨fun hx => ?_, ?_⟩, fun y hy ly => ?_, fun y y' hy hy' ly ly' hf => ?_⟩
  · obtain ⟨y, j, a, b, e⟩ := (c.mem x).1 hx
    exact ⟨y, j, by omega, b, e⟩
  · rintro ⟨y, j, a, b, e⟩
    rcases Nat.lt_or_ge y d with q | q
    · exact (c.mem x).2 ⟨y, j, q, b, e⟩
    · obtain rfl : y = d := by omega
      exact (c.mem x).2 ⟨y0, j + j0, a0, b0, by rw [Pq.it_add, e0, e]⟩
  · rcases Nat.lt_or_ge y d with q | q
    · exact c.per y q ly
    · obtain rfl : y = d := by omega
      refine ⟨p, p0, ?_⟩
      rw [← e0, Pq.it_comm, pe]
  · rcases Nat.lt_or_ge y d with q | q
    · rcases Nat.lt_or_ge y' d with q' | q'
      · exact c.one y y' q q' ly ly' hf
      · obtain rfl : y' = d := by omega
        obtain ⟨i, hi⟩ := c.one y y0 q a0 ly b0 (hf.trans hfr)
        exact ⟨j0 + i, by rw [Pq.it_add, hi, e0]⟩
    · obtain rfl : y = d := by omega
      rcases Nat.lt_or_ge y' y with q' | q'
      · obtain ⟨i, hi⟩ := c.one y0 y' a0 q' b0 ly' (hfr.symm.trans hf)
        exact ⟨i + i0, by rw [Pq.it_add, hi0, hi]⟩
      · obtain rfl : y' = y := by omega
        exact ⟨0, rfl⟩
/-- Two darts have one behind them. -/
theorem Ci.bad {d p : Nat} {S : Nat → Prop} (c : Ci m d S) (hl : Lv m.es (d / 2)) (hs : ¬ S d) (hne : Pq.it m.f p d ≠ d) (hap : ∀ i j, i < p → j < p → Pq.it m.f i d = Pq.it m.f j d → i = j) (hin : S (Pq.it m.f p d) ∨ ∃ j, j < p ∧ Pq.it m.f j d = Pq.it m.f p d) : ¬ Cy m := fun hc => by
  have hd := (h.dart hl).1
  rcases hin with q | ⟨j, hj, q⟩
  · obtain ⟨i, hi⟩ := hc.1.it_back hd (rfl : Pq.it m.f p d = _)
    obtain ⟨y, k, a, b, e⟩ := (c.mem _).1 q
    exact hs ((c.mem d).2 ⟨y, i + k, a, b, by rw [Pq.it_add, e, hi]⟩)
  · have := hc.1.cancel hd (by omega : j ≤ p) q
    have := hap (p - j) 0
    by_cases e : p - j < p
    · have := this e (by omega) (by assumption)
      omega
    · obtain rfl : j = 0 := by omega
      exact hne q.symm

theorem Ci.done {S : Nat → Prop} (c : Ci m m.k S) : Cy m := by
  have hk : ∀ d, Lv m.es (d / 2) → d < m.k := fun d hd => (h.dart hd).1
  refine ⟨⟨fun i hi => ?_, fun a b ha hb e => ?_⟩, fun d d' hd hd' e => c.one d d' (hk d hd) (hk d' hd') hd hd' e⟩
  · by_cases q : Lv m.es (i / 2)
    · exact hk _ (h.live.2 q)
    · rw [Mo.f_dead q]; exact hi
  · by_cases qa : Lv m.es (a / 2)
    · have qb : Lv m.es (b / 2) := h.live.1 (e ▸ h.live.2 qa)
      obtain ⟨p, p0, pe⟩ := c.per a ha qa
      obtain ⟨r, r0, re⟩ := c.per b hb qb
      have ea := it_mul pe r
      have eb := it_mul re p
      rw [Nat.mul_comm] at eb
      obtain ⟨t, ht⟩ : ∃ t, r * p = t + 1 := ⟨r * p - 1, by have := Nat.mul_pos r0 p0; omega⟩
      rw [ht] at ea eb
      have x1 : Pq.it m.f t (m.f a) = a := by rw [Pq.it_f]; exact ea
      have x2 : Pq.it m.f t (m.f b) = b := by rw [Pq.it_f]; exact eb
      rw [← x1, ← x2, e]
    · have qb : ¬ Lv m.es (b / 2) := fun q => qa (h.live.1 (e ▸ h.live.2 q))
      rwa [Mo.f_dead qa, Mo.f_dead qb] at e
end
end Go.Proofs.YtboafgimjadboaaGreatDoor

namespace Go.Proofs.YtboafgimjadboaaGreatDoor
set_option linter.unusedVariables false
open Wi (be be_length num_inj_be)

/-- What numbers may be. -/
def En (x : Eg) : Prop := x.f0 < 4294967296 ∧ x.f1 < 4294967296 ∧ x.n0 < 4294967296 ∧ x.n1 < 4294967296 ∧ -2147483648 ≤ x.w ∧ x.w ≤ 2147483647
def Pn (p : Int × Int) : Prop := 0 ≤ p.1 ∧ p.1 < 4294967296 ∧ 0 ≤ p.2 ∧ p.2 < 256

def encP (p : Int × Int) : List UInt8 := be 4 p.1.toNat ++ be 1 p.2.toNat
def encG (x : Eg) : List UInt8 := be 4 x.f0 ++ (be 4 x.n0 ++ (be 4 x.f1 ++ (be 4 x.n1 ++ be 4 (x.w % 4294967296).toNat)))
def encE (q : (Int × Int) × Eg) : List UInt8 := encP q.1 ++ (if q.1.2 = 1 then encG q.2 else [])
def enc (m : Mo) : List UInt8 := be 4 m.n.toNat ++ (be 4 m.vs.length ++ (m.vs.flatMap encP ++ (be 4 m.es.length ++ (m.es.zip m.l).flatMap encE)))

theorem encP_len (p : Int × Int) : (encP p).length = 5 := by simp [encP, be_length]
theorem encG_len (x : Eg) : (encG x).length = 20 := by simp [encG, be_length]

theorem be_cut {n a b : Nat} {s t : List UInt8} (ha : a < 256 ^ n) (hb : b < 256 ^ n) (h : be n a ++ s = be n b ++ t) : a = b ∧ s = t := by
  obtain ⟨h1, h2⟩ := List.append_inj h (by rw [be_length, be_length])
  have := (num_inj_be n a b).1 h1
  rw [Nat.mod_eq_of_lt ha, Nat.mod_eq_of_lt hb] at this
  exact ⟨this, h2⟩

theorem encP_cut {p q : Int × Int} {s t : List UInt8} (hp : Pn p) (hq : Pn q) (h : encP p ++ s = encP q ++ t) : p = q ∧ s = t := by
  unfold encP at h
  rw [List.append_assoc, List.append_assoc] at h
  obtain ⟨a1, a2, a3, a4⟩ := hp
  obtain ⟨b1, b2, b3, b4⟩ := hq
  obtain ⟨e1, h⟩ := be_cut (by omega) (by omega) h
  obtain ⟨e2, h⟩ := be_cut (by omega) (by omega) h
  exact ⟨Prod.ext (by omega) (by omega), h⟩

theorem encG_cut {x y : Eg} {s t : List UInt8} (hx : En x) (hy : En y) (h : encG x ++ s = encG y ++ t) : x = y ∧ s = t := by
  unfold encG at h
  simp only [List.append_assoc] at h
  obtain ⟨a1, a2, a3, a4, a5, a6⟩ := hx
  obtain ⟨b1, b2, b3, b4, b5, b6⟩ := hy
  obtain ⟨e1, h⟩ := be_cut (by omega) (by omega) h
  obtain ⟨e2, h⟩ := be_cut (by omega) (by omega) h
  obtain ⟨e3, h⟩ := be_cut (by omega) (by omega) h
  obtain ⟨e4, h⟩ := be_cut (by omega) (by omega) h
  obtain ⟨e5, h⟩ := be_cut (by omega) (by omega) h
  refine ⟨?_, h⟩
  have e6 : x.w = y.w := by omega
  cases x; cases y
  simp only [Eg.mk.injEq]
  exact ⟨e1, e3, e2, e4, e6⟩

/-- A place and what is told there. -/
def Qn (q : (Int × Int) × Eg) : Prop := Pn q.1 ∧ En q.2 ∧ (q.1.2 ≠ 1 → q.2 = ez)

theorem encE_cut {p q : (Int × Int) × Eg} {s t : List UInt8} (hp : Qn p) (hq : Qn q) (h : encE p ++ s = encE q ++ t) : p = q ∧ s = t := by
  unfold encE at h
  rw [List.append_assoc, List.append_assoc] at h
  obtain ⟨e, h⟩ := encP_cut hp.1 hq.1 h
  rw [e] at h
  by_cases c : q.1.2 = 1
  · rw [if_pos c, if_pos c] at h
    obtain ⟨e2, h⟩ := encG_cut hp.2.1 hq.2.1 h
    exact ⟨Prod.ext e e2, h⟩
  · rw [if_neg c, if_neg c] at h
    exact ⟨Prod.ext e ((hp.2.2 (by rw [e]; exact c)).trans (hq.2.2 c).symm), by simpa using h⟩

/-- What begins alike is alike. -/
theorem pre17 {α : Type} {g : α → List UInt8} {P : α → Prop} (hc : ∀ a b s t, P a → P b → g a ++ s = g b ++ t → a = b ∧ s = t) : ∀ (ps qs : List α) (s t : List UInt8), (∀ a, a ∈ ps → P a) → (∀ b, b ∈ qs → P b) → ps.length ≤ qs.length → ps.flatMap g ++ s = qs.flatMap g ++ t → qs.take ps.length = ps ∧ s = (qs.drop ps.length).flatMap g ++ t
  | [], qs, s, t, _, _, _, h => ⟨by simp, by simpa using h⟩
  | p :: ps, [], s, t, _, _, hl, _ => by simp at hl
  | p :: ps, q :: qs, s, t, hp, hq, hl, h => by
    simp only [List.flatMap_cons, List.append_assoc] at h
    obtain ⟨e, h⟩ := hc p q _ _ (hp p List.mem_cons_self) (hq q List.mem_cons_self) h
    obtain ⟨h1, h2⟩ := pre17 hc ps qs s t (fun a ha => hp a (List.mem_cons_of_mem _ ha)) (fun a ha => hq a (List.mem_cons_of_mem _ ha)) (by simpa using hl) h
    subst e
    exact ⟨by simp [h1], by simpa using h2⟩

/-- What a model's numbers may be. -/
structure Rn (m : Mo) : Prop where
  n0 : 0 ≤ m.n
  n1 : m.n < 4294967296
  vl : m.vs.length < 4294967296
  el : m.es.length < 4294967296
  len : m.l.length = m.es.length
  v : ∀ p, p ∈ m.vs → Pn p
  e : ∀ p, p ∈ m.es → Pn p
  l : ∀ x, x ∈ m.l → En x
  z : ∀ e x, m.l[e]? = some x → ¬ Lv m.es e → x = ez

theorem Rn.q {m : Mo} (h : Rn m) : ∀ q, q ∈ m.es.zip m.l → Qn q := fun q hq => by
  obtain ⟨j, hj⟩ := List.getElem?_of_mem hq
  rw [List.getElem?_zip_eq_some] at hj
  refine ⟨h.e _ (List.mem_of_getElem? hj.1), h.l _ (List.mem_of_getElem? hj.2), fun c => h.z j _ hj.2 (fun e => c ?_)⟩
  unfold Lv at e
  rw [hj.1] at e
  exact e

/-- Read so far: vertices. -/
theorem cut_v {m : Mo} (h : Rn m) {N V : Nat} {ps : List (Int × Int)} {left : List UInt8} (hN : N < 4294967296) (hV : V < 4294967296) (hp : ∀ p, p ∈ ps → Pn p) (hl : ps.length ≤ V) (e : enc m = be 4 N ++ (be 4 V ++ (ps.flatMap encP ++ left))) :
    m.n = (N : Int) ∧ m.vs.length = V ∧ m.vs.take ps.length = ps ∧ left = (m.vs.drop ps.length).flatMap encP ++ (be 4 m.es.length ++ (m.es.zip m.l).flatMap encE) := by
  have a0 := h.n0
  have a1 := h.n1
  obtain ⟨e1, e⟩ := be_cut (by omega) (by omega) e
  obtain ⟨e2, e⟩ := be_cut (by have := h.vl; omega) (by omega) e
  obtain ⟨e3, e4⟩ := pre17 (fun a b s t => encP_cut) ps m.vs _ _ hp h.v (by omega) e.symm
  exact ⟨by omega, e2, e3, e4⟩

/-- Read so far: edges. -/
theorem cut_e {m : Mo} (h : Rn m) {N E : Nat} {ps : List (Int × Int)} {qs : List ((Int × Int) × Eg)} {left : List UInt8} (hN : N < 4294967296) (hV : ps.length < 4294967296) (hE : E < 4294967296) (hp : ∀ p, p ∈ ps → Pn p) (hq : ∀ q, q ∈ qs → Qn q) (hl : qs.length ≤ E) (e : enc m = be 4 N ++ (be 4 ps.length ++ (ps.flatMap encP ++ (be 4 E ++ (qs.flatMap encE ++ left))))) :
    m.n = (N : Int) ∧ m.vs = ps ∧ m.es.length = E ∧ (m.es.zip m.l).take qs.length = qs ∧ left = ((m.es.zip m.l).drop qs.length).flatMap encE := by
  obtain ⟨e1, e2, e3, e4⟩ := cut_v h hN hV hp (Nat.le_refl _) e
  rw [← e2, List.take_length] at e3
  rw [← e2, List.drop_length] at e4
  simp only [List.flatMap_nil, List.nil_append] at e4
  obtain ⟨e5, e⟩ := be_cut (by omega) (by have := h.el; omega) e4
  obtain ⟨e6, e7⟩ := pre17 (fun a b s t => encE_cut) qs (m.es.zip m.l) _ [] hq h.q (by rw [List.length_zip, h.len]; omega) (by simpa using e)
  exact ⟨e1, e3, e5.symm, e6, by simpa using e7⟩

/-- No model's bytes begin another's. -/
theorem enc_pre {m m' : Mo} (h : Rn m) (h' : Rn m') {t : List UInt8} (e : enc m' = enc m ++ t) : m = m' ∧ t = [] := by
  unfold enc at e
  simp only [List.append_assoc] at e
  obtain ⟨e1, e2, e3, e4, e5⟩ := cut_e h' (N := m.n.toNat) (ps := m.vs) (E := m.es.length) (qs := m.es.zip m.l) (left := t) (by have := h.n0; have := h.n1; omega) h.vl h.el h.v h.q (by rw [List.length_zip]; omega) e
  have hz : (m.es.zip m.l).length = (m'.es.zip m'.l).length := by rw [List.length_zip, List.length_zip, h.len, h'.len, e3]
  rw [hz, List.take_length] at e4
  rw [hz, List.drop_length] at e5
  have u1 := List.unzip_zip (l₁ := m.es) (l₂ := m.l) (by rw [h.len])
  have u2 := List.unzip_zip (l₁ := m'.es) (l₂ := m'.l) (by rw [h'.len])
  rw [e4, u1] at u2
  have hn := h.n0
  refine ⟨?_, by simpa using e5⟩
  cases m; cases m'
  simp only [Mo.mk.injEq]
  simp only [Prod.mk.injEq] at u2
  dsimp only at e1 e2 hn
  exact ⟨by omega, e2.symm, u2.1, u2.2⟩

end Go.Proofs.YtboafgimjadboaaGreatDoor

namespace Go.Proofs.YtboafgimjadboaaGreatDoor
set_option linter.unusedVariables false

theorem per_ex {f : Nat → Nat} {x : Nat} : ∀ p, 0 < p → Pq.it f p x = x → ∃ q, Pq.Per f x q := by
  intro p
  induction p using Nat.strongRecOn with
  | _ p ih =>
    intro h0 h
    by_cases c : ∃ i, 0 < i ∧ i < p ∧ Pq.it f i x = x
    · obtain ⟨i, i0, i1, i2⟩ := c
      exact ih i i1 i0 i2
    · exact ⟨p, ⟨h0, h, fun i i0 i1 e => c ⟨i, i0, i1, e⟩⟩⟩

theorem orb_pos {f : Nat → Nat} {x p : Nat} (h0 : 0 < p) (h : Pq.it f p x = x) : 0 < (Pq.orb f x).length := by
  obtain ⟨q, hq⟩ := per_ex p h0 h
  unfold Pq.orb
  rw [Pq.fl_length, hq.eq]
  exact hq.pos

theorem orb_of {f : Nat → Nat} {x q : Nat} (h0 : 0 < q) (h : Pq.it f q x = x) (ha : ∀ i j, i < q → j < q → Pq.it f i x = Pq.it f j x → i = j) : Pq.orb f x = Pq.fl q (fun i => Pq.it f i x) := by
  have hp : Pq.Per f x q := ⟨h0, h, fun i i0 i1 e => by have := ha i 0 i1 h0 e; omega⟩
  unfold Pq.orb
  rw [hp.eq]

noncomputable def rwB (m : Mo) (V d : Nat) : List (List Nat) := (List.range V).map (fun v => rowB m v d)

theorem rwB_len (m : Mo) (V d : Nat) : (rwB m V d).length = V := by simp [rwB]
theorem rwB_get {m : Mo} {V d v : Nat} (h : v < V) : (rwB m V d)[v]? = some (rowB m v d) := by simp [rwB, h]

theorem rwB_zero (m : Mo) (V : Nat) : rwB m V 0 = List.replicate V [] := by
  apply List.ext_getElem?
  intro i
  by_cases h : i < V
  · rw [rwB_get h]
    simp [h, rowB, lea_zero]
  · rw [List.getElem?_eq_none (by rw [rwB_len]; omega), List.getElem?_eq_none (by simp; omega)]

theorem rwB_same {m : Mo} {V d : Nat} (h : ∀ v, lea m v (d + 1) = lea m v d) : rwB m V (d + 1) = rwB m V d := by
  unfold rwB
  refine List.map_congr_left (fun v _ => ?_)
  unfold rowB
  rw [h v]

theorem rwB_set {m : Mo} {V d : Nat} (hl : Lv m.es (d / 2)) (hn : lea m (m.fr d) d = none) : rwB m V (d + 1) = (rwB m V d).set (m.fr d) (Pq.orb m.f d) := by
  apply List.ext_getElem?
  intro i
  rw [List.getElem?_set]
  by_cases h : i < V
  · rw [rwB_get h, rwB_get h, rwB_len]
    by_cases e : m.fr d = i
    · subst e
      rw [if_pos rfl, if_pos h]
      unfold rowB
      rw [lea_yes hn hl rfl]
    · rw [if_neg e]
      unfold rowB
      rw [lea_no (fun q => e q.2)]
  · rw [List.getElem?_eq_none (by rw [rwB_len]; omega), List.getElem?_eq_none (by rw [rwB_len]; omega), rwB_len]
    split
    · next e => rw [if_neg (by omega)]
    · rfl

theorem Ci.lea_seen {m : Mo} (h : Told m) {d : Nat} {S : Nat → Prop} (c : Ci m d S) (hs : S d) (v : Nat) : lea m v (d + 1) = lea m v d := by
  cases e : lea m v d with
  | some y => exact lea_old e
  | none =>
    rw [← e]
    refine lea_no (fun ⟨hl, hf⟩ => ?_)
    obtain ⟨y, j, a, b, q⟩ := (c.mem d).1 hs
    refine lea_none e a ⟨b, ?_⟩
    rw [← hf, ← q, h.it_fr b]

theorem Ci.row_pos {m : Mo} {d y v : Nat} {S : Nat → Prop} (c : Ci m d S) (h : lea m v d = some y) : 0 < (rowB m v d).length := by
  obtain ⟨a, b, _⟩ := lea_is h
  obtain ⟨p, p0, pe⟩ := c.per y a b
  unfold rowB
  rw [h]
  exact orb_pos p0 pe

/-- All rows. -/
noncomputable def rws (m : Mo) : List (List Nat) := rwB m m.vs.length m.k

end Go.Proofs.YtboafgimjadboaaGreatDoor
