/- Lists of places: which are held, live, worn; the lowest free one. Plain facts, of no program. -/
import Derived.Test.YtjkiagjgnfaknaaDoorList
namespace Go.Proofs.YtjkiagjgnfaknaaDoor
open Go.RowKit

/-- A place that may be: its age, and what it is. -/
def okP (p : Int × Int) : Prop := 0 ≤ p.1 ∧ p.1 < 4294967296 ∧ ((p.2 = 0 ∧ p.1 ≠ 4294967295) ∨ (p.2 = 1 ∧ p.1 ≠ 0) ∨ (p.2 = 2 ∧ p.1 = 4294967295))

instance (p : Int × Int) : Decidable (okP p) := by unfold okP; infer_instance

/-- These may be the first places of n. -/
structure Fair (n : Nat) (ps : List (Int × Int)) : Prop where
  le : ps.length ≤ n
  ok : ∀ (i : Nat) p, ps[i]? = some p → okP p
  last : ∀ (i : Nat) p, ps[i]? = some p → i + 1 = ps.length → p.1 ≠ 0

/-- Is the place held? -/
def heldB (ps : List (Int × Int)) (i : Nat) : Bool := match ps[i]? with | some p => decide (p.2 ≠ 0) | none => false

def held (n : Nat) (ps : List (Int × Int)) : List Bool := ps.map (fun p => decide (p.2 ≠ 0)) ++ List.replicate (n - ps.length) false

theorem held_length {n : Nat} {ps : List (Int × Int)} (h : ps.length ≤ n) : (held n ps).length = n := by simp [held]; omega

theorem held_get {n : Nat} {ps : List (Int × Int)} (h : ps.length ≤ n) (i : Nat) : (held n ps)[i]? = if i < n then some (heldB ps i) else none := by
  unfold held heldB
  rcases Nat.lt_or_ge i ps.length with hi | hi
  · rw [List.getElem?_append_left (by simpa using hi), List.getElem?_map, List.getElem?_eq_getElem hi]
    simp; omega
  · rw [List.getElem?_append_right (by simpa using hi), List.getElem?_replicate, List.getElem?_eq_none hi]
    simp
    by_cases hn : i < n
    · rw [if_pos (by omega), if_pos hn]
    · rw [if_neg (by omega), if_neg hn]

theorem held_is {n : Nat} {ps : List (Int × Int)} (h : ps.length ≤ n) (i : Nat) (b : Bool) : (held n ps)[i]? = some b ↔ i < n ∧ heldB ps i = b := by
  rw [held_get h]
  by_cases hi : i < n <;> simp [hi]

theorem held_L {n : Nat} {ps : List (Int × Int)} (h : ps.length ≤ n) : held n ps = L n (heldB ps) := by
  apply List.ext_getElem?
  intro j
  rw [held_get h, L_get]

theorem held_nil (n : Nat) : held n [] = List.replicate n false := by simp [held]

theorem held_set {n : Nat} {ps : List (Int × Int)} (i : Nat) (p : Int × Int) (hi : i < ps.length) : held n (ps.set i p) = (held n ps).set i (decide (p.2 ≠ 0)) := by
  unfold held
  rw [List.map_set, List.length_set, List.set_append_left _ _ (by simpa using hi)]

theorem held_push {n : Nat} {ps : List (Int × Int)} (p : Int × Int) (hn : ps.length < n) : held n (ps ++ [p]) = (held n ps).set ps.length (decide (p.2 ≠ 0)) := by
  unfold held
  obtain ⟨d, hd⟩ : ∃ d, n = ps.length + (d + 1) := ⟨n - ps.length - 1, by omega⟩
  subst hd
  rw [List.set_append_right _ _ (by simp)]
  simp [List.replicate_succ]
  rw [show ps.length + (d + 1) - (ps.length + 1) = d by omega]

/-- How many are live; how many worn. -/
def liveN (ps : List (Int × Int)) : Nat := ps.countP (fun p => decide (p.2 = 1))
def wornN (ps : List (Int × Int)) : Nat := ps.countP (fun p => decide (p.2 = 2))
def heldN (ps : List (Int × Int)) : Nat := ps.countP (fun p => decide (p.2 ≠ 0))

theorem held_count (n : Nat) (ps : List (Int × Int)) : (held n ps).count true = heldN ps := by
  unfold held heldN
  rw [List.count_append, List.count_replicate, List.count, List.countP_map]
  simp
  congr 1

theorem heldN_split : ∀ (ps : List (Int × Int)), (∀ p ∈ ps, okP p) → heldN ps = liveN ps + wornN ps
  | [], _ => rfl
  | p :: ps, h => by
    have ih := heldN_split ps (fun q hq => h q (List.mem_cons_of_mem _ hq))
    have hp := h p List.mem_cons_self
    unfold heldN liveN wornN at *
    simp only [List.countP_cons, ih]
    obtain ⟨_, _, (⟨e, _⟩ | ⟨e, _⟩ | ⟨e, _⟩)⟩ := hp <;> simp [e] <;> omega

theorem Fair.mem {n : Nat} {ps : List (Int × Int)} (h : Fair n ps) : ∀ p ∈ ps, okP p := fun p hp => by
  obtain ⟨i, hi⟩ := List.mem_iff_getElem?.1 hp
  exact h.ok i p hi

theorem Fair.split {n : Nat} {ps : List (Int × Int)} (h : Fair n ps) : heldN ps = liveN ps + wornN ps := heldN_split ps h.mem

theorem heldN_le (ps : List (Int × Int)) : heldN ps ≤ ps.length := List.countP_le_length
theorem wornN_le (ps : List (Int × Int)) : wornN ps ≤ ps.length := List.countP_le_length
theorem liveN_le (ps : List (Int × Int)) : liveN ps ≤ ps.length := List.countP_le_length

theorem wornN_push (ps : List (Int × Int)) (p : Int × Int) : wornN (ps ++ [p]) = wornN ps + (if p.2 = 2 then 1 else 0) := by
  unfold wornN
  rw [List.countP_append]
  simp [List.countP_cons]

theorem wornN_set (ps : List (Int × Int)) (i : Nat) (p q : Int × Int) (h : ps[i]? = some q) : wornN (ps.set i p) + (if q.2 = 2 then 1 else 0) = wornN ps + (if p.2 = 2 then 1 else 0) := by
  obtain ⟨hi, e⟩ := List.getElem?_eq_some_iff.1 h
  unfold wornN
  rw [List.countP_set hi, e]
  have : q.2 = 2 → 0 < ps.countP (fun p => decide (p.2 = 2)) := fun hq => List.countP_pos_iff.2 ⟨q, List.mem_of_getElem? h, by simpa using hq⟩
  by_cases hq : q.2 = 2 <;> by_cases hp : p.2 = 2 <;> simp [hq, hp] <;> have := this <;> simp_all <;> omega

/-- What a place is: one that was never given is as at first. -/
def atP (ps : List (Int × Int)) (i : Nat) : Int × Int := (ps[i]?).getD (0, 0)

theorem atP_some {ps : List (Int × Int)} {i : Nat} {p : Int × Int} (h : ps[i]? = some p) : atP ps i = p := by simp [atP, h]
theorem atP_none {ps : List (Int × Int)} {i : Nat} (h : ps.length ≤ i) : atP ps i = (0, 0) := by simp [atP, List.getElem?_eq_none h]

/-- The list with a place told. -/
def putP (ps : List (Int × Int)) (i : Nat) (p : Int × Int) : List (Int × Int) := if i = ps.length then ps ++ [p] else ps.set i p

theorem putP_get {ps : List (Int × Int)} {i : Nat} {p : Int × Int} (hi : i ≤ ps.length) (j : Nat) : (putP ps i p)[j]? = if j = i then some p else ps[j]? := by
  unfold putP
  split
  · rename_i h
    subst h
    by_cases hj : j = ps.length
    · subst hj; simp
    · rcases Nat.lt_or_ge j ps.length with h1 | h1
      · rw [if_neg hj, List.getElem?_append_left h1]
      · rw [if_neg hj, List.getElem?_append_right h1, List.getElem?_eq_none h1]
        simp; omega
  · rename_i h
    rw [List.getElem?_set]
    by_cases hj : i = j
    · subst hj; simp; omega
    · rw [if_neg hj, if_neg (fun e => hj e.symm)]

theorem putP_length {ps : List (Int × Int)} {i : Nat} {p : Int × Int} : (putP ps i p).length = if i = ps.length then ps.length + 1 else ps.length := by
  unfold putP; split <;> simp

theorem putP_at {ps : List (Int × Int)} {i : Nat} {p : Int × Int} (hi : i ≤ ps.length) (j : Nat) : atP (putP ps i p) j = if j = i then p else atP ps j := by
  unfold atP
  rw [putP_get hi]
  split <;> simp

theorem held_put {n : Nat} {ps : List (Int × Int)} (i : Nat) (p : Int × Int) (hi : i ≤ ps.length) (hn : i < n) : held n (putP ps i p) = (held n ps).set i (decide (p.2 ≠ 0)) := by
  unfold putP
  split
  · rename_i h; subst h; exact held_push p hn
  · rename_i h; exact held_set i p (by omega)

theorem Fair.put {n : Nat} {ps : List (Int × Int)} (h : Fair n ps) {i : Nat} {p : Int × Int} (hi : i ≤ ps.length) (hn : i < n) (hp : okP p) (h0 : p.1 ≠ 0) : Fair n (putP ps i p) := by
  refine ⟨?_, fun j q hq => ?_, fun j q hq hl => ?_⟩
  · have := h.le; rw [putP_length]; split <;> omega
  · rw [putP_get hi] at hq
    split at hq
    · cases hq; exact hp
    · exact h.ok j q hq
  · rw [putP_get hi] at hq
    rw [putP_length] at hl
    split at hq
    · cases hq; exact h0
    · rename_i hne
      split at hl
      · have := (List.getElem?_eq_some_iff.1 hq).1; omega
      · exact h.last j q hq hl

theorem Fair.nil (n : Nat) : Fair n [] := ⟨by simp, by simp, by simp⟩

/-- The live places below f. -/
def lvB (ps : List (Int × Int)) (i : Nat) : Bool := decide ((atP ps i).2 = 1)
def lv (ps : List (Int × Int)) (f : Nat) : List Nat := (List.range f).filter (lvB ps)
def lives (ps : List (Int × Int)) : List Nat := lv ps ps.length

theorem lv_succ (ps : List (Int × Int)) (f : Nat) : lv ps (f + 1) = lv ps f ++ (if (atP ps f).2 = 1 then [f] else []) := by
  unfold lv
  rw [List.range_succ, List.filter_append]
  by_cases h : (atP ps f).2 = 1 <;> simp [lvB, h]

theorem lv_to (ps : List (Int × Int)) (f : Nat) : ∀ d, (∀ y, f ≤ y → y < f + d → ¬ (atP ps y).2 = 1) → lv ps (f + d) = lv ps f
  | 0, _ => rfl
  | d + 1, h => by
    rw [← Nat.add_assoc, lv_succ, lv_to ps f d (fun y h1 h2 => h y h1 (by omega)), if_neg (h (f + d) (by omega) (by omega))]
    simp

theorem lv_skip (ps : List (Int × Int)) (f g : Nat) (hfg : f ≤ g) (h : ∀ y, f ≤ y → y < g → ¬ (atP ps y).2 = 1) : lv ps g = lv ps f := by
  rw [show g = f + (g - f) from by omega]
  exact lv_to ps f _ (fun y h1 h2 => h y h1 (by omega))

theorem lv_le (ps : List (Int × Int)) (f : Nat) : (lv ps f).length ≤ f := by
  have := List.length_filter_le (lvB ps) (List.range f)
  simpa [lv] using this

theorem lv_count (ps : List (Int × Int)) : ∀ f, (lv ps f).length = liveN (ps.take f)
  | 0 => by simp [lv, liveN]
  | f + 1 => by
    rw [lv_succ, List.length_append, lv_count ps f, List.take_add_one]
    unfold liveN
    rw [List.countP_append]
    congr 1
    unfold atP
    cases h : ps[f]? with
    | none => simp
    | some p => by_cases h1 : p.2 = 1 <;> simp [h1]

theorem lives_count (ps : List (Int × Int)) : (lives ps).length = liveN ps := by
  unfold lives; rw [lv_count, List.take_length]

theorem lv_mem (ps : List (Int × Int)) (f x : Nat) : x ∈ lv ps f ↔ x < f ∧ (atP ps x).2 = 1 := by
  simp [lv, lvB]

theorem live_lt {ps : List (Int × Int)} {x : Nat} (h : (atP ps x).2 = 1) : x < ps.length := by
  rcases Nat.lt_or_ge x ps.length with h1 | h1
  · exact h1
  · rw [atP_none h1] at h; simp at h

theorem live_get {ps : List (Int × Int)} {x : Nat} (h : (atP ps x).2 = 1) : ps[x]? = some (atP ps x) := by
  have := live_lt h
  simp [atP, List.getElem?_eq_getElem this]

/-- The lowest free place, or how many there are. -/
def lowP : List (Int × Int) → Nat
  | [] => 0
  | p :: ps => if p.2 = 0 then 0 else lowP ps + 1

theorem lowP_le : ∀ (ps : List (Int × Int)), lowP ps ≤ ps.length
  | [] => Nat.le_refl _
  | p :: ps => by
    have := lowP_le ps
    unfold lowP
    split <;> simp <;> omega

theorem lowP_held : ∀ (ps : List (Int × Int)) (j : Nat), j < lowP ps → heldB ps j = true
  | [], j, h => by simp [lowP] at h
  | p :: ps, j, h => by
    unfold lowP at h
    split at h
    · omega
    · rename_i hp
      cases j with
      | zero => simp [heldB, hp]
      | succ j => simpa [heldB] using lowP_held ps j (by omega)

theorem lowP_free : ∀ (ps : List (Int × Int)), heldB ps (lowP ps) = false
  | [] => by simp [heldB]
  | p :: ps => by
    unfold lowP
    split
    · rename_i hp; simp [heldB, hp]
    · simpa [heldB] using lowP_free ps

theorem lowP_at (ps : List (Int × Int)) : (atP ps (lowP ps)).2 = 0 := by
  have := lowP_free ps
  unfold heldB at this
  unfold atP
  cases h : ps[lowP ps]? with
  | none => rfl
  | some p => rw [h] at this; simpa using this

theorem low_least {n : Nat} {ps : List (Int × Int)} (h : ps.length ≤ n) (hl : lowP ps < n) : Least (fun i => (held n ps)[i]? = some false) 0 (lowP ps) := by
  rw [held_L h]
  exact L_least hl (lowP_free ps) (fun j hj => lowP_held ps j hj)

theorem low_full {n : Nat} {ps : List (Int × Int)} (h : ps.length ≤ n) (hl : n ≤ lowP ps) : ∀ x : Nat, ¬ (held n ps)[x]? = some false := by
  intro x hx
  rw [held_is h] at hx
  rw [lowP_held ps x (by omega)] at hx
  simp at hx

/-- No place is free just where the lowest free one is none. -/
theorem full_iff {n : Nat} {ps : List (Int × Int)} (h : ps.length ≤ n) : heldN ps = n ↔ lowP ps = n := by
  have hc := held_count n ps
  have hl := held_length h
  constructor
  · intro he
    rcases Nat.lt_or_ge (lowP ps) n with h1 | h1
    · have hf : (held n ps)[lowP ps]? = some false := (held_is h _ _).2 ⟨h1, lowP_free ps⟩
      have := count_on _ _ hf
      have h2 := List.count_le_length (a := true) (l := (held n ps).set (lowP ps) true)
      rw [List.length_set, hl] at h2
      omega
    · have := lowP_le ps; omega
  · intro he
    have hall : held n ps = List.replicate n true := by
      apply List.ext_getElem?
      intro j
      rw [held_get h, List.getElem?_replicate]
      by_cases hj : j < n
      · rw [if_pos hj, if_pos hj, lowP_held ps j (by omega)]
      · rw [if_neg hj, if_neg hj]
    rw [← hc, hall, List.count_replicate]
    simp

theorem heldN_len (n : Nat) {ps : List (Int × Int)} (h : ps.length ≤ n) : heldN ps ≤ n := Nat.le_trans (heldN_le ps) h

end Go.Proofs.YtjkiagjgnfaknaaDoor
