/- Rows of one's own, rows of rows, marks. -/
import Derived.Test.YtieglcjfphmglaaDoorDarts10
import Derived.Test.YtieglcjfphmglaaDoorFNext11
namespace Go.Proofs.YtieglcjfphmglaaDoor
open Go.RowKit
set_option linter.unusedVariables false

theorem infoBool : (Tryd.prog.info? 4).map (fun i => (i.zero, i.size, i.bytes)) = some (some (.bool false), 1, 1) := by kernel_rfl

theorem own_low {w : World} {base b n size : Nat} {e : TypeId} {v : Value} {xs : List Value} (h2 : w.ownsRow base e size v n xs) (hb : b ≤ base) : w.ownsRow b e size v n xs := by
  refine ⟨h2.1, ?_⟩
  rcases h2.2 with h | ⟨g, cap, cur, h, hg, r⟩
  · exact .inl h
  · exact .inr ⟨g, cap, cur, h, Nat.le_trans hb hg, r⟩

/-- Rows of two kinds lie apart. -/
theorem own_apart {w : World} {b1 b2 n1 n2 s1 s2 : Nat} {e1 e2 : TypeId} {v1 v2 : Value} {x1 x2 : List Value} (h1 : w.ownsRow b1 e1 s1 v1 n1 x1) (h2 : w.ownsRow b2 e2 s2 v2 n2 x2) (hne : e1 ≠ e2) : v1.ownBlock = none ∨ v1.ownBlock ≠ v2.ownBlock := by
  rcases h1.2 with ⟨rfl, _⟩ | ⟨g, cap, cur, rfl, _, hg, _⟩
  · exact .inl rfl
  · rcases h2.2 with ⟨rfl, _⟩ | ⟨g', cap', cur', rfl, _, hg', _⟩
    · exact .inr (by simp [Value.ownBlock])
    · refine .inr (fun e => ?_)
      simp [Value.ownBlock] at e
      subst e
      rw [hg] at hg'
      simp at hg'
      exact hne hg'.2

/-- A slice's length. -/
def sln : Value → Nat
  | .slice _ n _ => n
  | _ => 0
theorem own_sln {w : World} {base n size : Nat} {e : TypeId} {v : Value} {xs : List Value} (h : w.ownsRow base e size v n xs) : sln v = n := by
  obtain ⟨ad, cap, rfl, _⟩ := own_any h
  rfl

/-- A row of numbers of one's own. -/
def Rw (base : Nat) (w : World) (v : Value) (l : List Nat) : Prop := w.ownsRow base 3 1 v l.length (ncs l)

theorem Rw.nl {base : Nat} {w : World} {v : Value} {l : List Nat} (h : Rw base w v l) : NL w v l := nl_of h
theorem Rw.more {base : Nat} {w w' : World} {v : Value} {l : List Nat} (h : Rw base w v l) (hb : Below w.heap.size w w') : Rw base w' v l := ownsRow_below h hb
theorem Rw.low {base b : Nat} {w : World} {v : Value} {l : List Nat} (h : Rw base w v l) (hb : b ≤ base) : Rw b w v l := own_low h hb

/-- A slice of slices of numbers, to be read. -/
def RL (w : World) (v : Value) (ms : List (List Nat)) : Prop := NR w v ms.length (fun i => (ms[i]?).getD [])

theorem RL.below {w w' : World} {v : Value} {ms : List (List Nat)} (h : RL w v ms) (hb : Below w.heap.size w w') : RL w' v ms := NR.below h hb

/-- Rows of rows of one's own. -/
def Rg (base : Nat) (w : World) (v : Value) (ms : List (List Nat)) : Prop := ∃ us : List Value, us.length = ms.length ∧ w.ownsRow base 29 1 v ms.length us ∧ ∀ (i : Nat) (l : List Nat) (u : Value), ms[i]? = some l → us[i]? = some u → Rw base w u l

theorem Rg.rl {base : Nat} {w : World} {v : Value} {ms : List (List Nat)} (h : Rg base w v ms) : RL w v ms := by
  obtain ⟨us, hu, ho, hr⟩ := h
  rcases ho.2 with ⟨rfl, h0⟩ | ⟨g, cap, cur, rfl, _, hg, h1, h2, _⟩
  · have : ms = [] := List.eq_nil_of_length_eq_zero h0
    subst this
    exact ⟨none, 0, rfl, Nat.le_refl _, ⟨by unfold maxLen; omega, fun a e => by cases e⟩, fun u hu => by simp at hu⟩
  · refine ⟨some ⟨g, 0, none⟩, cap, rfl, h1, ⟨h2, fun a e => ⟨g, 0, by cases e; rfl, _, _, hg⟩⟩, fun j hj => ?_⟩
    obtain ⟨l, hl⟩ : ∃ l, ms[j]? = some l := ⟨_, List.getElem?_eq_getElem hj⟩
    obtain ⟨u, huj⟩ : ∃ u, us[j]? = some u := ⟨_, List.getElem?_eq_getElem (by omega)⟩
    refine ⟨g, 0, u, rfl, ?_, ?_⟩
    · rw [Nat.zero_add, ho.cellAt j (by omega)]
      exact huj
    · show NL w u ((ms[j]?).getD [])
      rw [hl]
      exact (hr j l u hl huj).nl

theorem Rg.more {base : Nat} {w w' : World} {v : Value} {ms : List (List Nat)} (h : Rg base w v ms) (hb : Below w.heap.size w w') : Rg base w' v ms := by
  obtain ⟨us, hu, ho, hr⟩ := h
  exact ⟨us, hu, ownsRow_below ho hb, fun i l u hi hj => (hr i l u hi hj).more hb⟩

theorem Rg.nil (base : Nat) (w : World) : Rg base w (.slice none 0 0) [] := ⟨[], rfl, World.ownsRow_nil _ _ _ _, fun i l u hi => by simp at hi⟩

/-- What is no row of rows stays where one grows. -/
theorem Rw.grown {w w' : World} {base b n : Nat} {v u : Value} {xs : List Value} {l : List Nat} (hu : Rw b w u l) (ho : w.ownsRow base 29 1 v n xs) (hg : w.grownBy w' v.ownBlock) : Rw b w' u l :=
  World.ownsRow.kept hu hg (own_apart hu ho (by decide))

theorem Rg.push {base : Nat} {w w' : World} {v v' u : Value} {ms : List (List Nat)} {us : List Value} {l : List Nat} (hus : us.length = ms.length) (ho : w.ownsRow base 29 1 v ms.length us) (hr : ∀ (i : Nat) (l : List Nat) (u : Value), ms[i]? = some l → us[i]? = some u → Rw base w u l) (hu : Rw base w u l) (ho' : w'.ownsRow base 29 1 v' (ms.length + 1) (us ++ [u])) (hg : w.grownBy w' v.ownBlock) : Rg base w' v' (ms ++ [l]) := by
  refine ⟨us ++ [u], by simp [hus], by simpa using ho', fun i l' u' hi hj => ?_⟩
  by_cases h : i < ms.length
  · rw [List.getElem?_append_left h] at hi
    rw [List.getElem?_append_left (by omega)] at hj
    exact (hr i l' u' hi hj).grown ho hg
  · rw [List.getElem?_append_right (by omega)] at hi
    rw [List.getElem?_append_right (by omega)] at hj
    have hi0 := (List.getElem?_eq_some_iff.1 hi).1
    simp only [List.length_cons, List.length_nil] at hi0
    rw [show i - ms.length = 0 from by omega] at hi
    rw [show i - us.length = 0 from by omega] at hj
    simp at hi hj
    subst hi hj
    exact hu.grown ho hg

/-- Marks as cells. -/
def bl (n : Nat) (p : Nat → Bool) : List Value := (List.range n).map (fun i => .bool (p i))
@[simp] theorem bl_length (n : Nat) (p : Nat → Bool) : (bl n p).length = n := by simp [bl]
theorem bl_get {n : Nat} {p : Nat → Bool} {j : Nat} (h : j < n) : (bl n p)[j]? = some (.bool (p j)) := by simp [bl, h]
def on (p : Nat → Bool) (x : Nat) : Nat → Bool := fun y => if y = x then true else p y
theorem bl_set (n : Nat) (p : Nat → Bool) (x : Nat) : (bl n p).set x (.bool true) = bl n (on p x) := by
  apply List.ext_getElem?
  intro j
  by_cases hj : j < n
  · rw [bl_get hj, List.getElem?_set]
    by_cases e : x = j
    · subst e; simp [on, hj]
    · rw [if_neg e, bl_get hj]; simp [on, show ¬ j = x from fun h => e h.symm]
  · rw [List.getElem?_eq_none (by simp; omega), List.getElem?_eq_none (by simp; omega)]
theorem bl_made (n : Nat) : (madeCells (Value.cells (.bool false)) (n * 1)).toList = bl n (fun _ => false) := by
  rw [Nat.mul_one]
  show (madeCells #[Value.bool false] n).toList = _
  rw [toList_madeCells_one]
  apply List.ext_getElem?
  intro j
  by_cases hj : j < n
  · rw [bl_get hj]; simp [hj]
  · rw [List.getElem?_eq_none (by simp; omega), List.getElem?_eq_none (by simp; omega)]
theorem bl_congr {n : Nat} {p q : Nat → Bool} (h : ∀ i, i < n → p i = q i) : bl n p = bl n q := by
  unfold bl
  exact List.map_congr_left (fun i hi => by rw [h i (List.mem_range.1 hi)])

/-- Marks made since w0 began. -/
structure Mk (base : Nat) (w0 w : World) (v : Value) (n : Nat) (p : Nat → Bool) : Prop where
  row : w.ownsRow base 4 1 v n (bl n p)
  bel : Below base w0 w
  low : base ≤ w0.heap.size

theorem Rw.keptB {w w' : World} {base b n : Nat} {v u : Value} {xs : List Value} {l : List Nat} (hu : Rw b w u l) (ho : w.ownsRow base 4 1 v n xs) (hg : w.grownBy w' v.ownBlock) : Rw b w' u l :=
  World.ownsRow.kept hu hg (own_apart hu ho (by decide))

theorem Rg.keptB {w w' : World} {base b n : Nat} {v u : Value} {xs : List Value} {ms : List (List Nat)} (h : Rg b w u ms) (ho : w.ownsRow base 4 1 v n xs) (hg : w.grownBy w' v.ownBlock) : Rg b w' u ms := by
  obtain ⟨us, hu, h1, hr⟩ := h
  exact ⟨us, hu, h1.kept hg (own_apart h1 ho (by decide)), fun i l u hi hj => (hr i l u hi hj).keptB ho hg⟩

/-- The marks of some numbers. -/
def marks (l : List Nat) : Nat → Bool := fun y => decide (y ∈ l)
theorem marks_on (l : List Nat) (x : Nat) : on (marks l) x = marks (l ++ [x]) := by
  funext y
  unfold on marks
  by_cases e : y = x
  · subst e; simp
  · rw [if_neg e]; simp [e]

/-- The marks stay where rows of rows grow. -/
theorem Mk.kept {base base' n k : Nat} {w0 w w' : World} {v u : Value} {p : Nat → Bool} {xs : List Value} (h : Mk base w0 w v n p) (ho : w.ownsRow base' 29 1 u k xs) (hb : base ≤ base') (hg : w.grownBy w' u.ownBlock) : Mk base w0 w' v n p :=
  ⟨h.row.kept hg (own_apart h.row ho (by decide)), below_row h.bel h.low ho hb hg, h.low⟩

theorem Mk.more {base n : Nat} {w0 w w' : World} {v : Value} {p : Nat → Bool} (h : Mk base w0 w v n p) (hb : Below w.heap.size w w') : Mk base w0 w' v n p :=
  ⟨ownsRow_below h.row hb, h.bel.trans (hb.mono (Nat.le_trans h.low h.bel.size)), h.low⟩

/-- A row lies in no block below its base. -/
theorem Rw.apart {b s : Nat} {w : World} {u : Value} {l : List Nat} (h : Rw b w u l) (hs : s < b) : u.ownBlock = none ∨ u.ownBlock ≠ some s := by
  rcases h.2 with ⟨rfl, _⟩ | ⟨g, cap, cur, rfl, hg, _⟩
  · exact .inl rfl
  · refine .inr (fun e => ?_)
    simp [Value.ownBlock] at e
    omega

theorem Rg.keptN {w w' : World} {b s : Nat} {u : Value} {ms : List (List Nat)} (h : Rg b w u ms) (hs : s < b) (hg : w.grownBy w' (some s)) : Rg b w' u ms := by
  obtain ⟨us, hu, h1, hr⟩ := h
  refine ⟨us, hu, h1.kept hg ?_, fun i l u hi hj => World.ownsRow.kept (hr i l u hi hj) hg ((hr i l u hi hj).apart hs)⟩
  rcases h1.2 with ⟨rfl, _⟩ | ⟨g, cap, cur, rfl, hg, _⟩
  · exact .inl rfl
  · refine .inr (fun e => ?_)
    simp [Value.ownBlock] at e
    omega

theorem Rg.low {base b : Nat} {w : World} {v : Value} {ms : List (List Nat)} (h : Rg base w v ms) (hb : b ≤ base) : Rg b w v ms := by
  obtain ⟨us, hu, h1, hr⟩ := h
  exact ⟨us, hu, own_low h1 hb, fun i l u hi hj => (hr i l u hi hj).low hb⟩

theorem ntake {l : List Nat} {j z : Nat} (h : l[j]? = some z) : l.take (j + 1) = l.take j ++ [z] := by
  rw [List.take_add_one, h]; rfl

end Go.Proofs.YtieglcjfphmglaaDoor
