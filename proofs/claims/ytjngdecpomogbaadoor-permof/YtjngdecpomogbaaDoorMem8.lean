/- Slices of numbers, and of such slices, in memory. -/
import Derived.WalkKit
import Derived.WalkSpells
import Derived.WalkLawsBesides
import Derived.OwnWalk
import Derived.Laws.OwnMore
import Derived.Handy
import Derived.BigQuiet
import Derived.Deep.RegionHeld3
import Derived.Test.YtjngdecpomogbaaDoorChecked
import Derived.Test.YtjngdecpomogbaaDoorPure8
namespace Go.Proofs.YtjngdecpomogbaaDoor
open Go.RowKit
set_option linter.unusedVariables false

theorem hid {p : Prop} (h : p) : Hid p := h

theorem info_parts {P : Program} {e : TypeId} {z : Value} {s b : Nat} (h : (P.info? e).map (fun i => (i.zero, i.size, i.bytes)) = some (some z, s, b)) : ∃ i, P.info? e = some i ∧ i.zero = some z ∧ i.size = s ∧ i.bytes = b := by
  cases hi : P.info? e with
  | none => rw [hi] at h; cases h
  | some i =>
    rw [hi] at h
    simp at h
    exact ⟨i, rfl, h.1, h.2.1, h.2.2⟩

theorem infoInt : (Tryd.prog.info? 3).map (fun i => (i.zero, i.size, i.bytes)) = some (some (.int .i64 0), 1, 8) := by kernel_rfl
theorem infoBool : (Tryd.prog.info? 4).map (fun i => (i.zero, i.size, i.bytes)) = some (some (.bool false), 1, 1) := by kernel_rfl
theorem infoInts : (Tryd.prog.info? 22).map (fun i => (i.zero, i.size, i.bytes)) = some (some (.slice none 0 0), 1, 24) := by kernel_rfl

theorem belowN {B : Nat} {a w : World} (h : Below B a w) (m : Nat) : Below B a (w.drewN m) := ⟨h.os, h.tape, h.output, h.size, h.block⟩
theorem balloc (w : World) (o : Obj) : Below w.heap.size w (w.alloc o) := (Below.refl _ _).alloc (Nat.le_refl _) o

theorem below_grown {w0 w w' : World} {B base n size : Nat} {e : TypeId} {v : Value} {xs : List Value} (hb : Below B w0 w) (hlo : B ≤ w0.heap.size) (ho : w.ownsRow base e size v n xs) (hB : B ≤ base) (hg : w.grownBy w' v.ownBlock) : Below B w0 w' :=
  hb.grown hg (Nat.le_trans hlo hb.size) (fun k hk => Nat.le_trans hB (ho.lt k hk).1)

theorem own_more {w w' : World} {base n size : Nat} {e : TypeId} {v : Value} {xs : List Value} (h2 : w.ownsRow base e size v n xs) (hb : Below w.heap.size w w') : w'.ownsRow base e size v n xs := by
  refine ⟨h2.1, ?_⟩
  rcases h2.2 with hn | ⟨g, cap, cur, rfl, hb1, hgg, rest⟩
  · exact .inl hn
  · exact .inr ⟨g, cap, cur, rfl, hb1, (hb.block g (Array.getElem?_eq_some_iff.1 hgg).1).trans hgg, rest⟩

theorem own_low {w : World} {base b n size : Nat} {e : TypeId} {v : Value} {xs : List Value} (h2 : w.ownsRow base e size v n xs) (hb : b ≤ base) : w.ownsRow b e size v n xs := by
  refine ⟨h2.1, ?_⟩
  rcases h2.2 with hn | ⟨g, cap, cur, rfl, hb1, rest⟩
  · exact .inl hn
  · exact .inr ⟨g, cap, cur, rfl, by omega, rest⟩

theorem own_form {w : World} {base n : Nat} {e : TypeId} {size : Nat} {v : Value} {xs : List Value} (h : w.ownsRow base e size v n xs) (hn : 0 < n) : ∃ g cap, v = .slice (some ⟨g, 0, none⟩) n cap ∧ n ≤ cap ∧ cap ≤ maxLen := by
  rcases h.2 with ⟨_, e⟩ | ⟨g, cap, cur, e, _, _, e1, e2, _⟩
  · omega
  · exact ⟨g, cap, e, e1, e2⟩

theorem own_any {w : World} {base n : Nat} {e : TypeId} {size : Nat} {v : Value} {xs : List Value} (h : w.ownsRow base e size v n xs) : ∃ ad cap, v = .slice ad n cap ∧ n ≤ cap ∧ cap ≤ maxLen := by
  rcases h.2 with ⟨e1, e⟩ | ⟨g, cap, cur, e, _, _, e1, e2, _⟩
  · subst e; exact ⟨none, 0, e1, Nat.le_refl _, by unfold maxLen; omega⟩
  · exact ⟨_, cap, e, e1, e2⟩

/-- Rows of two kinds lie apart. -/
theorem own_apart {w : World} {b1 b2 n1 n2 s1 s2 : Nat} {e1 e2 : TypeId} {v1 v2 : Value} {x1 x2 : List Value} (h1 : w.ownsRow b1 e1 s1 v1 n1 x1) (h2 : w.ownsRow b2 e2 s2 v2 n2 x2) (hne : e1 ≠ e2) : v1.ownBlock = none ∨ v1.ownBlock ≠ v2.ownBlock := by
  rcases h1.2 with ⟨rfl, _⟩ | ⟨g, cap, cur, rfl, _, hg, _⟩
  · exact .inl rfl
  · rcases h2.2 with ⟨rfl, _⟩ | ⟨g', cap', cur', rfl, _, hg', _⟩
    · exact .inr (by simp [Value.ownBlock])
    · refine .inr (fun e => ?_)
      simp [Value.ownBlock] at e
      subst e
      rw [hg] at hg'
      injection hg' with h3
      injection h3 with _ h3
      exact hne h3

/-- A slice of numbers, to be read. -/
structure Sl (w : World) (ad : Option Addr) (n : Nat) (zs : List Int) : Prop where
  len : zs.length = n
  big : n ≤ 9223372036854775807
  cell : ∀ j z, zs[j]? = some z → ∃ b o, ad = some ⟨b, o, none⟩ ∧ w.cell? ⟨b, o + j, none⟩ = some (.int .i64 z)

theorem Sl.below {w w' : World} {ad : Option Addr} {n : Nat} {zs : List Int} (h : Sl w ad n zs) (hb : Below w.heap.size w w') : Sl w' ad n zs :=
  ⟨h.len, h.big, fun j z hz => by
    obtain ⟨b, o, h1, h2⟩ := h.cell j z hz
    exact ⟨b, o, h1, (hb.cell (World.block_lt_of_cell? w _ h2)).trans h2⟩⟩

/-- The value is a slice of these numbers. -/
def IV (w : World) (v : Value) (zs : List Int) : Prop := ∃ ad n cap, v = .slice ad n cap ∧ Sl w ad n zs

theorem IV.below {w w' : World} {v : Value} {zs : List Int} (h : IV w v zs) (hb : Below w.heap.size w w') : IV w' v zs := by
  obtain ⟨ad, n, cap, h1, h2⟩ := h
  exact ⟨ad, n, cap, h1, h2.below hb⟩

/-- Numbers as cells. -/
def ics (l : List Nat) : List Value := l.map (fun i : Nat => .int .i64 (i : Int))
theorem ics_get {n : Nat} {f : Nat → Nat} {j : Nat} (h : j < n) : (ics (fl n f))[j]? = some (.int .i64 (f j : Int)) := by
  unfold ics
  rw [List.getElem?_map, fl_get h]
  rfl
@[simp] theorem ics_length (l : List Nat) : (ics l).length = l.length := by simp [ics]
theorem ics_append (a b : List Nat) : ics (a ++ b) = ics a ++ ics b := by simp [ics]

/-- A row of numbers of one's own. -/
def Rw (base : Nat) (w : World) (v : Value) (l : List Nat) : Prop := w.ownsRow base 3 1 v l.length (ics l)

theorem Rw.iv {base : Nat} {w : World} {v : Value} {l : List Nat} (h : Rw base w v l) : IV w v (cl l) := by
  have h' : w.ownsRow base 3 1 v l.length (ics l) := h
  rcases h'.2 with ⟨rfl, h0⟩ | ⟨g, cap, cur, rfl, _, hg, h1, h2, _⟩
  · have : l = [] := List.eq_nil_of_length_eq_zero h0
    subst this
    exact ⟨none, 0, 0, rfl, rfl, by omega, fun j z hz => by simp [cl] at hz⟩
  · refine ⟨some ⟨g, 0, none⟩, l.length, cap, rfl, by simp, by unfold maxLen at h2; omega, fun j z hz => ?_⟩
    obtain ⟨k, hk, rfl⟩ := cl_get' hz
    refine ⟨g, 0, rfl, ?_⟩
    have hj := (List.getElem?_eq_some_iff.1 hk).1
    rw [Nat.zero_add, h'.cellAt j (by omega)]
    simp [ics, hk]

theorem Rw.more {base : Nat} {w w' : World} {v : Value} {l : List Nat} (h : Rw base w v l) (hb : Below w.heap.size w w') : Rw base w' v l := own_more h hb
theorem Rw.low {base b : Nat} {w : World} {v : Value} {l : List Nat} (h : Rw base w v l) (hb : b ≤ base) : Rw b w v l := own_low h hb

/-- A slice of slices of numbers, to be read. -/
structure Sr (w : World) (ad : Option Addr) (n : Nat) (ls : List (List Int)) : Prop where
  len : ls.length = n
  big : n ≤ 9223372036854775807
  cell : ∀ i l, ls[i]? = some l → ∃ b o u, ad = some ⟨b, o, none⟩ ∧ w.cell? ⟨b, o + i, none⟩ = some u ∧ IV w u l

theorem Sr.below {w w' : World} {ad : Option Addr} {n : Nat} {ls : List (List Int)} (h : Sr w ad n ls) (hb : Below w.heap.size w w') : Sr w' ad n ls :=
  ⟨h.len, h.big, fun j z hz => by
    obtain ⟨b, o, u, h1, h2, h3⟩ := h.cell j z hz
    exact ⟨b, o, u, h1, (hb.cell (World.block_lt_of_cell? w _ h2)).trans h2, h3.below hb⟩⟩

/-- The value is a slice of these lists. -/
def RV (w : World) (v : Value) (ls : List (List Int)) : Prop := ∃ ad n cap, v = .slice ad n cap ∧ Sr w ad n ls

theorem RV.below {w w' : World} {v : Value} {ls : List (List Int)} (h : RV w v ls) (hb : Below w.heap.size w w') : RV w' v ls := by
  obtain ⟨ad, n, cap, h1, h2⟩ := h
  exact ⟨ad, n, cap, h1, h2.below hb⟩

/-- Lists of lists as integers. -/
def cls (ms : List (List Nat)) : List (List Int) := ms.map cl

/-- Rows of rows of one's own. -/
def Rg (base : Nat) (w : World) (v : Value) (ms : List (List Nat)) : Prop := ∃ us : List Value, us.length = ms.length ∧ w.ownsRow base 22 1 v ms.length us ∧ ∀ (i : Nat) (l : List Nat) (u : Value), ms[i]? = some l → us[i]? = some u → Rw 0 w u l

theorem Rg.rv {base : Nat} {w : World} {v : Value} {ms : List (List Nat)} (h : Rg base w v ms) : RV w v (cls ms) := by
  obtain ⟨us, hu, ho, hr⟩ := h
  rcases ho.2 with ⟨rfl, h0⟩ | ⟨g, cap, cur, rfl, _, hg, h1, h2, _⟩
  · have : ms = [] := List.eq_nil_of_length_eq_zero h0
    subst this
    exact ⟨none, 0, 0, rfl, rfl, by omega, fun j z hz => by simp [cls] at hz⟩
  · refine ⟨some ⟨g, 0, none⟩, ms.length, cap, rfl, by simp [cls], by unfold maxLen at h2; omega, fun j z hz => ?_⟩
    unfold cls at hz
    rw [List.getElem?_map] at hz
    obtain ⟨l, hl, rfl⟩ := Option.map_eq_some_iff.1 hz
    have hj := (List.getElem?_eq_some_iff.1 hl).1
    obtain ⟨u, huj⟩ : ∃ u, us[j]? = some u := ⟨_, List.getElem?_eq_getElem (by omega)⟩
    refine ⟨g, 0, u, rfl, ?_, (hr j l u hl huj).iv⟩
    rw [Nat.zero_add, ho.cellAt j (by omega)]
    exact huj

theorem Rg.more {base : Nat} {w w' : World} {v : Value} {ms : List (List Nat)} (h : Rg base w v ms) (hb : Below w.heap.size w w') : Rg base w' v ms := by
  obtain ⟨us, hu, ho, hr⟩ := h
  exact ⟨us, hu, own_more ho hb, fun i l u hi hj => (hr i l u hi hj).more hb⟩

theorem Rg.nil (base : Nat) (w : World) : Rg base w (.slice none 0 0) [] := ⟨[], rfl, World.ownsRow_nil _ _ _ _, fun i l u hi => by simp at hi⟩

/-- What is no row of rows stays where one grows. -/
theorem Rw.grown {w w' : World} {base b n : Nat} {v u : Value} {xs : List Value} {l : List Nat} (hu : Rw b w u l) (ho : w.ownsRow base 22 1 v n xs) (hg : w.grownBy w' v.ownBlock) : Rw b w' u l :=
  World.ownsRow.kept hu hg (own_apart hu ho (by decide))

theorem Rg.push {base : Nat} {w w' : World} {v v' u : Value} {ms : List (List Nat)} {us : List Value} {l : List Nat} (hus : us.length = ms.length) (ho : w.ownsRow base 22 1 v ms.length us) (hr : ∀ (i : Nat) (l : List Nat) (u : Value), ms[i]? = some l → us[i]? = some u → Rw 0 w u l) (hu : Rw 0 w u l) (ho' : w'.ownsRow base 22 1 v' (ms.length + 1) (us ++ [u])) (hg : w.grownBy w' v.ownBlock) : Rg base w' v' (ms ++ [l]) := by
  refine ⟨us ++ [u], by simp [hus], by simpa using ho', fun i l' u' hi hj => ?_⟩
  by_cases h : i < ms.length
  · rw [List.getElem?_append_left h] at hi
    rw [List.getElem?_append_left (by omega)] at hj
    exact (hr i l' u' hi hj).grown ho hg
  · rw [List.getElem?_append_right (by omega)] at hi
    rw [List.getElem?_append_right (by omega)] at hj
    have hi0 := (List.getElem?_eq_some_iff.1 hi).1
    simp only [List.length_cons, List.length_nil] at hi0
    rw [show i - ms.length = 0 from by omega] at hi
    rw [show i - us.length = 0 from by omega] at hj
    simp at hi hj
    subst hi hj
    exact hu.grown ho hg

/-- One new cell, as an append reads it. -/
theorem one_new (w : World) (u : Value) (t : TypeId) : ∀ j x, ([u] : List Value)[j]? = some x → (w.alloc (.cells #[u] t)).cell? ((⟨w.heap.size, 0, none⟩ : Addr).add j) = some x := by
  intro j x hx
  rw [show (⟨w.heap.size, 0, none⟩ : Addr).add j = ⟨w.heap.size, j, none⟩ from by unfold Addr.add; split <;> simp_all]
  have hn := heap_alloc_new w (.cells #[u] t)
  unfold World.cell?
  rw [hn]
  simpa using hx

/-- Marks as cells. -/
def bl (n : Nat) (p : Nat → Bool) : List Value := (List.range n).map (fun i => .bool (p i))
@[simp] theorem bl_length (n : Nat) (p : Nat → Bool) : (bl n p).length = n := by simp [bl]
theorem bl_get {n : Nat} {p : Nat → Bool} {j : Nat} (h : j < n) : (bl n p)[j]? = some (.bool (p j)) := by simp [bl, h]
def on (p : Nat → Bool) (x : Nat) : Nat → Bool := fun y => if y = x then true else p y
theorem bl_set (n : Nat) (p : Nat → Bool) (x : Nat) : (bl n p).set x (.bool true) = bl n (on p x) := by
  apply List.ext_getElem?
  intro j
  by_cases hj : j < n
  · rw [bl_get hj, List.getElem?_set]
    by_cases e : x = j
    · subst e; simp [on, hj]
    · rw [if_neg e, bl_get hj]; simp [on, show ¬ j = x from fun h => e h.symm]
  · rw [List.getElem?_eq_none (by simp; omega), List.getElem?_eq_none (by simp; omega)]
theorem bl_made (n : Nat) : (madeCells (Value.cells (.bool false)) (n * 1)).toList = bl n (fun _ => false) := by
  rw [Nat.mul_one]
  show (madeCells #[Value.bool false] n).toList = _
  rw [toList_madeCells_one]
  apply List.ext_getElem?
  intro j
  by_cases hj : j < n
  · rw [bl_get hj]; simp [hj]
  · rw [List.getElem?_eq_none (by simp; omega), List.getElem?_eq_none (by simp; omega)]
theorem bl_congr {n : Nat} {p q : Nat → Bool} (h : ∀ i, i < n → p i = q i) : bl n p = bl n q := by
  unfold bl
  exact List.map_congr_left (fun i hi => by rw [h i (List.mem_range.1 hi)])

theorem ics_set (n : Nat) (f : Nat → Nat) (x y : Nat) : (ics (fl n f)).set x (.int .i64 (y : Int)) = ics (fl n (fun i => if i = x then y else f i)) := by
  apply List.ext_getElem?
  intro j
  by_cases hj : j < n
  · rw [List.getElem?_set]
    by_cases e : x = j
    · subst e; rw [if_pos rfl, ics_get (f := fun i => if i = x then y else f i) hj, if_pos rfl]; simp [hj]
    · rw [if_neg e, ics_get hj, ics_get hj, if_neg (show ¬ j = x from fun h => e h.symm)]
  · rw [List.getElem?_eq_none (by simp; omega), List.getElem?_eq_none (by simp; omega)]
theorem ics_made (n : Nat) : (madeCells (Value.cells (.int .i64 0)) (n * 1)).toList = ics (fl n (fun _ => 0)) := by
  rw [Nat.mul_one]
  show (madeCells #[Value.int .i64 0] n).toList = _
  rw [toList_madeCells_one]
  apply List.ext_getElem?
  intro j
  by_cases hj : j < n
  · rw [ics_get hj]; simp [hj]
  · rw [List.getElem?_eq_none (by simp; omega), List.getElem?_eq_none (by simp; omega)]

/-- Marks made since w0 began. -/
structure Mk (base : Nat) (w0 w : World) (v : Value) (n : Nat) (p : Nat → Bool) : Prop where
  row : w.ownsRow base 4 1 v n (bl n p)
  bel : Below base w0 w
  low : base ≤ w0.heap.size

end Go.Proofs.YtjngdecpomogbaaDoor
