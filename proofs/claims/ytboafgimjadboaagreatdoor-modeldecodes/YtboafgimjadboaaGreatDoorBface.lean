/- face.twin, face.Next, face.behind, walked. Rows of one's own, rows of rows, marks. face.Walk, walked. face.All, walked. -/
import Derived.Test.YtboafgimjadboaaGreatDoorBdoc
import Derived.Test.YtboafgimjadboaaGreatDoorBpure
import Derived.Test.YtboafgimjadboaaGreatDoorBput
namespace Go.Proofs.YtboafgimjadboaaGreatDoor
open Go.RowKit
set_option linter.unusedVariables false

theorem xor_one (n : Nat) : n ^^^ 1 = if n % 2 = 0 then n + 1 else n - 1 := by
  have h1 : (n ^^^ 1) / 2 = n / 2 := by rw [Nat.xor_div_two]; simp
  have h2 : (n ^^^ 1) % 2 = 1 ↔ ¬ ((n % 2 = 1) ↔ (1 % 2 = 1)) := Nat.xor_mod_two_eq_one
  split <;> omega

/-- The other dart of the edge, of any number. -/
def twI (d : Int) : Int := if d % 2 = 0 then d + 1 else d - 1

theorem twI_nat (d : Nat) : twI (d : Int) = (tw d : Int) := by
  unfold twI tw
  by_cases h : d % 2 = 0
  · rw [if_pos (by omega), if_pos h]; omega
  · rw [if_neg (by omega), if_neg h]; omega

theorem bits_twin (d : Int) (h1 : -9223372036854775808 ≤ d) (h2 : d ≤ 9223372036854775807) : bits .xor .i64 d 1 = twI d := by
  show IntKind.i64.wrap (((BitVec.ofInt 64 d) ^^^ (BitVec.ofInt 64 1)).toNat : Nat) = twI d
  rw [BitVec.toNat_xor]
  have e1 : (BitVec.ofInt 64 1).toNat = 1 := by decide
  have e2 : (BitVec.ofInt 64 d).toNat = (d % 18446744073709551616).toNat := by rw [BitVec.toNat_ofInt]; rfl
  rw [e1, e2, xor_one]
  rw [IntKind.wrap_i64]
  unfold twI
  split <;> split <;> omega

set_option maxRecDepth 100000 in
set_option maxHeartbeats 1000000 in
theorem twin_ok (d : Int) (w : World) (h1 : -9223372036854775808 ≤ d) (h2 : d ≤ 9223372036854775807) : Calls Tryz.prog 148 #[.int .i64 d] w fun x w' => x = .returned (.int .i64 (twI d)) ∧ w = w' := by
  have hb := hid (bits_twin d h1 h2)
  go_enter Tryz.func148, Tryz.ntmps148
  go_wp2_with fail
  go_ret
  rw [hb.out]
  exact ⟨rfl, rfl⟩

/-- What face.Next answers. -/
def Fn (V E : Nat) (R : Nat → List Nat) (d n : Int) (r : Value) : Prop :=
  (r = .iface 67 (.int .i64 12) ∧ n = 0 ∧ (d < 0 ∨ 2 * (E : Int) ≤ d)) ∨ (r = .iface 67 (.int .i64 13) ∧ n = 0 ∧ ∃ k : Nat, d = (k : Int) ∧ k < 2 * E ∧ ¬ In V R k) ∨ (r = .nilIface ∧ ∃ k : Nat, d = (k : Int) ∧ In V R k ∧ n = (fx V R k : Int))

theorem Fn.of {V E : Nat} {R : Nat → List Nat} (ht : Tn V E R) (hw : Tw V E R) {d n p o : Int} {r : Value} (h : Nxt V E R (twI d) n p o r) : Fn V E R d n r := by
  rcases h with ⟨h1, h2, _, _, h5⟩ | ⟨h1, h2, _, _, k, h5, h6, h7⟩ | ⟨h1, k, u, h2, h3, h4, h5, _, _⟩
  · refine .inl ⟨h1, h2, ?_⟩
    unfold twI at h5
    split at h5 <;> omega
  · have hk : d = (tw k : Int) := by
      rw [← twI_nat]
      unfold twI at h5 ⊢
      split at h5 <;> split <;> omega
    exact .inr (.inl ⟨h1, h2, tw k, hk, tw_lt h6, fun q => h7 ((In.tw_iff ht hw).1 q)⟩)
  · have hk : d = (tw k : Int) := by
      rw [← twI_nat]
      unfold twI at h2 ⊢
      split at h2 <;> split <;> omega
    have hi : In V R k := ⟨u, h3, h4⟩
    refine .inr (.inr ⟨h1, tw k, hk, hi.tw ht hw, ?_⟩)
    rw [fx_yes (hi.tw ht hw), tw_tw, vx_at ht h3 h4]
    exact h5

set_option maxRecDepth 100000 in
set_option maxHeartbeats 1000000 in
theorem fnext_raw {tb : Nat} (d n : Int) (r : Value) (w : World) (h1 : -9223372036854775808 ≤ d) (h2 : d ≤ 9223372036854775807) (hn : Calls Tryz.prog 147 #[.pointer (some ⟨tb, 0, none⟩), .int .i64 (twI d)] w fun e w' => e = .returned (.tuple #[.int .i64 n, r]) ∧ Below w.heap.size w w') : Calls Tryz.prog 141 #[.pointer (some ⟨tb, 0, none⟩), .int .i64 d] w fun x w' => x = .returned (.tuple #[.int .i64 n, r]) ∧ Below w.heap.size w w' := by
  replace hn := hid hn
  have ht := hid (twin_ok d w h1 h2)
  go_enter Tryz.func141, Tryz.ntmps141
  go_wp2_with fail
  refine ht.out.mono ?_
  rintro x w1 ⟨rfl, rfl⟩
  go_wp2_with fail
  refine hn.out.mono ?_
  rintro x w1 ⟨rfl, b1⟩
  replace b1 := hid b1
  go_wp2_with fail
  go_ret2
  exact ⟨rfl, b1.out⟩

section
variable {w : World} {lo tb V E : Nat} {R : Nat → List Nat}

theorem fnext_any (h : TA w lo tb V E R) (hw : Tw V E R) (d : Int) (h1 : -9223372036854775808 ≤ d) (h2 : d ≤ 9223372036854775807) : ∃ n r, Fn V E R d n r ∧ ∀ y, Below w.heap.size w y → Calls Tryz.prog 141 #[.pointer (some ⟨tb, 0, none⟩), .int .i64 d] y fun x w' => x = .returned (.tuple #[.int .i64 n, r]) ∧ Below y.heap.size y w' := by
  obtain ⟨n, p, o, r, ho, hn, _⟩ := two_ok h (twI d)
  exact ⟨n, r, Fn.of h.tn hw ho, fun y hy => fnext_raw d n r y h1 h2 (hn y hy)⟩

theorem fnext_in (h : TA w lo tb V E R) (hw : Tw V E R) (k : Nat) (hk : In V R k) : Calls Tryz.prog 141 #[.pointer (some ⟨tb, 0, none⟩), .int .i64 (k : Int)] w fun x w' => x = .returned (.tuple #[.int .i64 (fx V R k : Int), .nilIface]) ∧ Below w.heap.size w w' := by
  have hl := hk.low h.tn
  have hE := h.hE
  obtain ⟨n, r, hf, hc⟩ := fnext_any h hw (k : Int) (by omega) (by omega)
  have hc := hc w (Below.refl _ _)
  rcases hf with ⟨_, _, q⟩ | ⟨_, _, j, e, _, q⟩ | ⟨rfl, j, e, _, rfl⟩
  · omega
  · obtain rfl : k = j := by omega
    exact absurd hk q
  · obtain rfl : k = j := by omega
    exact hc

set_option maxRecDepth 100000 in
set_option maxHeartbeats 1000000 in
theorem behind_ok (h : TA w lo tb V E R) (hw : Tw V E R) (k : Nat) (hk : In V R k) : Calls Tryz.prog 142 #[.pointer (some ⟨tb, 0, none⟩), .int .i64 (k : Int)] w fun x w' => x = .returned (.int .i64 (fx V R k : Int)) ∧ Below w.heap.size w w' := by
  have hn := hid (fnext_in h hw k hk)
  clear h hw hk
  go_enter Tryz.func142, Tryz.ntmps142
  go_wp2_with fail
  refine hn.out.mono ?_
  rintro x w1 ⟨rfl, b1⟩
  replace b1 := hid b1
  go_wp2_with fail
  go_ret
  exact ⟨rfl, b1.out⟩
end

end Go.Proofs.YtboafgimjadboaaGreatDoor

namespace Go.Proofs.YtboafgimjadboaaGreatDoor
open Go.RowKit
set_option linter.unusedVariables false

theorem infoBool : (Tryz.prog.info? 4).map (fun i => (i.zero, i.size, i.bytes)) = some (some (.bool false), 1, 1) := by kernel_rfl

theorem own_low {w : World} {base b n size : Nat} {e : TypeId} {v : Value} {xs : List Value} (h2 : w.ownsRow base e size v n xs) (hb : b ≤ base) : w.ownsRow b e size v n xs := by
  refine ⟨h2.1, ?_⟩
  rcases h2.2 with h | ⟨g, cap, cur, h, hg, r⟩
  · exact .inl h
  · exact .inr ⟨g, cap, cur, h, Nat.le_trans hb hg, r⟩

/-- Rows of two kinds lie apart. -/
theorem own_apart {w : World} {b1 b2 n1 n2 s1 s2 : Nat} {e1 e2 : TypeId} {v1 v2 : Value} {x1 x2 : List Value} (h1 : w.ownsRow b1 e1 s1 v1 n1 x1) (h2 : w.ownsRow b2 e2 s2 v2 n2 x2) (hne : e1 ≠ e2) : v1.ownBlock = none ∨ v1.ownBlock ≠ v2.ownBlock := by
  rcases h1.2 with ⟨rfl, _⟩ | ⟨g, cap, cur, rfl, _, hg, _⟩
  · exact .inl rfl
  · rcases h2.2 with ⟨rfl, _⟩ | ⟨g', cap', cur', rfl, _, hg', _⟩
    · exact .inr (by simp [Value.ownBlock])
    · refine .inr (fun e => ?_)
      simp [Value.ownBlock] at e
      subst e
      rw [hg] at hg'
      simp at hg'
      exact hne hg'.2

/-- A slice's length. -/
def sln : Value → Nat
  | .slice _ n _ => n
  | _ => 0
theorem own_sln {w : World} {base n size : Nat} {e : TypeId} {v : Value} {xs : List Value} (h : w.ownsRow base e size v n xs) : sln v = n := by
  obtain ⟨ad, cap, rfl, _⟩ := own_any h
  rfl

/-- A row of numbers of one's own. -/
def Rw (base : Nat) (w : World) (v : Value) (l : List Nat) : Prop := w.ownsRow base 3 1 v l.length (ncs l)

theorem Rw.nl {base : Nat} {w : World} {v : Value} {l : List Nat} (h : Rw base w v l) : NL w v l := nl_of h
theorem Rw.more {base : Nat} {w w' : World} {v : Value} {l : List Nat} (h : Rw base w v l) (hb : Below w.heap.size w w') : Rw base w' v l := ownsRow_below h hb
theorem Rw.low {base b : Nat} {w : World} {v : Value} {l : List Nat} (h : Rw base w v l) (hb : b ≤ base) : Rw b w v l := own_low h hb

/-- A slice of slices of numbers, to be read. -/
def RL (w : World) (v : Value) (ms : List (List Nat)) : Prop := NR w v ms.length (fun i => (ms[i]?).getD [])

theorem RL.below {w w' : World} {v : Value} {ms : List (List Nat)} (h : RL w v ms) (hb : Below w.heap.size w w') : RL w' v ms := NR.below h hb

/-- Rows of rows of one's own. -/
def Rg (base : Nat) (w : World) (v : Value) (ms : List (List Nat)) : Prop := ∃ us : List Value, us.length = ms.length ∧ w.ownsRow base 55 1 v ms.length us ∧ ∀ (i : Nat) (l : List Nat) (u : Value), ms[i]? = some l → us[i]? = some u → Rw base w u l

theorem Rg.rl {base : Nat} {w : World} {v : Value} {ms : List (List Nat)} (h : Rg base w v ms) : RL w v ms := by
  obtain ⟨us, hu, ho, hr⟩ := h
  rcases ho.2 with ⟨rfl, h0⟩ | ⟨g, cap, cur, rfl, _, hg, h1, h2, _⟩
  · have : ms = [] := List.eq_nil_of_length_eq_zero h0
    subst this
    exact ⟨none, 0, rfl, Nat.le_refl _, ⟨by unfold maxLen; omega, fun a e => by cases e⟩, fun u hu => by simp at hu⟩
  · refine ⟨some ⟨g, 0, none⟩, cap, rfl, h1, ⟨h2, fun a e => ⟨g, 0, by cases e; rfl, _, _, hg⟩⟩, fun j hj => ?_⟩
    obtain ⟨l, hl⟩ : ∃ l, ms[j]? = some l := ⟨_, List.getElem?_eq_getElem hj⟩
    obtain ⟨u, huj⟩ : ∃ u, us[j]? = some u := ⟨_, List.getElem?_eq_getElem (by omega)⟩
    refine ⟨g, 0, u, rfl, ?_, ?_⟩
    · rw [Nat.zero_add, ho.cellAt j (by omega)]
      exact huj
    · show NL w u ((ms[j]?).getD [])
      rw [hl]
      exact (hr j l u hl huj).nl

theorem Rg.more {base : Nat} {w w' : World} {v : Value} {ms : List (List Nat)} (h : Rg base w v ms) (hb : Below w.heap.size w w') : Rg base w' v ms := by
  obtain ⟨us, hu, ho, hr⟩ := h
  exact ⟨us, hu, ownsRow_below ho hb, fun i l u hi hj => (hr i l u hi hj).more hb⟩

theorem Rg.nil (base : Nat) (w : World) : Rg base w (.slice none 0 0) [] := ⟨[], rfl, World.ownsRow_nil _ _ _ _, fun i l u hi => by simp at hi⟩

/-- What is no row of rows stays where one grows. -/
theorem Rw.grown {w w' : World} {base b n : Nat} {v u : Value} {xs : List Value} {l : List Nat} (hu : Rw b w u l) (ho : w.ownsRow base 55 1 v n xs) (hg : w.grownBy w' v.ownBlock) : Rw b w' u l :=
  World.ownsRow.kept hu hg (own_apart hu ho (by decide))

theorem Rg.push {base : Nat} {w w' : World} {v v' u : Value} {ms : List (List Nat)} {us : List Value} {l : List Nat} (hus : us.length = ms.length) (ho : w.ownsRow base 55 1 v ms.length us) (hr : ∀ (i : Nat) (l : List Nat) (u : Value), ms[i]? = some l → us[i]? = some u → Rw base w u l) (hu : Rw base w u l) (ho' : w'.ownsRow base 55 1 v' (ms.length + 1) (us ++ [u])) (hg : w.grownBy w' v.ownBlock) : Rg base w' v' (ms ++ [l]) := by
  refine ⟨us ++ [u], by simp [hus], by simpa using ho', fun i l' u' hi hj => ?_⟩
  by_cases h : i < ms.length
  · rw [List.getElem?_append_left h] at hi
    rw [List.getElem?_append_left (by omega)] at hj
    exact (hr i l' u' hi hj).grown ho hg
  · rw [List.getElem?_append_right (by omega)] at hi
    rw [List.getElem?_append_right (by omega)] at hj
    have hi0 := (List.getElem?_eq_some_iff.1 hi).1
    simp only [List.length_cons, List.length_nil] at hi0
    rw [show i - ms.length = 0 from by omega] at hi
    rw [show i - us.length = 0 from by omega] at hj
    simp at hi hj
    subst hi hj
    exact hu.grown ho hg

/-- Marks as cells. -/
def bl (n : Nat) (p : Nat → Bool) : List Value := (List.range n).map (fun i => .bool (p i))
@[simp] theorem bl_length (n : Nat) (p : Nat → Bool) : (bl n p).length = n := by simp [bl]
theorem bl_get {n : Nat} {p : Nat → Bool} {j : Nat} (h : j < n) : (bl n p)[j]? = some (.bool (p j)) := by simp [bl, h]
def on (p : Nat → Bool) (x : Nat) : Nat → Bool := fun y => if y = x then true else p y
theorem bl_set (n : Nat) (p : Nat → Bool) (x : Nat) : (bl n p).set x (.bool true) = bl n (on p x) := by
  apply List.ext_getElem?
  intro j
  by_cases hj : j < n
  · rw [bl_get hj, List.getElem?_set]
    by_cases e : x = j
    · subst e; simp [on, hj]
    · rw [if_neg e, bl_get hj]; simp [on, show ¬ j = x from fun h => e h.symm]
  · rw [List.getElem?_eq_none (by simp; omega), List.getElem?_eq_none (by simp; omega)]
theorem bl_made (n : Nat) : (madeCells (Value.cells (.bool false)) (n * 1)).toList = bl n (fun _ => false) := by
  rw [Nat.mul_one]
  show (madeCells #[Value.bool false] n).toList = _
  rw [toList_madeCells_one]
  apply List.ext_getElem?
  intro j
  by_cases hj : j < n
  · rw [bl_get hj]; simp [hj]
  · rw [List.getElem?_eq_none (by simp; omega), List.getElem?_eq_none (by simp; omega)]
theorem bl_congr {n : Nat} {p q : Nat → Bool} (h : ∀ i, i < n → p i = q i) : bl n p = bl n q := by
  unfold bl
  exact List.map_congr_left (fun i hi => by rw [h i (List.mem_range.1 hi)])

/-- Marks made since w0 began. -/
structure Mk (base : Nat) (w0 w : World) (v : Value) (n : Nat) (p : Nat → Bool) : Prop where
  row : w.ownsRow base 4 1 v n (bl n p)
  bel : Below base w0 w
  low : base ≤ w0.heap.size

theorem Rw.keptB {w w' : World} {base b n : Nat} {v u : Value} {xs : List Value} {l : List Nat} (hu : Rw b w u l) (ho : w.ownsRow base 4 1 v n xs) (hg : w.grownBy w' v.ownBlock) : Rw b w' u l :=
  World.ownsRow.kept hu hg (own_apart hu ho (by decide))

theorem Rg.keptB {w w' : World} {base b n : Nat} {v u : Value} {xs : List Value} {ms : List (List Nat)} (h : Rg b w u ms) (ho : w.ownsRow base 4 1 v n xs) (hg : w.grownBy w' v.ownBlock) : Rg b w' u ms := by
  obtain ⟨us, hu, h1, hr⟩ := h
  exact ⟨us, hu, h1.kept hg (own_apart h1 ho (by decide)), fun i l u hi hj => (hr i l u hi hj).keptB ho hg⟩

/-- The marks of some numbers. -/
def marks (l : List Nat) : Nat → Bool := fun y => decide (y ∈ l)
theorem marks_on (l : List Nat) (x : Nat) : on (marks l) x = marks (l ++ [x]) := by
  funext y
  unfold on marks
  by_cases e : y = x
  · subst e; simp
  · rw [if_neg e]; simp [e]

/-- The marks stay where rows of rows grow. -/
theorem Mk.kept {base base' n k : Nat} {w0 w w' : World} {v u : Value} {p : Nat → Bool} {xs : List Value} (h : Mk base w0 w v n p) (ho : w.ownsRow base' 55 1 u k xs) (hb : base ≤ base') (hg : w.grownBy w' u.ownBlock) : Mk base w0 w' v n p :=
  ⟨h.row.kept hg (own_apart h.row ho (by decide)), below_row h.bel h.low ho hb hg, h.low⟩

theorem Mk.more {base n : Nat} {w0 w w' : World} {v : Value} {p : Nat → Bool} (h : Mk base w0 w v n p) (hb : Below w.heap.size w w') : Mk base w0 w' v n p :=
  ⟨ownsRow_below h.row hb, h.bel.trans (hb.mono (Nat.le_trans h.low h.bel.size)), h.low⟩

/-- A row lies in no block below its base. -/
theorem Rw.apart {b s : Nat} {w : World} {u : Value} {l : List Nat} (h : Rw b w u l) (hs : s < b) : u.ownBlock = none ∨ u.ownBlock ≠ some s := by
  rcases h.2 with ⟨rfl, _⟩ | ⟨g, cap, cur, rfl, hg, _⟩
  · exact .inl rfl
  · refine .inr (fun e => ?_)
    simp [Value.ownBlock] at e
    omega

theorem Rg.keptN {w w' : World} {b s : Nat} {u : Value} {ms : List (List Nat)} (h : Rg b w u ms) (hs : s < b) (hg : w.grownBy w' (some s)) : Rg b w' u ms := by
  obtain ⟨us, hu, h1, hr⟩ := h
  refine ⟨us, hu, h1.kept hg ?_, fun i l u hi hj => World.ownsRow.kept (hr i l u hi hj) hg ((hr i l u hi hj).apart hs)⟩
  rcases h1.2 with ⟨rfl, _⟩ | ⟨g, cap, cur, rfl, hg, _⟩
  · exact .inl rfl
  · refine .inr (fun e => ?_)
    simp [Value.ownBlock] at e
    omega

theorem Rg.low {base b : Nat} {w : World} {v : Value} {ms : List (List Nat)} (h : Rg base w v ms) (hb : b ≤ base) : Rg b w v ms := by
  obtain ⟨us, hu, h1, hr⟩ := h
  exact ⟨us, hu, own_low h1 hb, fun i l u hi hj => (hr i l u hi hj).low hb⟩

theorem ntake {l : List Nat} {j z : Nat} (h : l[j]? = some z) : l.take (j + 1) = l.take j ++ [z] := by
  rw [List.take_add_one, h]; rfl

end Go.Proofs.YtboafgimjadboaaGreatDoor

namespace Go.Proofs.YtboafgimjadboaaGreatDoor
open Go.RowKit
set_option linter.unusedVariables false

open Pq (fl fl_length fl_succ)

section
variable {w : World} {lo tb V E : Nat} {R : Nat → List Nat}

set_option maxRecDepth 100000 in
set_option maxHeartbeats 2000000 in
theorem walk_ok (h : TA w lo tb V E R) (hw : Tw V E R) (x : Nat) (hk : In V R x) :
    Calls Tryz.prog 132 #[.pointer (some ⟨tb, 0, none⟩), .int .i64 (x : Int)] w fun e w' => ∃ u, e = .returned (.tuple #[u, .nilIface]) ∧ Rw w.heap.size w' u (Pq.orb (fx V R) x) ∧ Below w.heap.size w w' := by
  obtain ⟨i0, hif, hz0, hz1, hz2⟩ := info_parts infoInt
  have pm := fx_pm h.tn hw
  have hx := hk.low h.tn
  have hE := h.hE
  obtain ⟨hp, hpn⟩ := pm.per_is hx
  obtain ⟨d, hd⟩ : ∃ d, Pq.per (fx V R) x = d := ⟨_, rfl⟩
  have horb : Hid (Pq.orb (fx V R) x = fl d (fun i => Pq.it (fx V R) i x)) := by unfold Pq.orb; rw [hd]; exact hid rfl
  rw [hd] at hp hpn
  have hd1 := hp.pos
  replace hp := hid hp
  have hin := hid (fun k => (it_in h.tn hw (d := x) k).2 hk)
  have hpm := hid pm
  have hnx := hid (fnext_in h hw x hk)
  have hbe := hid (fun (y : World) (k : Nat) (hy : Below w.heap.size w y) => behind_ok (h.more hy) hw _ (hin.out k))
  clear h hw hk pm hd
  have hfx : Hid (fx V R x = Pq.it (fx V R) 1 x) := hid rfl
  go_enter Tryz.func132, Tryz.ntmps132
  go_wp2_with fail
  refine hnx.out.mono ?_
  rintro e w1 ⟨rfl, b1⟩
  have hst0 : Hid (Rw w.heap.size (w1.alloc (.cells #[.int .i64 (x : Int)] 3)) (.slice (some ⟨w1.heap.size, 0, none⟩) 1 1) (fl 1 (fun i => Pq.it (fx V R) i x)) ∧ Below w.heap.size w (w1.alloc (.cells #[.int .i64 (x : Int)] 3))) :=
    ⟨World.ownsRow_lit w1 #[.int .i64 (x : Int)] 1 b1.size (by unfold maxLen; omega) rfl, b1.alloc b1.size _⟩
  clear b1 hnx
  go_wp2_with fail
  go_loopw [6, 8] (fun u v wr => ∃ k : Nat, 1 ≤ k ∧ k ≤ d ∧ u = .int .i64 (Pq.it (fx V R) k x : Int) ∧ Hid (Rw w.heap.size wr v (fl k (fun i => Pq.it (fx V R) i x)) ∧ Below w.heap.size w wr))
    (fun _ v _ => d - sln v)
  case atStart => exact ⟨1, by omega, by omega, rfl, hst0⟩
  case round =>
    obtain ⟨k, hk1, hkd, rfl, hst⟩ := hrel
    clear hst0
    have hyl := hpm.out.it_lt hx k
    have hbk := hid (fun y hy => hbe.out y k hy)
    obtain ⟨y, hy⟩ : ∃ y, Pq.it (fx V R) k x = y := ⟨_, rfl⟩
    have hyh := hid hy
    rw [hy] at hyl hbk ⊢
    by_cases e : y = x
    · obtain rfl : k = d := by
        rcases Nat.lt_or_ge k d with hl | hl
        · exact absurd (hy.trans e) (hp.out.least k hk1 hl)
        · omega
      have t1 : ((y : Int) == (x : Int)) = true := by simp [e]
      have t2 : ((y : Int) != (x : Int)) = false := by simp [e]
      clear hy
      obtain ⟨hr, hb⟩ := hst.out
      have fin := hid (And.intro hr hb)
      clear hr hb hst
      subst e
      go_wp2_with fail
      go_ret2
      exact ⟨_, rfl, by rw [horb.out]; exact fin.out.1, fin.out.2⟩
    · have hkd' : k < d := by
        rcases Nat.lt_or_ge k d with hl | hl
        · exact hl
        · obtain rfl : k = d := by omega
          exact absurd (hy.symm.trans hp.out.at_) e
      have t1 : ((y : Int) == (x : Int)) = false := by simp; omega
      have t2 : ((y : Int) != (x : Int)) = true := by simp; omega
      have t3 : ¬ ((y : Int) = (x : Int)) := by omega
      have hown : wr.ownsRow w.heap.size 3 1 u8 (fl k (fun i => Pq.it (fx V R) i x)).length (ncs (fl k (fun i => Pq.it (fx V R) i x))) := hst.out.1
      rw [fl_length] at hown
      have hbw := hst.out.2
      have hsz := hbw.size
      have hln := hid (own_sln hown)
      clear hy hst
      go_wp2_with (at_builtin; refine wpList_append_own _ rfl (.tmp 23) (.tmp 25) 55 rfl w.heap.size 3 i0 _ 1 8 Tryz.underlying55 hif hz0 hz1 hz2 rfl (by decide) _ _ _ rfl (hown.alloc _) ⟨wr.heap.size, 0, none⟩ 1 1 [.int .i64 (y : Int)] rfl rfl (one_new wr _ _) (by simp [Value.oneCell']) (by unfold maxLen; omega) (by omega) (by simp; omega) ?_; intro v' w' ho' hg' _; refine Hid.out ?_)
      have hb' := below_row (hbw.alloc hsz _) (Nat.le_refl _) (hown.alloc _) (Nat.le_refl _) hg'
      have hln' := hid (own_sln ho')
      have hnew := hid (And.intro (show Rw w.heap.size w' v' (fl (k + 1) (fun i => Pq.it (fx V R) i x)) from by
        unfold Rw
        rw [fl_length, fl_succ, ncs_append, hyh.out]
        exact ho') hb')
      have hbe' := hid (hbk.out w' hb')
      clear ho' hg' hown hbw hb'
      refine hid ?_
      go_wp2_with fail
      refine hbe'.out.mono ?_
      rintro e w2 ⟨rfl, b2⟩
      have hnew2 := hid (And.intro (hnew.out.1.more b2) (hnew.out.2.trans (b2.mono hnew.out.2.size)))
      clear hnew b2 hbe'
      go_wp2_with fail
      go_roundw
      case rel => exact ⟨k + 1, by omega, by omega, by rw [← hyh.out]; rfl, hnew2⟩
      case measure => rw [hln.out, hln'.out]; omega

set_option maxRecDepth 100000 in
set_option maxHeartbeats 1000000 in
theorem walk_bad {tb : Nat} (d n : Int) (z : Int) (y : World) (hn : Calls Tryz.prog 141 #[.pointer (some ⟨tb, 0, none⟩), .int .i64 d] y fun x w' => x = .returned (.tuple #[.int .i64 n, .iface 67 (.int .i64 z)]) ∧ Below y.heap.size y w') :
    Calls Tryz.prog 132 #[.pointer (some ⟨tb, 0, none⟩), .int .i64 d] y fun e w' => e = .returned (.tuple #[.slice none 0 0, .iface 67 (.int .i64 z)]) ∧ Below y.heap.size y w' := by
  replace hn := hid hn
  go_enter Tryz.func132, Tryz.ntmps132
  go_wp2_with fail
  refine hn.out.mono ?_
  rintro e w1 ⟨rfl, b1⟩
  replace b1 := hid b1
  go_wp2_with fail
  go_ret2
  exact ⟨rfl, b1.out⟩
end
end Go.Proofs.YtboafgimjadboaaGreatDoor

namespace Go.Proofs.YtboafgimjadboaaGreatDoor
open Go.RowKit
set_option linter.unusedVariables false

section
variable {w : World} {lo tb V E : Nat} {R : Nat → List Nat}

set_option maxRecDepth 100000 in
set_option maxHeartbeats 4000000 in
theorem all_ok (h : TA w lo tb V E R) (hw : Tw V E R) (hE8 : E ≤ 1000) :
    Calls Tryz.prog 113 #[.pointer (some ⟨tb, 0, none⟩)] w fun e w' => ∃ u, e = .returned u ∧ Rg w.heap.size w' u (fcs V R (2 * E)) ∧ Below w.heap.size w w' := by
  obtain ⟨i0, hif, hz0, hz1, hz2⟩ := info_parts infoBool
  obtain ⟨i1, hjf, hy0, hy1, hy2⟩ := info_parts infoInts
  have ht := h.tn
  have pm := fx_pm ht hw
  have hs := hid (sizes_ok h)
  have hwy : Hid (∀ x y, In V R x → Below w.heap.size w y → _) := hid (fun x y hx hy => walk_ok (h.more hy) hw x hx)
  have hwn : Hid (∀ x : Nat, ¬ In V R x → x < 2 * E → ∀ y, Below w.heap.size w y → Calls Tryz.prog 132 #[.pointer (some ⟨tb, 0, none⟩), .int .i64 (x : Int)] y fun e w' => e = .returned (.tuple #[.slice none 0 0, .iface 67 (.int .i64 13)]) ∧ Below y.heap.size y w') := hid (fun x hx hl y hy => by
    obtain ⟨n, r, hf, hc⟩ := fnext_any h hw (x : Int) (by omega) (by omega)
    rcases hf with ⟨_, _, q⟩ | ⟨rfl, _⟩ | ⟨_, j, e, q, _⟩
    · omega
    · exact walk_bad _ n 13 y (hc y hy)
    · obtain rfl : x = j := by omega
      exact absurd q hx)
  have hlst : Hid (∀ x, x < 2 * E → In V R x → (x ∈ (fcs V R x).flatten ↔ ¬ Pq.lst (fx V R) x)) := hid (fun x hx hi => by
    rw [fcs_mem ht hw (by omega)]
    unfold Pq.lst
    constructor
    · rintro ⟨_, k, hk⟩ q; have := q k; omega
    · intro q
      obtain ⟨k, hk⟩ := Classical.not_forall.1 q
      exact ⟨hi, k, by omega⟩)
  have hmi : Hid (∀ x y, x ≤ 2 * E → y ∈ (fcs V R x).flatten → In V R y) := hid (fun x y hx hy => ((fcs_mem ht hw hx).1 hy).1)
  have hpm := hid pm
  have hlow : Hid (∀ x, In V R x → x < 2 * E) := hid (fun x hx => hx.low ht)
  clear h pm hw ht
  obtain ⟨n, hn⟩ : ∃ n, 2 * E = n := ⟨_, rfl⟩
  have hn' : 2 * (E : Int) = (n : Int) := by omega
  have hnn : n ≤ 2000 := by omega
  rw [hn] at hwn hlst hmi hlow hpm ⊢
  replace hn := hid hn
  have hwr : Hid (wrap64 (2 * (E : Int)) = (n : Int)) := by rw [IntWalk.wrap64_in _ ⟨by omega, by omega⟩]; exact hid hn'
  replace hn' := hid hn'
  have hEn := hid hE8
  clear hE8
  go_enter Tryz.func113, Tryz.ntmps113
  go_wp2_with fail
  refine hs.out.mono ?_
  rintro e w1 ⟨rfl, m1, rfl⟩
  have b1 := hid (belowN (Below.refl w.heap.size w) m1)
  obtain ⟨w1, hw1⟩ : ∃ w1, w.drewN m1 = w1 := ⟨_, rfl⟩
  rw [hw1] at b1 ⊢
  have hsz := b1.out.size
  clear hs hw1
  go_upto_region 3 with fail
  go_wp2_with (at_make; rw [hwr.out]; refine wpList_make_full _ rfl (.tmp 18) (.tmp 18) 112 rfl w.heap.size 4 i0 (.bool false) 1 Tryz.underlying112 hif hz0 hz1 .i64 .i64 _ _ n rfl rfl rfl rfl (by rw [hz2]; omega) (by unfold maxLen; omega) hsz ?_; intro w2 hown hgrow)
  have hst0 : Hid (Mk w.heap.size w w2 (.slice (some ⟨w1.heap.size, 0, none⟩) n n) n (marks (fcs V R 0).flatten) ∧ Rg w.heap.size w2 (.slice none 0 0) (fcs V R 0)) := by
    rw [bl_made] at hown
    have e0 : fcs V R 0 = [] := by simp [fcs]
    refine ⟨⟨?_, b1.out.grown hgrow hsz (by simp), Nat.le_refl _⟩, ?_⟩
    · rw [show bl n (marks (fcs V R 0).flatten) = bl n (fun _ => false) from bl_congr (fun i _ => by simp [marks, e0])]
      exact hown
    · rw [e0]; exact Rg.nil _ _
  clear hown hgrow
  go_wp2_with fail
  go_loopw [5, 7, 8, 9, 11, 22] (fun o _ _ _ _ u wr => ∃ x : Nat, x ≤ n ∧ u = .int .i64 (x : Int) ∧ Hid (Mk w.heap.size w wr (.slice (some ⟨w1.heap.size, 0, none⟩) n n) n (marks (fcs V R x).flatten) ∧ Rg w.heap.size wr o (fcs V R x)))
    (fun _ _ _ _ _ u _ => n - (intOf u).toNat)
  case atStart => exact ⟨0, by omega, by go_num, hst0⟩
  case round =>
    obtain ⟨x, hx, rfl, hst⟩ := hrel
    clear hst0
    rcases Nat.lt_or_ge x n with hlt | hge
    · have hcell : wr.cell? ⟨w1.heap.size, x, none⟩ = some (.bool (marks (fcs V R x).flatten x)) := by rw [hst.out.1.row.cellAt x (by omega), bl_get hlt]
      have j1 : (0 : Int) ≤ (x : Int) := by omega
      have j2 : (x : Int) < (n : Int) := by omega
      by_cases hm : x ∈ (fcs V R x).flatten
      · have hi := hmi.out x x hx hm
        have hno : ¬ (In V R x ∧ Pq.lst (fx V R) x) := fun hl => (hlst.out x hlt hi).1 hm hl.2
        have hnew : Hid (Mk w.heap.size w wr (.slice (some ⟨w1.heap.size, 0, none⟩) n n) n (marks (fcs V R (x + 1)).flatten) ∧ Rg w.heap.size wr u5 (fcs V R (x + 1))) := by rw [fcs_no hno]; exact hst
        rw [show marks (fcs V R x).flatten x = true from by simpa [marks] using hm] at hcell
        clear hst hm hno hi
        go_wp2_with fail
        go_roundw
        case rel => exact ⟨x + 1, by omega, by go_num, hnew⟩
        case measure => simp [intOf]; omega
      · rw [show marks (fcs V R x).flatten x = false from by simpa [marks] using hm] at hcell
        by_cases hi : In V R x
        · have hyes : Hid (In V R x ∧ Pq.lst (fx V R) x) := hid ⟨hi, Classical.not_not.1 (fun q => hm ((hlst.out x hlt hi).2 q))⟩
          have hcx := hid (hwy.out x wr hi hst.out.1.bel)
          clear hm hi
          go_wp2_with fail
          refine hcx.out.mono ?_
          rintro e w3 ⟨c, rfl, hr, b3⟩
          have hst3 : Hid (Mk w.heap.size w w3 (.slice (some ⟨w1.heap.size, 0, none⟩) n n) n (marks ((fcs V R x).flatten ++ (Pq.orb (fx V R) x).take 0)) ∧ Rg w.heap.size w3 u5 (fcs V R x) ∧ Rw w.heap.size w3 c (Pq.orb (fx V R) x)) := by
            refine ⟨?_, hst.out.2.more b3, hr.low hst.out.1.bel.size⟩
            rw [List.take_zero, List.append_nil]
            exact hst.out.1.more b3
          clear hcx hst hr b3 hcell
          obtain ⟨d, hd⟩ : ∃ d, (Pq.orb (fx V R) x).length = d := ⟨_, rfl⟩
          have hdn : d ≤ 2000 := by
            have := (hpm.out.per_is hlt).2
            have h2 : (Pq.orb (fx V R) x).length = Pq.per (fx V R) x := by unfold Pq.orb; simp
            omega
          obtain ⟨ac, cc, rfl⟩ : ∃ ac cc, c = .slice ac d cc := by
            obtain ⟨ac, cc, h1, _⟩ := own_any hst3.out.2.2
            exact ⟨ac, cc, by rw [h1, hd]⟩
          replace hd := hid hd
          go_wp2_with fail
          go_loopw [11, 39] (fun _ u wy => ∃ k : Nat, k ≤ d ∧ u = .int .i64 (k : Int) ∧ Hid (Mk w.heap.size w wy (.slice (some ⟨w1.heap.size, 0, none⟩) n n) n (marks ((fcs V R x).flatten ++ (Pq.orb (fx V R) x).take k)) ∧ Rg w.heap.size wy u5 (fcs V R x) ∧ Rw w.heap.size wy (.slice ac d cc) (Pq.orb (fx V R) x)))
            (fun _ u _ => d - (intOf u).toNat)
          case atStart => exact ⟨0, by omega, by go_num, hst3⟩
          case round =>
            obtain ⟨k, hk, rfl, hst⟩ := hrel
            clear hst3
            rcases Nat.lt_or_ge k d with hkd | hkd
            · obtain ⟨z, hz⟩ : ∃ z, (Pq.orb (fx V R) x)[k]? = some z := ⟨_, List.getElem?_eq_getElem (by rw [hd.out]; exact hkd)⟩
              have hzn := hpm.out.orb_lt hlt (List.mem_of_getElem? hz)
              obtain ⟨g3, q3, c3, e3, _, _, _, hI⟩ := hst.out.2.2.nl
              obtain ⟨rfl, rfl, rfl⟩ : ac = g3 ∧ d = q3 ∧ cc = c3 := by simpa using e3
              obtain ⟨b4, o4, rfl, c4⟩ := hI k _ hz
              obtain ⟨hM, hG, hR⟩ := hst.out
              obtain ⟨s1, s2⟩ := hM.row.stored z (.bool true)
              rw [bl_set, marks_on, List.append_assoc, ← ntake hz] at s1
              have hfz := hM.row.frozenAt z
              have hold : wr.cell? ⟨w1.heap.size, z, none⟩ = some (.bool (marks ((fcs V R x).flatten ++ (Pq.orb (fx V R) x).take k) z)) := by rw [hM.row.cellAt z (by omega), bl_get hzn]
              have hnew := hid (And.intro (Mk.mk s1 (below_row hM.bel hM.low hM.row (Nat.le_refl _) s2) hM.low) (And.intro (hG.keptB hM.row s2) (hR.keptB hM.row s2)))
              generalize marks ((fcs V R x).flatten ++ (Pq.orb (fx V R) x).take k) z = old at hold
              clear s1 s2 hM hG hR hst hz e3 hI
              have j3 : (0 : Int) ≤ (k : Int) := by omega
              have j4 : (k : Int) < (d : Int) := by omega
              have j5 : (0 : Int) ≤ (z : Int) := by omega
              have j6 : (z : Int) < (n : Int) := by omega
              go_wp2_with fail
              go_roundw
              case rel => exact ⟨k + 1, by omega, by go_num, hnew⟩
              case measure => simp [intOf]; omega
            · obtain rfl : k = d := by omega
              obtain ⟨hM, ⟨us, hus, ho, hrs⟩, hR⟩ := hst.out
              rw [List.take_of_length_le (by rw [hd.out]; exact Nat.le_refl _)] at hM
              have hml : marks ((fcs V R x).flatten ++ Pq.orb (fx V R) x) = marks (fcs V R (x + 1)).flatten := by rw [fcs_yes hyes.out.1 hyes.out.2, List.flatten_append]; simp
              rw [hml] at hM
              have hle := fcs_le V R x
              have hba := balloc wr (.cells #[.slice ac k cc] 55)
              have hszr := Nat.le_trans hM.low hM.bel.size
              replace hM := hid hM
              replace hrs := hid hrs
              replace hR := hid hR
              replace hba := hid hba
              replace hus := hid hus
              clear hst hml
              go_wp2_with (at_builtin; refine wpList_append_own _ rfl (.tmp 47) (.tmp 49) 28 rfl w.heap.size 55 i1 _ 1 24 Tryz.underlying28 hjf hy0 hy1 hy2 rfl (by decide) _ _ _ rfl (ho.alloc _) ⟨wr.heap.size, 0, none⟩ 1 1 [.slice ac k cc] rfl rfl (one_new wr _ _) (by simp [Value.oneCell']) (by unfold maxLen; omega) (by omega) (by simp; omega) ?_; intro v5 w5 ho5 hg5 _; refine Hid.out ?_)
              have hnew : Hid (Mk w.heap.size w w5 (.slice (some ⟨w1.heap.size, 0, none⟩) n n) n (marks (fcs V R (x + 1)).flatten) ∧ Rg w.heap.size w5 v5 (fcs V R (x + 1))) := by
                refine ⟨(hM.out.more hba.out).kept (ho.alloc _) (Nat.le_refl _) hg5, ?_⟩
                rw [fcs_yes hyes.out.1 hyes.out.2]
                exact Rg.push hus.out (ho.alloc _) (fun i l u hi hj => (hrs.out i l u hi hj).more hba.out) (hR.out.more hba.out) ho5 hg5
              clear ho5 hg5 ho hM hrs hR
              refine hid ?_
              go_wp2_with fail
              go_roundw
              case rel => exact ⟨x + 1, by omega, by go_num, hnew⟩
              case measure => simp [intOf]; omega
        · have hno : ¬ (In V R x ∧ Pq.lst (fx V R) x) := fun hl => hi hl.1
          have hcx := hid (hwn.out x hi hlt wr hst.out.1.bel)
          clear hm hi
          go_wp2_with fail
          refine hcx.out.mono ?_
          rintro e w3 ⟨rfl, b3⟩
          have hnew : Hid (Mk w.heap.size w w3 (.slice (some ⟨w1.heap.size, 0, none⟩) n n) n (marks (fcs V R (x + 1)).flatten) ∧ Rg w.heap.size w3 u5 (fcs V R (x + 1))) := by rw [fcs_no hno]; exact hid ⟨hst.out.1.more b3, hst.out.2.more b3⟩
          clear hcx hst b3 hcell hno
          go_wp2_with fail
          go_roundw
          case rel => exact ⟨x + 1, by omega, by go_num, hnew⟩
          case measure => simp [intOf]; omega
    · obtain rfl : x = n := by omega
      go_wp2_with fail
      go_ret
      exact ⟨_, rfl, hst.out.2, hst.out.1.bel⟩
end
end Go.Proofs.YtboafgimjadboaaGreatDoor
