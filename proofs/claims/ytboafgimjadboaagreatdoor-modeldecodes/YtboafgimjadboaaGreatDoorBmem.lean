/- The document's turns in memory. What is kept of darts and vertices, and what stands round each vertex: plain mathematics. The Turns in memory; what a call may have turned. 'nowhere', 'laid', 'sides', 'covers', 'at', walked. -/
import Derived.Test.YtboafgimjadboaaGreatDoorBpure
import Derived.WalkKit
import Derived.WalkSpells
import Derived.WalkLawsBesides
import Derived.OwnWalk
import Derived.Laws.OwnMore
import Derived.Handy
import Derived.BigQuiet
import Derived.Deep.RegionHeld3
import Derived.Test.YtboafgimjadboaaGreatDoorChecked
namespace Go.Proofs.YtboafgimjadboaaGreatDoor
open Go.RowKit
set_option linter.unusedVariables false

theorem hid {p : Prop} (h : p) : Hid p := h
theorem balloc (w : World) (o : Obj) : Below w.heap.size w (w.alloc o) := (Below.refl _ _).alloc (Nat.le_refl _) o
theorem belowN {B : Nat} {a w : World} (h : Below B a w) (m : Nat) : Below B a (w.drewN m) := ⟨h.os, h.tape, h.output, h.size, h.block⟩

/-- A block of cells of this type. -/
def Ty (w : World) (b : Nat) (t : TypeId) : Prop := ∃ cs fr, w.heap[b]? = some (.cells cs t fr)

theorem Ty.lt {w : World} {b : Nat} {t : TypeId} (h : Ty w b t) : b < w.heap.size := by
  obtain ⟨cs, fr, h⟩ := h
  exact (Array.getElem?_eq_some_iff.1 h).1

theorem Ty.of {w w' : World} {b : Nat} {t : TypeId} (h : Ty w b t) (he : w'.heap[b]? = w.heap[b]?) : Ty w' b t := by
  obtain ⟨cs, fr, h⟩ := h
  exact ⟨cs, fr, he.trans h⟩

/-- What two worlds have alike: blocks of these two types. -/
def Al (w w' : World) : Prop := ∀ b, (Ty w b 3 ∨ Ty w b 55) → w'.heap[b]? = w.heap[b]?

theorem Al.below {w w' : World} (h : Below w.heap.size w w') : Al w w' := fun b hb => by
  rcases hb with hb | hb
  · exact h.block b hb.lt
  · exact h.block b hb.lt

/-- A slice of numbers, to be read. -/
def NL (w : World) (v : Value) (l : List Nat) : Prop := ∃ ad n cap, v = .slice ad n cap ∧ l.length = n ∧ (n ≤ cap ∧ (ad = none → cap = 0) ∧ ∀ a, ad = some a → ∃ b o, a = ⟨b, o, none⟩ ∧ Ty w b 3) ∧ cap ≤ maxLen ∧ ∀ (j x : Nat), l[j]? = some x → ∃ b o, ad = some ⟨b, o, none⟩ ∧ w.cell? ⟨b, o + j, none⟩ = some (.int .i64 (x : Int))

theorem NL.al {w w' : World} {v : Value} {l : List Nat} (h : NL w v l) (ha : Al w w') : NL w' v l := by
  obtain ⟨ad, n, cap, h1, h2, h3, h4, h5⟩ := h
  refine ⟨ad, n, cap, h1, h2, ⟨h3.1, h3.2.1, fun a e => ?_⟩, h4, fun j x hx => ?_⟩
  · obtain ⟨b, o, rfl, ht⟩ := h3.2.2 a e
    exact ⟨b, o, rfl, ht.of (ha b (.inl ht))⟩
  · obtain ⟨b, o, e1, e2⟩ := h5 j x hx
    refine ⟨b, o, e1, ?_⟩
    obtain ⟨b', o', e3, ht⟩ := h3.2.2 _ e1
    cases e3
    exact (World.cell?_of_block (ha b (.inl ht))).trans e2

theorem NL.below {w w' : World} {v : Value} {l : List Nat} (h : NL w v l) (hb : Below w.heap.size w w') : NL w' v l := h.al (.below hb)

/-- A slice of such slices: what stands round each vertex. -/
def NR (w : World) (v : Value) (V : Nat) (R : Nat → List Nat) : Prop := ∃ ad cap, v = .slice ad V cap ∧ V ≤ cap ∧ (cap ≤ maxLen ∧ ∀ a, ad = some a → ∃ b o, a = ⟨b, o, none⟩ ∧ Ty w b 55) ∧ ∀ u, u < V → ∃ b o x, ad = some ⟨b, o, none⟩ ∧ w.cell? ⟨b, o + u, none⟩ = some x ∧ NL w x (R u)

theorem NR.al {w w' : World} {v : Value} {V : Nat} {R : Nat → List Nat} (h : NR w v V R) (ha : Al w w') : NR w' v V R := by
  obtain ⟨ad, cap, h1, h2, h3, h4⟩ := h
  refine ⟨ad, cap, h1, h2, ⟨h3.1, fun a e => ?_⟩, fun u hu => ?_⟩
  · obtain ⟨b, o, rfl, ht⟩ := h3.2 a e
    exact ⟨b, o, rfl, ht.of (ha b (.inr ht))⟩
  · obtain ⟨b, o, x, e1, e2, e3⟩ := h4 u hu
    obtain ⟨b', o', e4, ht⟩ := h3.2 _ e1
    cases e4
    exact ⟨b, o, x, e1, (World.cell?_of_block (ha b (.inr ht))).trans e2, e3.al ha⟩

theorem NR.below {w w' : World} {v : Value} {V : Nat} {R : Nat → List Nat} (h : NR w v V R) (hb : Below w.heap.size w w') : NR w' v V R := h.al (.below hb)

/-- The document's turns as a value. -/
def RT (w : World) (v : Value) (E V : Nat) (R : Nat → List Nat) : Prop := ∃ lv, v = .agg #[.int .i64 (E : Int), lv] ∧ NR w lv V R

theorem RT.al {w w' : World} {v : Value} {E V : Nat} {R : Nat → List Nat} (h : RT w v E V R) (ha : Al w w') : RT w' v E V R := by
  obtain ⟨lv, h1, h2⟩ := h
  exact ⟨lv, h1, h2.al ha⟩

theorem RT.below {w w' : World} {v : Value} {E V : Nat} {R : Nat → List Nat} (h : RT w v E V R) (hb : Below w.heap.size w w') : RT w' v E V R := h.al (.below hb)

theorem two_new (w : World) (u v : Value) (t : TypeId) : (w.alloc (.cells #[u, v] t)).cell? ⟨w.heap.size, 0, none⟩ = some u ∧ (w.alloc (.cells #[u, v] t)).cell? ⟨w.heap.size, 1, none⟩ = some v := by
  have hn := heap_alloc_new w (.cells #[u, v] t)
  unfold World.cell?
  rw [hn]
  exact ⟨rfl, rfl⟩

theorem own_form {w : World} {base n : Nat} {e : TypeId} {size : Nat} {v : Value} {xs : List Value} (h : w.ownsRow base e size v n xs) (hn : 0 < n) : ∃ g cap, v = .slice (some ⟨g, 0, none⟩) n cap ∧ n ≤ cap ∧ cap ≤ maxLen := by
  rcases h.2 with ⟨_, e⟩ | ⟨g, cap, cur, e, _, _, e1, e2, _⟩
  · omega
  · exact ⟨g, cap, e, e1, e2⟩

theorem own_any {w : World} {base n : Nat} {e : TypeId} {size : Nat} {v : Value} {xs : List Value} (h : w.ownsRow base e size v n xs) : ∃ ad cap, v = .slice ad n cap ∧ n ≤ cap ∧ cap ≤ maxLen := by
  rcases h.2 with ⟨e1, e⟩ | ⟨g, cap, cur, e, _, _, e1, e2, _⟩
  · subst e; exact ⟨none, 0, e1, Nat.le_refl _, by unfold maxLen; omega⟩
  · exact ⟨_, cap, e, e1, e2⟩

theorem row_ty {w : World} {base n g : Nat} {e : TypeId} {size : Nat} {v : Value} {xs : List Value} (h : w.ownsRow base e size v n xs) (hg : v.ownBlock = some g) : Ty w g e := by
  rcases h.2 with ⟨rfl, _⟩ | ⟨g', cap, cur, rfl, _, hh, _⟩
  · cases hg
  · cases hg
    exact ⟨_, _, hh⟩

theorem info_parts {P : Program} {e : TypeId} {z : Value} {s b : Nat} (h : (P.info? e).map (fun i => (i.zero, i.size, i.bytes)) = some (some z, s, b)) : ∃ i, P.info? e = some i ∧ i.zero = some z ∧ i.size = s ∧ i.bytes = b := by
  cases hi : P.info? e with
  | none => rw [hi] at h; cases h
  | some i =>
    rw [hi] at h
    simp at h
    exact ⟨i, rfl, h.1, h.2.1, h.2.2⟩

theorem infoInt : (Tryz.prog.info? 3).map (fun i => (i.zero, i.size, i.bytes)) = some (some (.int .i64 0), 1, 8) := by kernel_rfl
theorem infoInts : (Tryz.prog.info? 55).map (fun i => (i.zero, i.size, i.bytes)) = some (some (.slice none 0 0), 1, 24) := by kernel_rfl

end Go.Proofs.YtboafgimjadboaaGreatDoor

namespace Go.Proofs.YtboafgimjadboaaGreatDoor
set_option linter.unusedVariables false

/-- What is kept of a dart, of a vertex. -/
structure Dr where
  nx : Nat
  pv : Nat
  og : Int
structure Sd where
  dg : Nat
  so : Nat
def nw : Dr := ⟨0, 0, -1⟩
def sd0 : Sd := ⟨0, 0⟩

def up {α : Type} (T : Nat → α) (i : Nat) (x : α) : Nat → α := fun j => if j = i then x else T j
theorem up_same {α : Type} {T : Nat → α} {i : Nat} {x : α} : up T i x i = x := by simp [up]
theorem up_ne {α : Type} {T : Nat → α} {i j : Nat} {x : α} (h : j ≠ i) : up T i x j = T j := by simp [up, h]

theorem pv_mem {l : List Nat} {x : Nat} (hn : l.Nodup) (hx : x ∈ l) : pv l x ∈ l ∧ nx l (pv l x) = x := by
  obtain ⟨i, hi⟩ := List.getElem?_of_mem hx
  obtain ⟨hlt, hxe⟩ := List.getElem?_eq_some_iff.1 hi
  have hk : (i + l.length - 1) % l.length < l.length := Nat.mod_lt _ (by omega)
  have hy : l[(i + l.length - 1) % l.length]? = some l[(i + l.length - 1) % l.length] := List.getElem?_eq_getElem hk
  have := nx_at hn hy
  rw [Nat.mod_add_mod, show i + l.length - 1 + 1 = i + l.length from by omega, Nat.add_mod_right, Nat.mod_eq_of_lt hlt, hi] at this
  have e := Option.some.inj this
  have h2 := pv_nx hn (List.mem_of_getElem? hy)
  rw [← e] at h2
  rw [h2]
  exact ⟨List.mem_of_getElem? hy, e.symm⟩

/-- The tables are those of the lists. -/
structure Tt (V E : Nat) (D : Nat → Dr) (S : Nat → Sd) (R : Nat → List Nat) : Prop where
  tn : Tn V E R
  on : ∀ v d, v < V → d ∈ R v → D d = ⟨nx (R v) d, pv (R v) d, (v : Int)⟩
  off : ∀ d, ¬ In V R d → (D d).og = -1
  deg : ∀ v, v < V → (S v).dg = (R v).length
  som : ∀ v, v < V → R v ≠ [] → (S v).so ∈ R v

theorem Tt.new (V E : Nat) : Tt V E (fun _ => nw) (fun _ => sd0) (fun _ => []) :=
  ⟨Tn.new V E, fun v d _ h => by simp at h, fun d _ => rfl, fun v _ => rfl, fun v _ h => absurd rfl h⟩

theorem Tt.og {V E : Nat} {D : Nat → Dr} {S : Nat → Sd} {R : Nat → List Nat} (h : Tt V E D S R) (v d : Nat) (hv : v < V) : (D d).og = (v : Int) ↔ d ∈ R v := by
  constructor
  · intro e
    by_cases hi : In V R d
    · obtain ⟨u, hu, hd⟩ := hi
      have := h.on u d hu hd
      rw [this] at e
      simp only [] at e
      have : u = v := by omega
      subst this
      exact hd
    · have := h.off d hi
      omega
  · intro hd
    rw [h.on v d hv hd]

theorem Tt.laid {V E : Nat} {D : Nat → Dr} {S : Nat → Sd} {R : Nat → List Nat} (h : Tt V E D S R) (d : Nat) : (D d).og ≠ -1 ↔ In V R d := by
  constructor
  · intro e
    exact Classical.byContradiction fun hi => e (h.off d hi)
  · rintro ⟨u, hu, hd⟩
    rw [h.on u d hu hd]
    simp only []
    omega

/-- A dart laid behind another one, as the tables take it. -/
def putD (D : Nat → Dr) (v d n b : Nat) : Nat → Dr :=
  let D1 := up D d ⟨n, b, (v : Int)⟩
  let D2 := up D1 b ⟨d, (D1 b).pv, (D1 b).og⟩
  up D2 n ⟨(D2 n).nx, d, (D2 n).og⟩

def putS (S : Nat → Sd) (v d : Nat) : Nat → Sd := up S v ⟨(S v).dg + 1, d⟩

theorem putD_at {D : Nat → Dr} {v d n b x : Nat} : (putD D v d n b x).nx = (if x = b then d else if x = d then n else (D x).nx) ∧ (putD D v d n b x).pv = (if x = n then d else if x = d then b else (D x).pv) ∧ (putD D v d n b x).og = (if x = d then (v : Int) else (D x).og) := by
  unfold putD up
  by_cases h1 : x = n <;> by_cases h2 : x = b <;> by_cases h3 : x = d <;> simp [h1, h2, h3] <;> (try subst h1) <;> (try subst h2) <;> (try subst h3) <;> simp_all

theorem Dr.ext' {a b : Dr} (h1 : a.nx = b.nx) (h2 : a.pv = b.pv) (h3 : a.og = b.og) : a = b := by
  cases a; cases b; simp_all

theorem Tt.put {V E : Nat} {D : Nat → Dr} {S : Nat → Sd} {R : Nat → List Nat} (h : Tt V E D S R) {v d b : Nat} (hv : v < V) (hb : b ∈ R v) (hd : ¬ In V R d) (hl : d < 2 * E) : Tt V E (putD D v d (nx (R v) b) b) (putS S v d) (putR R v (some b) d) := by
  have hn := h.tn.nd v hv
  have hdv : d ∉ R v := fun hm => hd ⟨v, hv, hm⟩
  have hbs : ∀ y, some b = some y → y ∈ R v := fun y e => by cases e; exact hb
  have hnm := nx_mem hb
  have hdb : d ≠ b := fun e => hdv (e ▸ hb)
  have hdn : d ≠ nx (R v) b := fun e => hdv (e ▸ hnm)
  refine ⟨h.tn.put hv hbs hd hl, fun u x hu hx => ?_, fun x hx => ?_, fun u hu => ?_, fun u hu hne => ?_⟩
  · obtain ⟨p1, p2, p3⟩ := putD_at (D := D) (v := v) (d := d) (n := nx (R v) b) (b := b) (x := x)
    by_cases e : u = v
    · subst e
      have hx' : x = d ∨ x ∈ R u := by unfold putR at hx; rw [upd_same] at hx; exact (pt_mem hbs).1 hx
      have e1 : putR R u (some b) d u = ins (R u) b d := by unfold putR; rw [upd_same]; rfl
      rw [e1]
      apply Dr.ext'
      · rw [p1, nx_ins hn hb hdv hx']
        by_cases q1 : x = b
        · rw [if_pos q1, if_pos q1]
        · rw [if_neg q1, if_neg q1]
          by_cases q2 : x = d
          · rw [if_pos q2, if_pos q2]
          · rw [if_neg q2, if_neg q2, h.on u x hu (hx'.resolve_left q2)]
      · rw [p2, pv_ins hn hb hdv hx']
        by_cases q2 : x = d
        · subst q2
          rw [if_neg hdn, if_pos rfl, if_pos rfl]
        · rw [if_neg q2, if_neg q2]
          by_cases q3 : x = nx (R u) b
          · rw [if_pos q3, if_pos q3]
          · rw [if_neg q3, if_neg q3, h.on u x hu (hx'.resolve_left q2)]
      · rw [p3]
        by_cases q2 : x = d
        · rw [if_pos q2]
        · rw [if_neg q2, h.on u x hu (hx'.resolve_left q2)]
    · have hx' : x ∈ R u := by unfold putR at hx; rw [upd_ne e] at hx; exact hx
      have e1 : putR R v (some b) d u = R u := by unfold putR; rw [upd_ne e]
      have q1 : x ≠ b := fun e2 => e (h.tn.one u v x hu hv hx' (e2 ▸ hb))
      have q2 : x ≠ d := fun e2 => hd ⟨u, hu, e2 ▸ hx'⟩
      have q3 : x ≠ nx (R v) b := fun e2 => e (h.tn.one u v x hu hv hx' (e2 ▸ hnm))
      rw [e1]
      apply Dr.ext'
      · rw [p1, if_neg q1, if_neg q2, h.on u x hu hx']
      · rw [p2, if_neg q3, if_neg q2, h.on u x hu hx']
      · rw [p3, if_neg q2, h.on u x hu hx']
  · obtain ⟨p1, p2, p3⟩ := putD_at (D := D) (v := v) (d := d) (n := nx (R v) b) (b := b) (x := x)
    have hq : ¬ (x = d ∨ In V R x) := fun hq => hx ((In.put hv hbs).2 hq)
    rw [p3, if_neg (fun e => hq (.inl e))]
    exact h.off x (fun hi => hq (.inr hi))
  · unfold putS putR
    by_cases e : u = v
    · subst e; rw [up_same, upd_same, pt_len hbs, ← h.deg u hu]
    · rw [up_ne e, upd_ne e]; exact h.deg u hu
  · unfold putS putR at *
    by_cases e : u = v
    · subst e; rw [up_same, upd_same]; exact (pt_mem hbs).2 (.inl rfl)
    · rw [up_ne e, upd_ne e]; rw [upd_ne e] at hne; exact h.som u hu hne

theorem Tt.alone {V E : Nat} {D : Nat → Dr} {S : Nat → Sd} {R : Nat → List Nat} (h : Tt V E D S R) {v d : Nat} (hv : v < V) (hb : R v = []) (hd : ¬ In V R d) (hl : d < 2 * E) : Tt V E (putD D v d d d) (putS S v d) (putR R v none d) := by
  have hbs : ∀ y, (none : Option Nat) = some y → y ∈ R v := fun y e => by cases e
  have e0 : putR R v none d v = [d] := by unfold putR; rw [upd_same, hb]; rfl
  have n1 : nx [d] d = d := by rw [nx_first]; rfl
  have n2 : pv [d] d = d := by rw [pv_first]; rfl
  refine ⟨h.tn.put hv hbs hd hl, fun u x hu hx => ?_, fun x hx => ?_, fun u hu => ?_, fun u hu hne => ?_⟩
  · obtain ⟨p1, p2, p3⟩ := putD_at (D := D) (v := v) (d := d) (n := d) (b := d) (x := x)
    by_cases e : u = v
    · subst e
      rw [e0] at hx ⊢
      obtain rfl : x = d := by simpa using hx
      apply Dr.ext'
      · rw [p1, if_pos rfl, n1]
      · rw [p2, if_pos rfl, n2]
      · rw [p3, if_pos rfl]
    · have hx' : x ∈ R u := by unfold putR at hx; rw [upd_ne e] at hx; exact hx
      have e1 : putR R v none d u = R u := by unfold putR; rw [upd_ne e]
      have q2 : x ≠ d := fun e2 => hd ⟨u, hu, e2 ▸ hx'⟩
      rw [e1]
      apply Dr.ext'
      · rw [p1, if_neg q2, if_neg q2, h.on u x hu hx']
      · rw [p2, if_neg q2, if_neg q2, h.on u x hu hx']
      · rw [p3, if_neg q2, h.on u x hu hx']
  · obtain ⟨p1, p2, p3⟩ := putD_at (D := D) (v := v) (d := d) (n := d) (b := d) (x := x)
    have hq : ¬ (x = d ∨ In V R x) := fun hq => hx ((In.put hv hbs).2 hq)
    rw [p3, if_neg (fun e => hq (.inl e))]
    exact h.off x (fun hi => hq (.inr hi))
  · unfold putS putR
    by_cases e : u = v
    · subst e; rw [up_same, upd_same, pt_len hbs, ← h.deg u hu]
    · rw [up_ne e, upd_ne e]; exact h.deg u hu
  · unfold putS putR at *
    by_cases e : u = v
    · subst e; rw [up_same, upd_same]; exact (pt_mem hbs).2 (.inl rfl)
    · rw [up_ne e, upd_ne e]; rw [upd_ne e] at hne; exact h.som u hu hne

/-- A dart taken away. -/
def takeD (D : Nat → Dr) (d n b : Nat) : Nat → Dr :=
  let D1 := up D b ⟨n, (D b).pv, (D b).og⟩
  let D2 := up D1 n ⟨(D1 n).nx, b, (D1 n).og⟩
  up D2 d nw

def takeS (S : Nat → Sd) (v n : Nat) : Nat → Sd := up S v ⟨(S v).dg - 1, n⟩

end Go.Proofs.YtboafgimjadboaaGreatDoor

namespace Go.Proofs.YtboafgimjadboaaGreatDoor
open Go.RowKit
set_option linter.unusedVariables false

def dc (m : Dr) : List Value := [.int .i32 (m.nx : Int), .int .i32 (m.pv : Int), .int .i32 m.og]
def sc (m : Sd) : List Value := [.int .i32 (m.dg : Int), .int .i32 (m.so : Int)]
abbrev drv (m : Dr) : Value := .agg #[.int .i32 (m.nx : Int), .int .i32 (m.pv : Int), .int .i32 m.og]
abbrev sdv (m : Sd) : Value := .agg #[.int .i32 (m.dg : Int), .int .i32 (m.so : Int)]

def flat {α : Type} (c : α → List Value) (T : Nat → α) : Nat → List Value
  | 0 => []
  | N + 1 => flat c T N ++ c (T N)

theorem flat_length {α : Type} {c : α → List Value} {q : Nat} (hc : ∀ a, (c a).length = q) (T : Nat → α) : ∀ N, (flat c T N).length = N * q
  | 0 => by simp [flat]
  | N + 1 => by rw [flat, List.length_append, flat_length hc T N, hc, Nat.succ_mul]

theorem flat_congr {α : Type} {c : α → List Value} {T T' : Nat → α} : ∀ {N : Nat}, (∀ i, i < N → T i = T' i) → flat c T N = flat c T' N
  | 0, _ => rfl
  | N + 1, h => by simp only [flat]; rw [flat_congr (fun i hi => h i (by omega)), h N (by omega)]

theorem mul_lt_help {i N q k : Nat} (hi : i < N) (hk : k < q) : i * q + k < N * q := by
  have : (i + 1) * q ≤ N * q := Nat.mul_le_mul_right _ (by omega)
  rw [Nat.succ_mul] at this
  omega

theorem flat_get {α : Type} {c : α → List Value} {q : Nat} (hc : ∀ a, (c a).length = q) (T : Nat → α) : ∀ (N i k : Nat), i < N → k < q → (flat c T N)[i * q + k]? = (c (T i))[k]?
  | 0, i, k, hi, _ => by omega
  | N + 1, i, k, hi, hk => by
    unfold flat
    by_cases e : i = N
    · subst e
      rw [List.getElem?_append_right (by rw [flat_length hc]; omega), flat_length hc]
      congr 1; omega
    · rw [List.getElem?_append_left (by rw [flat_length hc]; exact mul_lt_help (by omega) hk)]
      exact flat_get hc T N i k (by omega) hk

theorem flat_set {α : Type} {c : α → List Value} {q : Nat} (hc : ∀ a, (c a).length = q) {T : Nat → α} {i k : Nat} {u : Value} {n' : α} (hk : k < q) (hn : c n' = (c (T i)).set k u) : ∀ (N : Nat), i < N → (flat c T N).set (i * q + k) u = flat c (up T i n') N
  | 0, hi => by omega
  | N + 1, hi => by
    unfold flat
    by_cases e : i = N
    · subst e
      rw [List.set_append_right _ _ (by rw [flat_length hc]; omega), flat_length hc, up_same, hn, flat_congr (T := up T i n') (T' := T) (fun j hj => up_ne (by omega))]
      congr 2; omega
    · rw [List.set_append_left _ _ (by rw [flat_length hc]; exact mul_lt_help (by omega) hk), flat_set hc hk hn N (by omega), up_ne (by omega)]

theorem dc_len (m : Dr) : (dc m).length = 3 := rfl
theorem sc_len (m : Sd) : (sc m).length = 2 := rfl

theorem Ty.uniq {w : World} {b : Nat} {t t' : TypeId} (h : Ty w b t) (h' : Ty w b t') : t = t' := by
  obtain ⟨cs, fr, h⟩ := h
  obtain ⟨cs', fr', h'⟩ := h'
  rw [h] at h'
  injection h' with h'
  injection h'

/-- A block that a Turns may have as its own. -/
def Mi (w : World) (k : Nat) : Prop := Ty w k 201 ∨ Ty w k 205 ∨ Ty w k 234

/-- Below lo, and but for such blocks, all is as it was; new blocks may have come. -/
structure Kp (lo : Nat) (w w' : World) : Prop where
  os : w'.os = w.os
  tape : w'.tape = w.tape
  output : w'.output = w.output
  size : w.heap.size ≤ w'.heap.size
  block : ∀ k, k < w.heap.size → (k < lo ∨ ¬ Mi w k) → w'.heap[k]? = w.heap[k]?

theorem Mi.of {w w' : World} {k : Nat} (h : Mi w' k) (he : w'.heap[k]? = w.heap[k]?) : Mi w k := by
  rcases h with h | h | h
  · exact .inl (h.of he.symm)
  · exact .inr (.inl (h.of he.symm))
  · exact .inr (.inr (h.of he.symm))

theorem Kp.refl (lo : Nat) (w : World) : Kp lo w w := ⟨rfl, rfl, rfl, Nat.le_refl _, fun _ _ _ => rfl⟩
theorem Kp.trans {lo : Nat} {a b c : World} (h : Kp lo a b) (k : Kp lo b c) : Kp lo a c :=
  ⟨k.os.trans h.os, k.tape.trans h.tape, k.output.trans h.output, Nat.le_trans h.size k.size, fun i hi h1 => by
    have e := h.block i hi h1
    refine (k.block i (Nat.lt_of_lt_of_le hi h.size) ?_).trans e
    rcases h1 with h1 | h1
    · exact .inl h1
    · exact .inr (fun hm => h1 (hm.of e))⟩
theorem Kp.ofBelow {w w' : World} (h : Below w.heap.size w w') (lo : Nat) : Kp lo w w' := ⟨h.os, h.tape, h.output, h.size, fun k hk _ => h.block k hk⟩
theorem Kp.below {lo : Nat} {w w' : World} (h : Kp lo w w') (hl : lo ≤ w.heap.size) : Below lo w w' := ⟨h.os, h.tape, h.output, h.size, fun k hk => h.block k (by omega) (.inl hk)⟩
theorem Kp.drew {lo : Nat} {a w : World} (h : Kp lo a w) : Kp lo a w.drew := ⟨h.os, h.tape, h.output, h.size, h.block⟩
theorem Kp.grown {lo : Nat} {w w' : World} {row : Option Nat} (h : w.grownBy w' row) (hs : ∀ k, row = some k → lo ≤ k ∧ Mi w k) : Kp lo w w' :=
  ⟨h.os, h.tape, h.output, h.size, fun k hk ho => h.block k hk (fun e => by
    obtain ⟨h1, h2⟩ := hs k e.symm
    rcases ho with ho | ho
    · omega
    · exact ho h2)⟩
theorem Kp.set {lo : Nat} {w : World} {p : Addr} (hl : lo ≤ p.block) (hm : Mi w p.block) (u : Value) : Kp lo w (w.setCell p u) :=
  ⟨rfl, rfl, rfl, by simp [World.setCell], fun k hk ho => Below.heap_setCell _ _ _ _ (fun e => by
    subst e
    rcases ho with ho | ho
    · omega
    · exact ho hm)⟩

/-- A block of another type stays. -/
theorem Kp.keep {lo : Nat} {w w' : World} (h : Kp lo w w') {k : Nat} {t : TypeId} (ht : Ty w k t) (h1 : t ≠ 201) (h2 : t ≠ 205) (h3 : t ≠ 234) : w'.heap[k]? = w.heap[k]? :=
  h.block k ht.lt (.inr (fun hm => by
    rcases hm with hm | hm | hm
    · exact h1 (ht.uniq hm)
    · exact h2 (ht.uniq hm)
    · exact h3 (ht.uniq hm)))
/-- The Turns at tb. -/
structure Tm (w : World) (lo tb : Nat) (dv sv : Value) (V E K M : Nat) (D : Nat → Dr) (S : Nat → Sd) : Prop where
  self : w.heap[tb]? = some (.cells #[.int .i64 (V : Int), .int .i64 (E : Int), dv, sv] 201 (0, 0))
  da : w.ownsRow lo 205 3 dv K (flat dc D K)
  st : w.ownsRow lo 234 2 sv M (flat sc S M)
  rd : ∀ x, K ≤ x → D x = nw
  rs : ∀ x, M ≤ x → S x = sd0
  low : lo ≤ tb
  hK : K ≤ 2 * E
  hM : M ≤ V
  hV : V ≤ 1048576
  hE : E ≤ 1048576

section
variable {w w' : World} {lo tb V E K M : Nat} {dv sv : Value} {D : Nat → Dr} {S : Nat → Sd} (h : Tm w lo tb dv sv V E K M D S)
include h

theorem Tm.c0 : w.cell? ⟨tb, 0, none⟩ = some (.int .i64 (V : Int)) := by unfold World.cell?; rw [h.self]; simp
theorem Tm.c1 : w.cell? ⟨tb, 1, none⟩ = some (.int .i64 (E : Int)) := by unfold World.cell?; rw [h.self]; simp
theorem Tm.c2 : w.cell? ⟨tb, 2, none⟩ = some dv := by unfold World.cell?; rw [h.self]; simp
theorem Tm.c3 : w.cell? ⟨tb, 3, none⟩ = some sv := by unfold World.cell?; rw [h.self]; simp
theorem Tm.f2 : w.frozen? ⟨tb, 2, none⟩ = false := by unfold World.frozen?; rw [h.self]; simp
theorem Tm.f3 : w.frozen? ⟨tb, 3, none⟩ = false := by unfold World.frozen?; rw [h.self]; simp
theorem Tm.lt : tb < w.heap.size := (Array.getElem?_eq_some_iff.1 h.self).1
theorem Tm.ty : Ty w tb 201 := ⟨_, _, h.self⟩
theorem Tm.dty {k : Nat} (hk : dv.ownBlock = some k) : Ty w k 205 := row_ty h.da hk
theorem Tm.sty {k : Nat} (hk : sv.ownBlock = some k) : Ty w k 234 := row_ty h.st hk
theorem Tm.dne : dv.ownBlock ≠ some tb := fun e => absurd ((h.dty e).uniq h.ty) (by decide)
theorem Tm.sne : sv.ownBlock ≠ some tb := fun e => absurd ((h.sty e).uniq h.ty) (by decide)
theorem Tm.ds {k : Nat} (hk : dv.ownBlock = some k) : sv.ownBlock ≠ some k := fun e => absurd ((h.sty e).uniq (h.dty hk)) (by decide)

theorem Tm.of (hb : w'.heap[tb]? = w.heap[tb]?) (hd : ∀ k, dv.ownBlock = some k → w'.heap[k]? = w.heap[k]?) (hs : ∀ k, sv.ownBlock = some k → w'.heap[k]? = w.heap[k]?) : Tm w' lo tb dv sv V E K M D S := by
  refine ⟨hb.trans h.self, ?_, ?_, h.rd, h.rs, h.low, h.hK, h.hM, h.hV, h.hE⟩
  · refine ⟨h.da.1, ?_⟩
    rcases h.da.2 with hn | ⟨g, cap, cur, rfl, hb, hgg, rest⟩
    · exact .inl hn
    · exact .inr ⟨g, cap, cur, rfl, hb, (hd g rfl).trans hgg, rest⟩
  · refine ⟨h.st.1, ?_⟩
    rcases h.st.2 with hn | ⟨g, cap, cur, rfl, hb, hgg, rest⟩
    · exact .inl hn
    · exact .inr ⟨g, cap, cur, rfl, hb, (hs g rfl).trans hgg, rest⟩

theorem Tm.more (hb : Below w.heap.size w w') : Tm w' lo tb dv sv V E K M D S := h.of (hb.block _ h.lt) (fun k hk => hb.block _ (h.dty hk).lt) (fun k hk => hb.block _ (h.sty hk).lt)
end

/-- What is kept of a dart, where the row lies. -/
theorem Tm.dat {w : World} {lo tb V E K M g cap : Nat} {sv : Value} {D : Nat → Dr} {S : Nat → Sd} (h : Tm w lo tb (.slice (some ⟨g, 0, none⟩) K cap) sv V E K M D S) {i : Nat} (hi : i < K) :
    w.cell? ⟨g, i * 3, none⟩ = some (.int .i32 ((D i).nx : Int)) ∧ w.cell? ⟨g, i * 3 + 1, none⟩ = some (.int .i32 ((D i).pv : Int)) ∧ w.cell? ⟨g, i * 3 + 2, none⟩ = some (.int .i32 (D i).og) := by
  refine ⟨?_, ?_, ?_⟩
  · rw [h.da.cellAt _ (by omega)]; exact flat_get dc_len D K i 0 hi (by decide)
  · rw [h.da.cellAt _ (by omega)]; exact flat_get dc_len D K i 1 hi (by decide)
  · rw [h.da.cellAt _ (by omega)]; exact flat_get dc_len D K i 2 hi (by decide)

theorem Tm.sat {w : World} {lo tb V E K M g cap : Nat} {dv : Value} {D : Nat → Dr} {S : Nat → Sd} (h : Tm w lo tb dv (.slice (some ⟨g, 0, none⟩) M cap) V E K M D S) {i : Nat} (hi : i < M) :
    w.cell? ⟨g, i * 2, none⟩ = some (.int .i32 ((S i).dg : Int)) ∧ w.cell? ⟨g, i * 2 + 1, none⟩ = some (.int .i32 ((S i).so : Int)) := by
  refine ⟨?_, ?_⟩
  · rw [h.st.cellAt _ (by omega)]; exact flat_get sc_len S M i 0 hi (by decide)
  · rw [h.st.cellAt _ (by omega)]; exact flat_get sc_len S M i 1 hi (by decide)

/-- A dart's cell turns. -/
theorem Tm.dset {w : World} {lo tb V E K M g cap : Nat} {sv : Value} {D : Nat → Dr} {S : Nat → Sd} (h : Tm w lo tb (.slice (some ⟨g, 0, none⟩) K cap) sv V E K M D S) {i : Nat} (k : Nat) {u : Value} (n' : Dr) (hi : i < K) (hk : k < 3) (hn : dc n' = (dc (D i)).set k u) :
    Tm (w.setCell ⟨g, i * 3 + k, none⟩ u) lo tb (.slice (some ⟨g, 0, none⟩) K cap) sv V E K M (up D i n') S ∧ Kp lo w (w.setCell ⟨g, i * 3 + k, none⟩ u) := by
  obtain ⟨h1, h2⟩ := h.da.stored (i * 3 + k) u
  rw [flat_set dc_len hk hn K hi] at h1
  have hg := h.dty (k := g) rfl
  refine ⟨⟨(h2.block tb h.lt (fun e => h.dne e.symm)).trans h.self, h1, h.st.kept h2 (.inr (h.ds rfl)), fun x hx => by rw [up_ne (by omega)]; exact h.rd x hx, h.rs, h.low, h.hK, h.hM, h.hV, h.hE⟩, Kp.set (p := ⟨g, i * 3 + k, none⟩) (h.da.lt g rfl).1 (.inr (.inl hg)) u⟩

/-- A vertex's cell turns. -/
theorem Tm.sset {w : World} {lo tb V E K M g cap : Nat} {dv : Value} {D : Nat → Dr} {S : Nat → Sd} (h : Tm w lo tb dv (.slice (some ⟨g, 0, none⟩) M cap) V E K M D S) {i : Nat} (k : Nat) {u : Value} (n' : Sd) (hi : i < M) (hk : k < 2) (hn : sc n' = (sc (S i)).set k u) :
    Tm (w.setCell ⟨g, i * 2 + k, none⟩ u) lo tb dv (.slice (some ⟨g, 0, none⟩) M cap) V E K M D (up S i n') ∧ Kp lo w (w.setCell ⟨g, i * 2 + k, none⟩ u) := by
  obtain ⟨h1, h2⟩ := h.st.stored (i * 2 + k) u
  rw [flat_set sc_len hk hn M hi] at h1
  have hg := h.sty (k := g) rfl
  refine ⟨⟨(h2.block tb h.lt (fun e => h.sne e.symm)).trans h.self, h.da.kept h2 (.inr (fun e => h.ds e rfl)), h1, h.rd, fun x hx => by rw [up_ne (by omega)]; exact h.rs x hx, h.low, h.hK, h.hM, h.hV, h.hE⟩, Kp.set (p := ⟨g, i * 2 + k, none⟩) (h.st.lt g rfl).1 (.inr (.inr hg)) u⟩

theorem set_block {w : World} {g k : Nat} {cs : Array Value} {t : TypeId} (h : w.heap[g]? = some (.cells cs t (0, 0))) (u : Value) : (w.setCell ⟨g, k, none⟩ u).heap[g]? = some (.cells (cs.setIfInBounds k u) t (0, 0)) := by
  unfold World.setCell
  rw [Array.getElem?_modify, if_pos rfl, h]
  simp

theorem grown_set (w : World) (p : Addr) (u : Value) : w.grownBy (w.setCell p u) (some p.block) := ⟨rfl, rfl, rfl, by simp [World.setCell], fun k hk hne => Below.heap_setCell _ _ _ _ (fun e => hne (by rw [e]))⟩

/-- One dart more is kept. -/
theorem Tm.growD {w w2 w3 : World} {lo tb V E K M g cap : Nat} {dv sv : Value} {D : Nat → Dr} {S : Nat → Sd} (h : Tm w lo tb dv sv V E K M D S) (hK : K < 2 * E) (hb : Below w.heap.size w w2) (hg : w2.grownBy w3 dv.ownBlock)
    (ho : w3.ownsRow lo 205 3 (.slice (some ⟨g, 0, none⟩) (K + 1) cap) (K + 1) (flat dc D K ++ dc nw)) :
    Tm (w3.setCell ⟨tb, 2, none⟩ (.slice (some ⟨g, 0, none⟩) (K + 1) cap)) lo tb (.slice (some ⟨g, 0, none⟩) (K + 1) cap) sv V E (K + 1) M D S ∧ Kp lo w (w3.setCell ⟨tb, 2, none⟩ (.slice (some ⟨g, 0, none⟩) (K + 1) cap)) := by
  have h2 := h.more hb
  have hs3 := (hg.block tb h2.lt (fun e => h2.dne e.symm)).trans h2.self
  have hgt := row_ty ho (g := g) rfl
  have hgn : g ≠ tb := fun e => absurd (hgt.uniq (e ▸ ⟨_, _, hs3⟩ : Ty w3 g 201)) (by decide)
  have hf : flat dc D K ++ dc nw = flat dc D (K + 1) := by
    rw [← h.rd K (Nat.le_refl _)]; rfl
  rw [hf] at ho
  have hst := h2.st.kept hg (by
    cases hj : sv.ownBlock with
    | none => exact .inl rfl
    | some k => exact .inr (fun e => h2.ds e.symm hj))
  refine ⟨⟨?_, ho.kept (grown_set w3 ⟨tb, 2, none⟩ _) (.inr (by simpa [Value.ownBlock] using hgn)), hst.kept (grown_set w3 ⟨tb, 2, none⟩ _) (.inr h2.sne), fun x hx => h.rd x (by omega), h.rs, h.low, by omega, h.hM, h.hV, h.hE⟩, ?_⟩
  · rw [set_block hs3]; rfl
  · refine ((Kp.ofBelow hb lo).trans (Kp.grown hg (fun k hk => ⟨(h2.da.lt k hk).1, .inr (.inl (h2.dty hk))⟩))).trans (Kp.set (p := ⟨tb, 2, none⟩) h.low (.inl ⟨_, _, hs3⟩) _)

/-- One vertex more is kept. -/
theorem Tm.growS {w w2 w3 : World} {lo tb V E K M g cap : Nat} {dv sv : Value} {D : Nat → Dr} {S : Nat → Sd} (h : Tm w lo tb dv sv V E K M D S) (hM : M < V) (hb : Below w.heap.size w w2) (hg : w2.grownBy w3 sv.ownBlock)
    (ho : w3.ownsRow lo 234 2 (.slice (some ⟨g, 0, none⟩) (M + 1) cap) (M + 1) (flat sc S M ++ sc sd0)) :
    Tm (w3.setCell ⟨tb, 3, none⟩ (.slice (some ⟨g, 0, none⟩) (M + 1) cap)) lo tb dv (.slice (some ⟨g, 0, none⟩) (M + 1) cap) V E K (M + 1) D S ∧ Kp lo w (w3.setCell ⟨tb, 3, none⟩ (.slice (some ⟨g, 0, none⟩) (M + 1) cap)) := by
  have h2 := h.more hb
  have hs3 := (hg.block tb h2.lt (fun e => h2.sne e.symm)).trans h2.self
  have hgt := row_ty ho (g := g) rfl
  have hgn : g ≠ tb := fun e => absurd (hgt.uniq (e ▸ ⟨_, _, hs3⟩ : Ty w3 g 201)) (by decide)
  have hf : flat sc S M ++ sc sd0 = flat sc S (M + 1) := by
    rw [← h.rs M (Nat.le_refl _)]; rfl
  rw [hf] at ho
  have hda := h2.da.kept hg (by
    cases hj : dv.ownBlock with
    | none => exact .inl rfl
    | some k => exact .inr (fun e => h2.ds hj e.symm))
  refine ⟨⟨?_, hda.kept (grown_set w3 ⟨tb, 3, none⟩ _) (.inr h2.dne), ho.kept (grown_set w3 ⟨tb, 3, none⟩ _) (.inr (by simpa [Value.ownBlock] using hgn)), h.rd, fun x hx => h.rs x (by omega), h.low, h.hK, by omega, h.hV, h.hE⟩, ?_⟩
  · rw [set_block hs3]; rfl
  · refine ((Kp.ofBelow hb lo).trans (Kp.grown hg (fun k hk => ⟨(h2.st.lt k hk).1, .inr (.inr (h2.sty hk))⟩))).trans (Kp.set (p := ⟨tb, 3, none⟩) h.low (.inl ⟨_, _, hs3⟩) _)

/-- How long the slice at a place is. -/
def lenAt (w : World) (a : Addr) : Nat := match w.cell? a with
  | some (.slice _ k _) => k
  | _ => 0

end Go.Proofs.YtboafgimjadboaaGreatDoor

namespace Go.Proofs.YtboafgimjadboaaGreatDoor
open Go.RowKit
set_option linter.unusedVariables false

set_option maxRecDepth 100000 in
set_option maxHeartbeats 1000000 in
theorem nowhere_ok (w : World) : Calls Tryz.prog 121 #[] w fun e w' => e = .returned (drv nw) ∧ Below w.heap.size w w' := by
  go_enter Tryz.func121, Tryz.ntmps121
  go_wp2_with fail
  go_returns
  exact ⟨rfl, (Below.refl _ _).alloc (Nat.le_refl _) _⟩

set_option maxRecDepth 100000 in
set_option maxHeartbeats 1000000 in
theorem dlaid_no (a b : Int) (w : World) : Calls Tryz.prog 102 #[.agg #[.int .i32 a, .int .i32 b, .int .i32 (-1)]] w fun e w' => e = .returned (.bool false) ∧ Below w.heap.size w w' := by
  go_enter Tryz.func102, Tryz.ntmps102
  go_wp2_with fail
  go_ret
  exact ⟨rfl, (Below.refl _ _).alloc (Nat.le_refl _) _⟩

set_option maxRecDepth 100000 in
set_option maxHeartbeats 1000000 in
theorem dlaid_yes (a b o : Int) (w : World) (h : o ≠ -1) : Calls Tryz.prog 102 #[.agg #[.int .i32 a, .int .i32 b, .int .i32 o]] w fun e w' => e = .returned (.bool true) ∧ Below w.heap.size w w' := by
  have t1 : (o != -1) = true := by simpa using h
  have t2 : (o == -1) = false := by simpa using h
  clear h
  go_enter Tryz.func102, Tryz.ntmps102
  go_wp2_with fail
  go_ret
  exact ⟨rfl, (Below.refl _ _).alloc (Nat.le_refl _) _⟩

set_option maxRecDepth 100000 in
set_option maxHeartbeats 1000000 in
theorem sides_ok (e : Nat) (w : World) (h : e ≤ 1048576) : Calls Tryz.prog 104 #[.int .i64 (e : Int)] w fun x w' => x = .returned (.tuple #[.int .i64 ((2 * e : Nat) : Int), .int .i64 ((2 * e + 1 : Nat) : Int)]) ∧ w = w' := by
  go_enter Tryz.func104, Tryz.ntmps104
  go_wp2_with fail
  go_ret2
  exact ⟨by go_num, rfl⟩

section
variable {w : World} {lo tb V E K M : Nat} {dv sv : Value} {D : Nat → Dr} {S : Nat → Sd}

set_option maxRecDepth 100000 in
set_option maxHeartbeats 1000000 in
theorem covers_yes (d : Nat) (hE : E ≤ 1048576) (c1 : w.cell? ⟨tb, 1, none⟩ = some (.int .i64 (E : Int))) (hd : d < 2 * E) :
    Calls Tryz.prog 100 #[.pointer (some ⟨tb, 0, none⟩), .int .i64 (d : Int)] w fun e w' => e = .returned (.bool true) ∧ w = w' := by
  have t1 : decide ((d : Int) ≥ 0) = true := decide_eq_true (by omega)
  have t2 : decide ((d : Int) < 2 * (E : Int)) = true := decide_eq_true (by omega)
  go_enter Tryz.func100, Tryz.ntmps100
  go_wp2_with fail
  go_ret
  exact ⟨rfl, rfl⟩

set_option maxRecDepth 100000 in
set_option maxHeartbeats 1000000 in
theorem covers_no (d : Int) (hE : E ≤ 1048576) (c1 : w.cell? ⟨tb, 1, none⟩ = some (.int .i64 (E : Int))) (hd : d < 0 ∨ 2 * (E : Int) ≤ d) :
    Calls Tryz.prog 100 #[.pointer (some ⟨tb, 0, none⟩), .int .i64 d] w fun e w' => e = .returned (.bool false) ∧ w = w' := by
  by_cases h0 : d < 0
  · have t1 : decide (d ≥ 0) = false := decide_eq_false (by omega)
    have t2 : decide (0 ≤ d) = false := decide_eq_false (by omega)
    clear hd h0
    go_enter Tryz.func100, Tryz.ntmps100
    go_wp2_with fail
    go_ret
    exact ⟨rfl, rfl⟩
  · have t1 : decide (d ≥ 0) = true := decide_eq_true (by omega)
    have t1' : decide (0 ≤ d) = true := decide_eq_true (by omega)
    have t2 : decide (d < 2 * (E : Int)) = false := decide_eq_false (by omega)
    clear hd h0
    go_enter Tryz.func100, Tryz.ntmps100
    go_wp2_with fail
    go_ret
    exact ⟨rfl, rfl⟩

theorem blk3 {w : World} {g : Nat} {t : TypeId} {x y z : Value} (h : w.heap[g]? = some (.cells #[x, y, z] t (0, 0))) : w.cell? ⟨g, 0, none⟩ = some x ∧ w.cell? ⟨g, 1, none⟩ = some y ∧ w.cell? ⟨g, 2, none⟩ = some z ∧ w.frozen? ⟨g, 0, none⟩ = false ∧ w.frozen? ⟨g, 1, none⟩ = false ∧ w.frozen? ⟨g, 2, none⟩ = false := by
  unfold World.cell? World.frozen?
  rw [h]
  simp

theorem set3_block {w : World} {g : Nat} {t : TypeId} {u v x : Value} (h : w.heap[g]? = some (.cells #[u, v, x] t (0, 0))) (a b c : Value) : (((w.setCell ⟨g, 0, none⟩ a).setCell ⟨g, 1, none⟩ b).setCell ⟨g, 2, none⟩ c).heap[g]? = some (.cells #[a, b, c] t (0, 0)) := by
  unfold World.setCell
  rw [Array.getElem?_modify, if_pos rfl, Array.getElem?_modify, if_pos rfl, Array.getElem?_modify, if_pos rfl, h]
  simp

theorem below3 {B : Nat} {a w : World} {g : Nat} (h : Below B a w) (hg : B ≤ g) (x y z : Value) : Below B a (((w.setCell ⟨g, 0, none⟩ x).setCell ⟨g, 1, none⟩ y).setCell ⟨g, 2, none⟩ z) :=
  ((h.setCell (p := ⟨g, 0, none⟩) hg x).setCell (p := ⟨g, 1, none⟩) hg y).setCell (p := ⟨g, 2, none⟩) hg z

set_option maxRecDepth 100000 in
set_option maxHeartbeats 1000000 in
theorem at_none (d : Int) (h : Tm w lo tb dv sv V E K M D S) (hd : d < 0 ∨ (K : Int) ≤ d) :
    Calls Tryz.prog 101 #[.pointer (some ⟨tb, 0, none⟩), .int .i64 d] w fun e w' => e = .returned (drv nw) ∧ Below w.heap.size w w' := by
  obtain ⟨ad, cap, rfl, hc1, hc2⟩ := own_any h.da
  have c2 := h.c2
  have hlt := h.lt
  have hbn : tb ≠ w.heap.size := by omega
  by_cases h0 : d < 0
  · have t1 : decide (d < 0) = true := decide_eq_true h0
    clear h hd h0
    go_enter Tryz.func101, Tryz.ntmps101
    go_wp2_with fail
    refine (nowhere_ok _).mono ?_
    rintro e w1 ⟨rfl, b1⟩
    have hc : w1.heap[w.heap.size]? = some (.cells #[.int .i32 0, .int .i32 0, .int .i32 0] 205 (0, 0)) := (b1.block w.heap.size (by simp)).trans (heap_alloc_new w _)
    obtain ⟨c3, c4, c5, f3, f4, f5⟩ := blk3 hc
    have hfin := hid (set3_block hc (.int .i32 ((nw.nx : Nat) : Int)) (.int .i32 ((nw.pv : Nat) : Int)) (.int .i32 nw.og))
    have hb := hid (below3 ((balloc w _).trans (b1.mono (by simp))) (Nat.le_refl _) (.int .i32 ((nw.nx : Nat) : Int)) (.int .i32 ((nw.pv : Nat) : Int)) (.int .i32 nw.og))
    clear hc b1
    go_wp2_with fail
    refine bodyPost_ret (results_cell_row rfl _ _ w.heap.size 205 _ (0, 0) _ rfl hfin.out Tryz.underlying205 rfl (by kernel_rfl)) rfl ?_
    exact ⟨rfl, hb.out⟩
  · have t1 : decide (d < 0) = false := decide_eq_false h0
    have t2 : decide ((K : Int) ≤ d) = true := decide_eq_true (by omega)
    clear h hd h0
    go_enter Tryz.func101, Tryz.ntmps101
    go_wp2_with fail
    refine (nowhere_ok _).mono ?_
    rintro e w1 ⟨rfl, b1⟩
    have hc : w1.heap[w.heap.size]? = some (.cells #[.int .i32 0, .int .i32 0, .int .i32 0] 205 (0, 0)) := (b1.block w.heap.size (by simp)).trans (heap_alloc_new w _)
    obtain ⟨c3, c4, c5, f3, f4, f5⟩ := blk3 hc
    have hfin := hid (set3_block hc (.int .i32 ((nw.nx : Nat) : Int)) (.int .i32 ((nw.pv : Nat) : Int)) (.int .i32 nw.og))
    have hb := hid (below3 ((balloc w _).trans (b1.mono (by simp))) (Nat.le_refl _) (.int .i32 ((nw.nx : Nat) : Int)) (.int .i32 ((nw.pv : Nat) : Int)) (.int .i32 nw.og))
    clear hc b1
    go_wp2_with fail
    refine bodyPost_ret (results_cell_row rfl _ _ w.heap.size 205 _ (0, 0) _ rfl hfin.out Tryz.underlying205 rfl (by kernel_rfl)) rfl ?_
    exact ⟨rfl, hb.out⟩

set_option maxRecDepth 100000 in
set_option maxHeartbeats 1000000 in
theorem at_ok (d : Nat) (h : Tm w lo tb dv sv V E K M D S) :
    Calls Tryz.prog 101 #[.pointer (some ⟨tb, 0, none⟩), .int .i64 (d : Int)] w fun e w' => e = .returned (drv (D d)) ∧ Below w.heap.size w w' := by
  by_cases hk : d < K
  · obtain ⟨g, cap, rfl, hc1, hc2⟩ := own_form h.da (by omega)
    have c2 := h.c2
    have hlt := h.lt
    have t1 : decide ((d : Int) < 0) = false := decide_eq_false (by omega)
    have t2 : decide ((K : Int) ≤ (d : Int)) = false := decide_eq_false (by omega)
    have t2' : decide (K ≤ d) = false := decide_eq_false (by omega)
    obtain ⟨a0, a1, a2⟩ := h.dat hk
    have hgl := World.block_lt_of_cell? w _ a0
    simp at hgl
    have hgn : g ≠ w.heap.size := by omega
    have hbn : tb ≠ w.heap.size := by omega
    clear h
    go_enter Tryz.func101, Tryz.ntmps101
    go_wp2_with fail
    go_returns
    exact ⟨rfl, (Below.refl _ _).alloc (Nat.le_refl _) _⟩
  · rw [h.rd d (by omega)]
    exact at_none (d : Int) h (.inr (by omega))
end

end Go.Proofs.YtboafgimjadboaaGreatDoor
