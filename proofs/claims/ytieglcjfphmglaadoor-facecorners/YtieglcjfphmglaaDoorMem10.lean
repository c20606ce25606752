/- The document's turns in memory. -/
import Derived.WalkKit
import Derived.WalkSpells
import Derived.WalkLawsBesides
import Derived.OwnWalk
import Derived.Laws.OwnMore
import Derived.Handy
import Derived.BigQuiet
import Derived.Deep.RegionHeld3
import Derived.Test.YtieglcjfphmglaaDoorChecked
import Derived.Test.YtieglcjfphmglaaDoorLay10
namespace Go.Proofs.YtieglcjfphmglaaDoor
open Go.RowKit
set_option linter.unusedVariables false

theorem hid {p : Prop} (h : p) : Hid p := h
theorem balloc (w : World) (o : Obj) : Below w.heap.size w (w.alloc o) := (Below.refl _ _).alloc (Nat.le_refl _) o
theorem belowN {B : Nat} {a w : World} (h : Below B a w) (m : Nat) : Below B a (w.drewN m) := ⟨h.os, h.tape, h.output, h.size, h.block⟩

/-- A block of cells of this type. -/
def Ty (w : World) (b : Nat) (t : TypeId) : Prop := ∃ cs fr, w.heap[b]? = some (.cells cs t fr)

theorem Ty.lt {w : World} {b : Nat} {t : TypeId} (h : Ty w b t) : b < w.heap.size := by
  obtain ⟨cs, fr, h⟩ := h
  exact (Array.getElem?_eq_some_iff.1 h).1

theorem Ty.of {w w' : World} {b : Nat} {t : TypeId} (h : Ty w b t) (he : w'.heap[b]? = w.heap[b]?) : Ty w' b t := by
  obtain ⟨cs, fr, h⟩ := h
  exact ⟨cs, fr, he.trans h⟩

/-- What two worlds have alike: blocks of these two types. -/
def Al (w w' : World) : Prop := ∀ b, (Ty w b 3 ∨ Ty w b 29) → w'.heap[b]? = w.heap[b]?

theorem Al.below {w w' : World} (h : Below w.heap.size w w') : Al w w' := fun b hb => by
  rcases hb with hb | hb
  · exact h.block b hb.lt
  · exact h.block b hb.lt

/-- A slice of numbers, to be read. -/
def NL (w : World) (v : Value) (l : List Nat) : Prop := ∃ ad n cap, v = .slice ad n cap ∧ l.length = n ∧ (n ≤ cap ∧ (ad = none → cap = 0) ∧ ∀ a, ad = some a → ∃ b o, a = ⟨b, o, none⟩ ∧ Ty w b 3) ∧ cap ≤ maxLen ∧ ∀ (j x : Nat), l[j]? = some x → ∃ b o, ad = some ⟨b, o, none⟩ ∧ w.cell? ⟨b, o + j, none⟩ = some (.int .i64 (x : Int))

theorem NL.al {w w' : World} {v : Value} {l : List Nat} (h : NL w v l) (ha : Al w w') : NL w' v l := by
  obtain ⟨ad, n, cap, h1, h2, h3, h4, h5⟩ := h
  refine ⟨ad, n, cap, h1, h2, ⟨h3.1, h3.2.1, fun a e => ?_⟩, h4, fun j x hx => ?_⟩
  · obtain ⟨b, o, rfl, ht⟩ := h3.2.2 a e
    exact ⟨b, o, rfl, ht.of (ha b (.inl ht))⟩
  · obtain ⟨b, o, e1, e2⟩ := h5 j x hx
    refine ⟨b, o, e1, ?_⟩
    obtain ⟨b', o', e3, ht⟩ := h3.2.2 _ e1
    cases e3
    exact (World.cell?_of_block (ha b (.inl ht))).trans e2

theorem NL.below {w w' : World} {v : Value} {l : List Nat} (h : NL w v l) (hb : Below w.heap.size w w') : NL w' v l := h.al (.below hb)

/-- A slice of such slices: what stands round each vertex. -/
def NR (w : World) (v : Value) (V : Nat) (R : Nat → List Nat) : Prop := ∃ ad cap, v = .slice ad V cap ∧ V ≤ cap ∧ (cap ≤ maxLen ∧ ∀ a, ad = some a → ∃ b o, a = ⟨b, o, none⟩ ∧ Ty w b 29) ∧ ∀ u, u < V → ∃ b o x, ad = some ⟨b, o, none⟩ ∧ w.cell? ⟨b, o + u, none⟩ = some x ∧ NL w x (R u)

theorem NR.al {w w' : World} {v : Value} {V : Nat} {R : Nat → List Nat} (h : NR w v V R) (ha : Al w w') : NR w' v V R := by
  obtain ⟨ad, cap, h1, h2, h3, h4⟩ := h
  refine ⟨ad, cap, h1, h2, ⟨h3.1, fun a e => ?_⟩, fun u hu => ?_⟩
  · obtain ⟨b, o, rfl, ht⟩ := h3.2 a e
    exact ⟨b, o, rfl, ht.of (ha b (.inr ht))⟩
  · obtain ⟨b, o, x, e1, e2, e3⟩ := h4 u hu
    obtain ⟨b', o', e4, ht⟩ := h3.2 _ e1
    cases e4
    exact ⟨b, o, x, e1, (World.cell?_of_block (ha b (.inr ht))).trans e2, e3.al ha⟩

theorem NR.below {w w' : World} {v : Value} {V : Nat} {R : Nat → List Nat} (h : NR w v V R) (hb : Below w.heap.size w w') : NR w' v V R := h.al (.below hb)

/-- The document's turns as a value. -/
def RT (w : World) (v : Value) (E V : Nat) (R : Nat → List Nat) : Prop := ∃ lv, v = .agg #[.int .i64 (E : Int), lv] ∧ NR w lv V R

theorem RT.al {w w' : World} {v : Value} {E V : Nat} {R : Nat → List Nat} (h : RT w v E V R) (ha : Al w w') : RT w' v E V R := by
  obtain ⟨lv, h1, h2⟩ := h
  exact ⟨lv, h1, h2.al ha⟩

theorem RT.below {w w' : World} {v : Value} {E V : Nat} {R : Nat → List Nat} (h : RT w v E V R) (hb : Below w.heap.size w w') : RT w' v E V R := h.al (.below hb)

theorem two_new (w : World) (u v : Value) (t : TypeId) : (w.alloc (.cells #[u, v] t)).cell? ⟨w.heap.size, 0, none⟩ = some u ∧ (w.alloc (.cells #[u, v] t)).cell? ⟨w.heap.size, 1, none⟩ = some v := by
  have hn := heap_alloc_new w (.cells #[u, v] t)
  unfold World.cell?
  rw [hn]
  exact ⟨rfl, rfl⟩

theorem own_form {w : World} {base n : Nat} {e : TypeId} {size : Nat} {v : Value} {xs : List Value} (h : w.ownsRow base e size v n xs) (hn : 0 < n) : ∃ g cap, v = .slice (some ⟨g, 0, none⟩) n cap ∧ n ≤ cap ∧ cap ≤ maxLen := by
  rcases h.2 with ⟨_, e⟩ | ⟨g, cap, cur, e, _, _, e1, e2, _⟩
  · omega
  · exact ⟨g, cap, e, e1, e2⟩

theorem own_any {w : World} {base n : Nat} {e : TypeId} {size : Nat} {v : Value} {xs : List Value} (h : w.ownsRow base e size v n xs) : ∃ ad cap, v = .slice ad n cap ∧ n ≤ cap ∧ cap ≤ maxLen := by
  rcases h.2 with ⟨e1, e⟩ | ⟨g, cap, cur, e, _, _, e1, e2, _⟩
  · subst e; exact ⟨none, 0, e1, Nat.le_refl _, by unfold maxLen; omega⟩
  · exact ⟨_, cap, e, e1, e2⟩

theorem row_ty {w : World} {base n g : Nat} {e : TypeId} {size : Nat} {v : Value} {xs : List Value} (h : w.ownsRow base e size v n xs) (hg : v.ownBlock = some g) : Ty w g e := by
  rcases h.2 with ⟨rfl, _⟩ | ⟨g', cap, cur, rfl, _, hh, _⟩
  · cases hg
  · cases hg
    exact ⟨_, _, hh⟩

theorem info_parts {P : Program} {e : TypeId} {z : Value} {s b : Nat} (h : (P.info? e).map (fun i => (i.zero, i.size, i.bytes)) = some (some z, s, b)) : ∃ i, P.info? e = some i ∧ i.zero = some z ∧ i.size = s ∧ i.bytes = b := by
  cases hi : P.info? e with
  | none => rw [hi] at h; cases h
  | some i =>
    rw [hi] at h
    simp at h
    exact ⟨i, rfl, h.1, h.2.1, h.2.2⟩

theorem infoInt : (Tryd.prog.info? 3).map (fun i => (i.zero, i.size, i.bytes)) = some (some (.int .i64 0), 1, 8) := by kernel_rfl
theorem infoInts : (Tryd.prog.info? 29).map (fun i => (i.zero, i.size, i.bytes)) = some (some (.slice none 0 0), 1, 24) := by kernel_rfl

end Go.Proofs.YtieglcjfphmglaaDoor
