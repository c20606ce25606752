/- The document's Web beside the program's: lists of items, a list of ties. -/
import Derived.Test.YtdmkbcbgjdmgdaaGreatDoorBwp
import Derived.Test.YtdmkbcbgjdmgdaaGreatDoorBrefb
import Derived.Test.YtdmkbcbgjdmgdaaGreatDoorBerr
import Derived.Test.YtdmkbcbgjdmgdaaGreatDoorBrs
import Derived.Test.YtdmkbcbgjdmgdaaGreatDoorRDrop14
import Derived.Test.YtdmkbcbgjdmgdaaGreatDoorRAdd14
import Derived.Test.YtdmkbcbgjdmgdaaGreatDoorBrf
namespace Go.Proofs.YtdmkbcbgjdmgdaaGreatDoor
open Go.RowKit
set_option linter.unusedVariables false

/-- What the document's lists lie in is as it was. -/
def KeepD (w w' : World) : Prop := ∀ (k : Nat) (cs : Array Value) (t : TypeId) (fr : Nat × Nat), w.heap[k]? = some (.cells cs t fr) → (t = 3 ∨ t = 47 ∨ t = 62) → w'.heap[k]? = some (.cells cs t fr)

theorem KeepD.ofW {a b : World} (h : KeepW a b) : KeepD a b := fun k cs t fr hk ht => h k cs t fr hk (by rcases ht with rfl | rfl | rfl <;> decide) (by rcases ht with rfl | rfl | rfl <;> decide) (by rcases ht with rfl | rfl | rfl <;> decide) (by rcases ht with rfl | rfl | rfl <;> decide) (by rcases ht with rfl | rfl | rfl <;> decide) (by rcases ht with rfl | rfl | rfl <;> decide)
theorem KeepD.ofBelow {a b : World} (h : Below a.heap.size a b) : KeepD a b := fun k cs t fr hk _ => (h.block k (Array.getElem?_eq_some_iff.1 hk).1).trans hk
theorem KeepD.ofKw {a b : World} (h : Wd.Kw a b) : KeepD a b := fun k cs t fr hk ht => (h k (Array.getElem?_eq_some_iff.1 hk).1 (fun ⟨cs', fr', q⟩ => by
  rw [hk] at q
  injection q with q
  injection q with _ q
  rcases ht with rfl | rfl | rfl <;> exact absurd q (by decide))).trans hk

theorem Rf.keepD {w w' : World} {x : Value} {ls : List (List Nat)} (h : Rf w x ls) (k : KeepD w w') : Rf w' x ls := by
  obtain ⟨b, cap, cs, fr, h1, h2, h3⟩ := h
  refine ⟨b, cap, cs, fr, h1, k b _ _ _ h2 (.inr (.inl rfl)), fun i l hi => ?_⟩
  obtain ⟨u, h4, g, o, c, h5, h6, h7, cs', fr', h8, h9⟩ := h3 i l hi
  exact ⟨u, h4, g, o, c, h5, h6, h7, cs', fr', k g _ _ _ h8 (.inl rfl), h9⟩

theorem tv_keepD {w w' : World} {v : Value} {l : List Wd.Ti} (h : Wd.TV w v l) (k : KeepD w w') : Wd.TV w' v l := h.kt (fun b ⟨cs, fr, hb⟩ => (k b cs _ fr hb (.inr (.inr rfl))).trans hb.symm)

/-- The list of ties is what is tied. -/
structure Ts (tt : Nat → Option (Nat × Nat)) (ky : Nat → Int) (ts : List Wd.Ti) : Prop where
  into : ∀ t, t ∈ ts → tt t.e = some (t.a, t.b) ∧ ky t.e = t.key
  out : ∀ e a b, tt e = some (a, b) → ∃ t, t ∈ ts ∧ t.e = e
  nd : (ts.map (fun t => t.e)).Nodup

/-- The document's Web, as a value. -/
def Dc (n m : Nat) (sq : Nat → List Nat) (tt : Nat → Option (Nat × Nat)) (ky : Nat → Int) (wr : World) (xv : Value) : Prop :=
  ∃ fv tv ls ts, xv = .agg #[.int .i64 (n : Int), .int .i64 (m : Int), fv, tv] ∧ Rf wr fv ls ∧ Tie n ls sq ∧ Wd.TV wr tv ts ∧ Ts tt ky ts

theorem Dc.keepD {n m : Nat} {sq : Nat → List Nat} {tt : Nat → Option (Nat × Nat)} {ky : Nat → Int} {w w' : World} {xv : Value} (h : Dc n m sq tt ky w xv) (k : KeepD w w') : Dc n m sq tt ky w' xv := by
  obtain ⟨fv, tv, ls, ts, h1, h2, h3, h4, h5⟩ := h
  exact ⟨fv, tv, ls, ts, h1, h2.keepD k, h3, tv_keepD h4 k, h5⟩
theorem Dc.below {n m : Nat} {sq : Nat → List Nat} {tt : Nat → Option (Nat × Nat)} {ky : Nat → Int} {w w' : World} {xv : Value} (h : Dc n m sq tt ky w xv) (hb : Below w.heap.size w w') : Dc n m sq tt ky w' xv := h.keepD (.ofBelow hb)

/-- Its form. -/
theorem Dc.form {n m : Nat} {sq : Nat → List Nat} {tt : Nat → Option (Nat × Nat)} {ky : Nat → Int} {w : World} {xv : Value} (h : Dc n m sq tt ky w xv) : ∃ fad F fcap tad T tcap, xv = .agg #[.int .i64 (n : Int), .int .i64 (m : Int), .slice fad F fcap, .slice tad T tcap] := by
  obtain ⟨fv, tv, ls, ts, rfl, h2, h3, h4, h5⟩ := h
  obtain ⟨b, cap, cs, fr, rfl, _⟩ := h2
  obtain ⟨ad, cap', rfl⟩ := h4.form
  exact ⟨_, _, _, _, _, _, rfl⟩

/-- An error's value. -/
def erV (er : Int) : Value := if er = 0 then .nilIface else .iface 63 (.int .i64 er)

theorem erV_0 : erV 0 = .nilIface := if_pos rfl
theorem erV_ne {er : Int} (h : er ≠ 0) : erV er = .iface 63 (.int .i64 er) := if_neg h

theorem num_any (er : Int) (w : World) (hg : Handle w) : Calls Tryz.prog 19 #[erV er] w fun e w' => e = .returned (.int .i64 er) ∧ Below w.heap.size w w' := by
  by_cases h : er = 0
  · subst h; rw [erV_0]; exact num_nil w
  · rw [erV_ne h]; exact num_err er w hg

/-- The place of an item's list. -/
def fiD (ls : List (List Nat)) (sq : Nat → List Nat) (d : Nat) : Nat := ls.idxOf (sq (d + 1))

section
variable {lo wb n m : Nat} {w w0 w' : World} {sq : Nat → List Nat} {tt : Nat → Option (Nat × Nat)} {ky : Nat → Int} {ls : List (List Nat)} {ts : List Wd.Ti} {xv : Value}

theorem fiD_at (t : Tie n ls sq) {d : Nat} (hd : d < n) : ls[fiD ls sq d]? = some (sq (d + 1)) := by
  have hm := t.into (d + 1) (by omega) (by omega)
  have hl : fiD ls sq d < ls.length := List.idxOf_lt_length_of_mem hm
  rw [List.getElem?_eq_getElem hl]
  congr 1
  exact List.getElem_idxOf hl

theorem fiD_lt (t : Tie n ls sq) {d : Nat} (hd : d < n) : fiD ls sq d < ls.length := (List.getElem?_eq_some_iff.1 (fiD_at t hd)).1

theorem fiD_lb (t : Tie n ls sq) (p : Part n sq) : Lb n sq (fiD ls sq) := fun x y hx hy => by
  rw [← p.one (show x + 1 ≠ 0 by omega) (show y + 1 ≠ 0 by omega)]
  constructor
  · intro h
    have h1 := fiD_at t hx
    rw [h, fiD_at t hy] at h1
    exact (Option.some.inj h1).symm
  · intro h; unfold fiD; rw [h]

theorem fiD_find (hf : ∀ y, Below w0.heap.size w0 y → ∀ fv, Rf w0 fv ls → Rf y fv ls) : True := trivial

theorem doc_find {b cap : Nat} (hR : Rf w0 (.slice (some ⟨b, 0, none⟩) ls.length cap) ls) (t : Tie n ls sq) (p : Part n sq) (hn : n ≤ 1000) : ∀ y, Below w0.heap.size w0 y → ∀ d : Nat, d < n → Calls Tryz.prog 39 #[.slice (some ⟨b, 0, none⟩) ls.length cap, .int .i64 (d : Int)] y fun e w' => ∃ k : Int, e = .returned (.tuple #[.int .i64 (fiD ls sq d : Int), .int .i64 k]) ∧ Below y.heap.size y w' := fun y hy d hd => by
  refine ((hR.below hy).find t p hn d hd).mono ?_
  rintro e w' ⟨i, k, rfl, h1, _, rfl⟩
  rw [t.alone h1 (fiD_at t hd)]
  exact ⟨k, rfl, Below.refl _ _⟩

/-- The ties' places and numbers. -/
theorem Ts.at (h : Ts tt ky ts) {k : Nat} (hk : k < ts.length) : ∃ t, ts[k]? = some t ∧ Wd.tieAt ts k = t ∧ tt t.e = some (t.a, t.b) ∧ ky t.e = t.key := by
  obtain ⟨t, ht⟩ : ∃ t, ts[k]? = some t := ⟨_, List.getElem?_eq_getElem hk⟩
  obtain ⟨h1, h2⟩ := h.into t (List.mem_of_getElem? ht)
  exact ⟨t, ht, Wd.tieAt_some ht, h1, h2⟩

theorem fr_doc (h : Ts tt ky ts) {fi : Nat → Nat} {f g : Nat} {r l : List Nat} (k : FR fi (Wd.tA ts) (Wd.tB ts) (· < ts.length) f g r l) : FR fi (eA tt) (eB tt) (Td tt) f g (r.map (fun k => (Wd.tieAt ts k).e)) l :=
  k.conv (fun k => (Wd.tieAt ts k).e) (fun k hk => by
    obtain ⟨t, _, h2, h3, _⟩ := h.at hk
    exact ⟨t.a, t.b, by rw [h2]; exact h3⟩) (fun k hk => by
    obtain ⟨t, _, h2, h3, _⟩ := h.at hk
    show fi (eA tt (Wd.tieAt ts k).e) = fi (Wd.tieAt ts k).a
    rw [h2, (eA_of h3).1]) (fun k hk => by
    obtain ⟨t, _, h2, h3, _⟩ := h.at hk
    show fi (eB tt (Wd.tieAt ts k).e) = fi (Wd.tieAt ts k).b
    rw [h2, (eA_of h3).2])

theorem Ts.place (h : Ts tt ky ts) {e : Nat} (he : Td tt e) : ∃ t, ts[(ts.map (fun t => t.e)).idxOf e]? = some t ∧ t.e = e := by
  obtain ⟨a, b, q⟩ := he
  obtain ⟨t, h1, h2⟩ := h.out e a b q
  have hm : e ∈ ts.map (fun t => t.e) := List.mem_map.2 ⟨t, h1, h2⟩
  have hl := List.idxOf_lt_length_of_mem hm
  have hg := List.getElem_idxOf hl
  rw [List.length_map] at hl
  rw [List.getElem_map] at hg
  exact ⟨ts[(ts.map (fun t => t.e)).idxOf e], List.getElem?_eq_getElem hl, hg⟩

theorem fr_prog (h : Ts tt ky ts) {fi : Nat → Nat} {f g : Nat} {r l : List Nat} (k : FR fi (eA tt) (eB tt) (Td tt) f g r l) : FR fi (Wd.tA ts) (Wd.tB ts) (· < ts.length) f g (r.map (fun e => (ts.map (fun t => t.e)).idxOf e)) l := by
  have key : ∀ e, Td tt e → ∃ t, Wd.tieAt ts ((ts.map (fun t => t.e)).idxOf e) = t ∧ tt e = some (t.a, t.b) ∧ (ts.map (fun t => t.e)).idxOf e < ts.length := fun e he => by
    obtain ⟨t, h1, h2⟩ := h.place he
    have := (h.into t (List.mem_of_getElem? h1)).1
    rw [h2] at this
    exact ⟨t, Wd.tieAt_some h1, this, (List.getElem?_eq_some_iff.1 h1).1⟩
  refine k.conv (fun e => (ts.map (fun t => t.e)).idxOf e) (fun e he => ?_) (fun e he => ?_) (fun e he => ?_)
  · obtain ⟨t, h1, h2, h3⟩ := key e he; exact h3
  · obtain ⟨t, h1, h2, h3⟩ := key e he
    show fi (Wd.tieAt ts _).a = fi (eA tt e)
    rw [h1, (eA_of h2).1]
  · obtain ⟨t, h1, h2, h3⟩ := key e he
    show fi (Wd.tieAt ts _).b = fi (eB tt e)
    rw [h1, (eA_of h2).2]

/-- Linked, in the document and in the program. -/
theorem WQ.doc_lnk (h : WQ lo w wb n m sq tt ky w0) (t : Tie n ls sq) (hts : Ts tt ky ts) {a b : Int} (hi : Wd.InW n a b) : Wd.Lnk ts (fiD ls sq) a b ↔ Lkd n sq tt a.toNat b.toNat := by
  obtain ⟨h1, h2, h3, h4⟩ := hi
  rw [h.lkd_iff (fiD_lb t h.part) (show a.toNat < n by omega) (show b.toNat < n by omega)]
  constructor
  · rintro ⟨r, l, k⟩; exact ⟨_, _, fr_doc hts k⟩
  · rintro ⟨r, l, k⟩; exact ⟨_, _, fr_prog hts k⟩

theorem WQ.few (h : WQ lo w wb n m sq tt ky w0) (hts : Ts tt ky ts) : ts.length ≤ m := by
  have := Wd.nodup_len m (ts.map (fun t => t.e)) hts.nd (fun z hz => by
    obtain ⟨t, h1, h2⟩ := List.mem_map.1 hz
    have := (h.ends t.e t.a t.b (hts.into t h1).1).1
    rw [← h2]; exact this)
  rw [List.length_map] at this
  exact this

theorem WQ.itD (h : WQ lo w wb n m sq tt ky w0) (hts : Ts tt ky ts) : ∀ t, t ∈ ts → t.a < n ∧ t.b < n := fun t ht => by
  have := h.ends t.e t.a t.b (hts.into t ht).1
  exact ⟨this.2.1, this.2.2.1⟩
end
end Go.Proofs.YtdmkbcbgjdmgdaaGreatDoor
