/- What the document's walks of stage 14 stand on. A region that leaves its order open, walked step by step: one operation taken first, one passed over: plain facts, of no program. Slices of ties in memory; append of one onto a row of ties of one's own, as a step of a region that draws. The document's Road between faces: where its search stands. A region that leaves its order open, whose last operation may break the condition under which the loads were taken: plain facts, of no program. -/
import Derived.Test.YtdmkbcbgjdmgdaaGreatDoorBpure
import Derived.WalkKit
import Derived.WalkSpells
import Derived.WalkLawsBesides
import Derived.OwnWalk
import Derived.Laws.OwnMore
import Derived.Handy
import Derived.BigQuiet
import Derived.Deep.RegionHeld3
import Derived.Deep.CutBlock
import Derived.Test.YtdmkbcbgjdmgdaaGreatDoorChecked
namespace Go.Proofs.YtdmkbcbgjdmgdaaGreatDoor.Wd
open Go.RowKit
set_option linter.unusedVariables false

theorem hid {p : Prop} (h : p) : Hid p := h

theorem info_parts {P : Program} {e : TypeId} {z : Value} {s b : Nat} (h : (P.info? e).map (fun i => (i.zero, i.size, i.bytes)) = some (some z, s, b)) : ∃ i, P.info? e = some i ∧ i.zero = some z ∧ i.size = s ∧ i.bytes = b := by
  cases hi : P.info? e with
  | none => rw [hi] at h; cases h
  | some i =>
    rw [hi] at h
    simp at h
    exact ⟨i, rfl, h.1, h.2.1, h.2.2⟩

theorem infoInt : (Tryz.prog.info? 3).map (fun i => (i.zero, i.size, i.bytes)) = some (some (.int .i64 0), 1, 8) := by kernel_rfl
theorem infoBool : (Tryz.prog.info? 4).map (fun i => (i.zero, i.size, i.bytes)) = some (some (.bool false), 1, 1) := by kernel_rfl
theorem infoInts : (Tryz.prog.info? 47).map (fun i => (i.zero, i.size, i.bytes)) = some (some (.slice none 0 0), 1, 24) := by kernel_rfl

theorem belowN {B : Nat} {a w : World} (h : Below B a w) (m : Nat) : Below B a (w.drewN m) := ⟨h.os, h.tape, h.output, h.size, h.block⟩
theorem balloc (w : World) (o : Obj) : Below w.heap.size w (w.alloc o) := (Below.refl _ _).alloc (Nat.le_refl _) o

theorem below_grown {w0 w w' : World} {B base n size : Nat} {e : TypeId} {v : Value} {xs : List Value} (hb : Below B w0 w) (hlo : B ≤ w0.heap.size) (ho : w.ownsRow base e size v n xs) (hB : B ≤ base) (hg : w.grownBy w' v.ownBlock) : Below B w0 w' :=
  hb.grown hg (Nat.le_trans hlo hb.size) (fun k hk => Nat.le_trans hB (ho.lt k hk).1)

theorem own_more {w w' : World} {base n size : Nat} {e : TypeId} {v : Value} {xs : List Value} (h2 : w.ownsRow base e size v n xs) (hb : Below w.heap.size w w') : w'.ownsRow base e size v n xs := by
  refine ⟨h2.1, ?_⟩
  rcases h2.2 with hn | ⟨g, cap, cur, rfl, hb1, hgg, rest⟩
  · exact .inl hn
  · exact .inr ⟨g, cap, cur, rfl, hb1, (hb.block g (Array.getElem?_eq_some_iff.1 hgg).1).trans hgg, rest⟩

theorem own_low {w : World} {base b n size : Nat} {e : TypeId} {v : Value} {xs : List Value} (h2 : w.ownsRow base e size v n xs) (hb : b ≤ base) : w.ownsRow b e size v n xs := by
  refine ⟨h2.1, ?_⟩
  rcases h2.2 with hn | ⟨g, cap, cur, rfl, hb1, rest⟩
  · exact .inl hn
  · exact .inr ⟨g, cap, cur, rfl, by omega, rest⟩

theorem own_form {w : World} {base n : Nat} {e : TypeId} {size : Nat} {v : Value} {xs : List Value} (h : w.ownsRow base e size v n xs) (hn : 0 < n) : ∃ g cap, v = .slice (some ⟨g, 0, none⟩) n cap ∧ n ≤ cap ∧ cap ≤ maxLen := by
  rcases h.2 with ⟨_, e⟩ | ⟨g, cap, cur, e, _, _, e1, e2, _⟩
  · omega
  · exact ⟨g, cap, e, e1, e2⟩

theorem own_any {w : World} {base n : Nat} {e : TypeId} {size : Nat} {v : Value} {xs : List Value} (h : w.ownsRow base e size v n xs) : ∃ ad cap, v = .slice ad n cap ∧ n ≤ cap ∧ cap ≤ maxLen := by
  rcases h.2 with ⟨e1, e⟩ | ⟨g, cap, cur, e, _, _, e1, e2, _⟩
  · subst e; exact ⟨none, 0, e1, Nat.le_refl _, by unfold maxLen; omega⟩
  · exact ⟨_, cap, e, e1, e2⟩

/-- Rows of two kinds lie apart. -/
theorem own_apart {w : World} {b1 b2 n1 n2 s1 s2 : Nat} {e1 e2 : TypeId} {v1 v2 : Value} {x1 x2 : List Value} (h1 : w.ownsRow b1 e1 s1 v1 n1 x1) (h2 : w.ownsRow b2 e2 s2 v2 n2 x2) (hne : e1 ≠ e2) : v1.ownBlock = none ∨ v1.ownBlock ≠ v2.ownBlock := by
  rcases h1.2 with ⟨rfl, _⟩ | ⟨g, cap, cur, rfl, _, hg, _⟩
  · exact .inl rfl
  · rcases h2.2 with ⟨rfl, _⟩ | ⟨g', cap', cur', rfl, _, hg', _⟩
    · exact .inr (by simp [Value.ownBlock])
    · refine .inr (fun e => ?_)
      simp [Value.ownBlock] at e
      subst e
      rw [hg] at hg'
      injection hg' with h3
      injection h3 with _ h3
      exact hne h3

/-- Marks as cells. -/
def bl (n : Nat) (p : Nat → Bool) : List Value := (List.range n).map (fun i => .bool (p i))
@[simp] theorem bl_length (n : Nat) (p : Nat → Bool) : (bl n p).length = n := by simp [bl]
theorem bl_get {n : Nat} {p : Nat → Bool} {j : Nat} (h : j < n) : (bl n p)[j]? = some (.bool (p j)) := by simp [bl, h]
def on (p : Nat → Bool) (x : Nat) : Nat → Bool := fun y => if y = x then true else p y
theorem bl_set (n : Nat) (p : Nat → Bool) (x : Nat) : (bl n p).set x (.bool true) = bl n (on p x) := by
  apply List.ext_getElem?
  intro j
  by_cases hj : j < n
  · rw [bl_get hj, List.getElem?_set]
    by_cases e : x = j
    · subst e; simp [on, hj]
    · rw [if_neg e, bl_get hj]; simp [on, show ¬ j = x from fun h => e h.symm]
  · rw [List.getElem?_eq_none (by simp; omega), List.getElem?_eq_none (by simp; omega)]
theorem bl_made (n : Nat) : (madeCells (Value.cells (.bool false)) (n * 1)).toList = bl n (fun _ => false) := by
  rw [Nat.mul_one]
  show (madeCells #[Value.bool false] n).toList = _
  rw [toList_madeCells_one]
  apply List.ext_getElem?
  intro j
  by_cases hj : j < n
  · rw [bl_get hj]; simp [hj]
  · rw [List.getElem?_eq_none (by simp; omega), List.getElem?_eq_none (by simp; omega)]
theorem bl_congr {n : Nat} {p q : Nat → Bool} (h : ∀ i, i < n → p i = q i) : bl n p = bl n q := by
  unfold bl
  exact List.map_congr_left (fun i hi => by rw [h i (List.mem_range.1 hi)])

/-- The marks of some numbers. -/
def marks (l : List Nat) : Nat → Bool := fun y => decide (y ∈ l)
theorem marks_on (l : List Nat) (x : Nat) : on (marks l) x = marks (l ++ [x]) := by
  funext y
  unfold on marks
  by_cases e : y = x
  · subst e; simp
  · rw [if_neg e]; simp [e]

/-- A block of cells of this type. -/
def Ty (w : World) (b : Nat) (t : TypeId) : Prop := ∃ cs fr, w.heap[b]? = some (.cells cs t fr)

theorem Ty.lt {w : World} {b : Nat} {t : TypeId} (h : Ty w b t) : b < w.heap.size := by
  obtain ⟨cs, fr, h⟩ := h
  exact (Array.getElem?_eq_some_iff.1 h).1

theorem Ty.of {w w' : World} {b : Nat} {t : TypeId} (h : Ty w b t) (he : w'.heap[b]? = w.heap[b]?) : Ty w' b t := by
  obtain ⟨cs, fr, h⟩ := h
  exact ⟨cs, fr, he.trans h⟩

theorem row_ty {w : World} {base n g : Nat} {e : TypeId} {size : Nat} {v : Value} {xs : List Value} (h : w.ownsRow base e size v n xs) (hg : v.ownBlock = some g) : Ty w g e := by
  rcases h.2 with ⟨rfl, _⟩ | ⟨g', cap, cur, rfl, _, hh, _⟩
  · cases hg
  · cases hg
    exact ⟨_, _, hh⟩

theorem Ty.uniq {w : World} {b : Nat} {t t' : TypeId} (h : Ty w b t) (h' : Ty w b t') : t = t' := by
  obtain ⟨cs, fr, h⟩ := h
  obtain ⟨cs', fr', h'⟩ := h'
  rw [h] at h'
  injection h' with h'
  injection h'

end Go.Proofs.YtdmkbcbgjdmgdaaGreatDoor.Wd

namespace Go.Proofs.YtdmkbcbgjdmgdaaGreatDoor
open Go.RowKit

/-- One operation that yields in every world of the condition is taken first; the frame behind it is written out. -/
theorem takeH {P : Program} {md : Region.Mode} {ops : Array Oper} {Q : Exit → Act → World → Prop} {S : World → Prop} {i : Nat} {v : Value} {fuel : Nat} {listed : Array Bool} {a a' : Act} {w : World} (oi : Oper) (hi : ops[i]? = some oi)
    (hs : Region.noSelect ops = true) (hf : Region.free md ops listed i = true) (hr : (Region.ready md ops listed).contains i = true)
    (hQ : ∀ c a w, Q (.panic c) (a.put oi.dst v) w → Q (.panic c) a w) (hw : Region.wanted oi (yielded ops a.tmps) = true) (hy : ∀ w, S w → (execOp a.eval oi).run P w = .ok (.value v) w) (hS : S w) (ha : a.put oi.dst v = a')
    (h : wpAnyH P md ops Q S fuel (listed.setIfInBounds i true) a' w) : wpAnyH P md ops Q S (fuel + 1) listed a w := by
  subst ha
  exact wpAnyH_take hi hs hf hr hQ (.inl ⟨hw, hy⟩) hS h

/-- One operation whose guard says no is passed over first. -/
theorem skipH {P : Program} {md : Region.Mode} {ops : Array Oper} {Q : Exit → Act → World → Prop} {S : World → Prop} {i : Nat} {fuel : Nat} {listed : Array Bool} {a a' : Act} {w : World} (oi : Oper) (hi : ops[i]? = some oi)
    (hs : Region.noSelect ops = true) (hf : Region.free md ops listed i = true) (hr : (Region.ready md ops listed).contains i = true)
    (hQ : ∀ c a w, Q (.panic c) (a.put oi.dst undef) w → Q (.panic c) a w) (hw : Region.wanted oi (yielded ops a.tmps) = false) (hS : S w) (ha : a.put oi.dst undef = a')
    (h : wpAnyH P md ops Q S fuel (listed.setIfInBounds i true) a' w) : wpAnyH P md ops Q S (fuel + 1) listed a w := by
  subst ha
  exact wpAnyH_take hi hs hf hr hQ (.inr ⟨hw, rfl⟩) hS h

end Go.Proofs.YtdmkbcbgjdmgdaaGreatDoor

namespace Go.Proofs.YtdmkbcbgjdmgdaaGreatDoor.Wd
open Go.RowKit
set_option linter.unusedVariables false

theorem infoTie : (Tryz.prog.info? 62).map (fun i => (i.zero, i.size, i.bytes)) = some (some (.agg #[.int .i64 0, .int .i64 0, .int .i64 0, .int .i64 0]), 4, 32) := by kernel_rfl
theorem infoTies : (Tryz.prog.info? 30).map (fun i => (i.zero, i.size, i.bytes)) = some (some (.slice none 0 0), 1, 24) := by kernel_rfl

/-- A tie: its number, its ends, its key. -/
structure Ti where
  e : Nat
  a : Nat
  b : Nat
  key : Int

def tc (t : Ti) : List Value := [.int .i64 (t.e : Int), .int .i64 (t.a : Int), .int .i64 (t.b : Int), .int .i64 t.key]
def tcs (l : List Ti) : List Value := l.flatMap tc
theorem tcs_append (a b : List Ti) : tcs (a ++ b) = tcs a ++ tcs b := by unfold tcs; rw [List.flatMap_append]
theorem tcs_cons (t : Ti) (l : List Ti) : tcs (t :: l) = tc t ++ tcs l := by unfold tcs; rw [List.flatMap_cons]
@[simp] theorem tcs_length : ∀ l : List Ti, (tcs l).length = l.length * 4
  | [] => rfl
  | t :: l => by rw [tcs_cons, List.length_append, tcs_length l, List.length_cons]; show 4 + _ = _; omega
theorem tcs_get : ∀ {l : List Ti} {j : Nat} {t : Ti}, l[j]? = some t → (tcs l)[j * 4]? = some (.int .i64 (t.e : Int)) ∧ (tcs l)[j * 4 + 1]? = some (.int .i64 (t.a : Int)) ∧ (tcs l)[j * 4 + 2]? = some (.int .i64 (t.b : Int)) ∧ (tcs l)[j * 4 + 3]? = some (.int .i64 t.key)
  | [], j, t, h => by simp at h
  | x :: l, 0, t, h => by
    simp at h
    subst h
    exact ⟨rfl, rfl, rfl, rfl⟩
  | x :: l, j + 1, t, h => by
    rw [List.getElem?_cons_succ] at h
    obtain ⟨h1, h2, h3, h4⟩ := tcs_get h
    have e : ∀ c, (tcs (x :: l))[(j + 1) * 4 + c]? = (tcs l)[j * 4 + c]? := fun c => by
      rw [tcs_cons, List.getElem?_append_right (by show 4 ≤ _; omega)]
      congr 1
      show (j + 1) * 4 + c - 4 = _
      omega
    exact ⟨by have := e 0; simp only [Nat.add_zero] at this; rw [this]; exact h1, by rw [e]; exact h2, by rw [e]; exact h3, by rw [e]; exact h4⟩
theorem tcs_one (l : List Ti) : ∀ u ∈ tcs l, u.oneCell' = true := fun u hu => by
  unfold tcs at hu
  obtain ⟨t, _, ht⟩ := List.mem_flatMap.1 hu
  unfold tc at ht
  simp at ht
  rcases ht with rfl | rfl | rfl | rfl <;> rfl

/-- A slice of ties, to be read. -/
def TV (w : World) (v : Value) (l : List Ti) : Prop := ∃ ad n cap, v = .slice ad n cap ∧ l.length = n ∧ n ≤ cap ∧ cap ≤ maxLen ∧ (ad = none → cap = 0) ∧ ∀ a, ad = some a → ∃ g o cs fr, a = ⟨g, o, none⟩ ∧ w.heap[g]? = some (.cells cs 62 fr) ∧ ∀ j u, (tcs l)[j]? = some u → cs[o + j]? = some u

/-- Blocks of ties stay. -/
def Kt (w w' : World) : Prop := ∀ b, Ty w b 62 → w'.heap[b]? = w.heap[b]?
theorem Kt.refl (w : World) : Kt w w := fun _ _ => rfl
theorem Kt.below {w w' : World} (h : Below w.heap.size w w') : Kt w w' := fun b hb => h.block b hb.lt
theorem Kt.trans {a b c : World} (h : Kt a b) (k : Kt b c) : Kt a c := fun x hx => (k x (hx.of (h x hx))).trans (h x hx)
theorem Kt.grown {w w' : World} {base n size : Nat} {e : TypeId} {v : Value} {xs : List Value} (ho : w.ownsRow base e size v n xs) (hne : e ≠ 62) (hg : w.grownBy w' v.ownBlock) : Kt w w' := fun b hb =>
  hg.block b hb.lt (fun q => hne ((row_ty ho q.symm).uniq hb))
theorem Kt.fresh {w w' : World} {row : Option Nat} (hg : w.grownBy w' row) (hr : ∀ k, row = some k → ¬ Ty w k 62) : Kt w w' := fun b hb => hg.block b hb.lt (fun q => hr b q.symm hb)

theorem TV.kt {w w' : World} {v : Value} {l : List Ti} (h : TV w v l) (k : Kt w w') : TV w' v l := by
  obtain ⟨ad, n, cap, h1, h2, h3, h4, h5, h6⟩ := h
  refine ⟨ad, n, cap, h1, h2, h3, h4, h5, fun a e => ?_⟩
  obtain ⟨g, o, cs, fr, e1, e2, e3⟩ := h6 a e
  exact ⟨g, o, cs, fr, e1, (k g ⟨_, _, e2⟩).trans e2, e3⟩
theorem TV.below {w w' : World} {v : Value} {l : List Ti} (h : TV w v l) (hb : Below w.heap.size w w') : TV w' v l := h.kt (.below hb)

theorem tv_nil (w : World) : TV w (.slice none 0 0) [] := ⟨none, 0, 0, rfl, rfl, Nat.le_refl _, by unfold maxLen; omega, fun _ => rfl, fun a e => by cases e⟩

/-- The cells of a tie. -/
theorem TV.cells {w : World} {v : Value} {l : List Ti} (h : TV w v l) {j : Nat} {t : Ti} (hj : l[j]? = some t) : ∃ g o cap, v = .slice (some ⟨g, o, none⟩) l.length cap ∧ w.cell? ⟨g, o + j * 4, none⟩ = some (.int .i64 (t.e : Int)) ∧ w.cell? ⟨g, o + j * 4 + 1, none⟩ = some (.int .i64 (t.a : Int)) ∧ w.cell? ⟨g, o + j * 4 + 2, none⟩ = some (.int .i64 (t.b : Int)) ∧ w.cell? ⟨g, o + j * 4 + 3, none⟩ = some (.int .i64 t.key) := by
  obtain ⟨ad, n, cap, rfl, rfl, h3, h4, h5, h6⟩ := h
  have hjl := (List.getElem?_eq_some_iff.1 hj).1
  cases ad with
  | none => have := h5 rfl; omega
  | some a =>
    obtain ⟨g, o, cs, fr, rfl, e2, e3⟩ := h6 a rfl
    obtain ⟨t0, t1, t2, t3⟩ := tcs_get hj
    have key : ∀ c u, (tcs l)[c]? = some u → w.cell? ⟨g, o + c, none⟩ = some u := fun c u hu => by
      unfold World.cell?
      rw [e2]
      exact e3 c u hu
    exact ⟨g, o, cap, rfl, key _ _ t0, by rw [Nat.add_assoc]; exact key _ _ t1, by rw [Nat.add_assoc]; exact key _ _ t2, by rw [Nat.add_assoc]; exact key _ _ t3⟩

theorem TV.form {w : World} {v : Value} {l : List Ti} (h : TV w v l) : ∃ ad cap, v = .slice ad l.length cap := by
  obtain ⟨ad, n, cap, rfl, rfl, _⟩ := h
  exact ⟨ad, cap, rfl⟩

/-- What is one's own can be read. -/
theorem tv_own {w : World} {base : Nat} {v : Value} {l : List Ti} (h : w.ownsRow base 62 4 v l.length (tcs l)) : TV w v l := by
  rcases h.2 with ⟨rfl, h0⟩ | ⟨g, cap, cur, rfl, h1, h2, h3, h4, h5, h6⟩
  · obtain rfl := List.eq_nil_of_length_eq_zero h0
    exact tv_nil w
  · refine ⟨some ⟨g, 0, none⟩, l.length, cap, rfl, rfl, h3, h4, (fun e => by cases e), fun a e => ?_⟩
    cases e
    refine ⟨g, 0, cur, _, rfl, h2, fun j u hu => ?_⟩
    have hj := (List.getElem?_eq_some_iff.1 hu).1
    rw [tcs_length] at hj
    have h7 : (cur.toList.take (l.length * 4))[j]? = some u := by rw [h6]; exact hu
    rw [List.getElem?_take, if_pos hj] at h7
    rw [Nat.zero_add]
    simpa using h7

theorem addr_add (g o j : Nat) : (⟨g, o, none⟩ : Addr).add j = ⟨g, o + j, none⟩ := by unfold Addr.add; split <;> simp_all

theorem step_append_own {P : Program} {ops : Array Oper} {o : Oper} {a : Act} {w : World} {K : Act → World → Prop} {Q : Exit → Act → World → Prop} {E : Prop}
    (hg : o.guard = none) (s x : Operand) (t : TypeId) (hop : o.op = Op.call { callee := Callee.builtin Builtin.append, args := #[s, x], argTypes := #[t, t] })
    (base : Nat) (e : TypeId) (i : TypeInfo) (z : Value) (size bytes : Nat) (h1 : P.underlying t = some (.slice e)) (h2 : P.info? e = some i) (h3 : i.zero = some z) (h4 : i.size = size) (h5 : i.bytes = bytes) (h6 : z.cells.size = size) (h7 : 0 < size)
    (v : Value) (n : Nat) (xs : List Value) (hs : a.eval s = v) (hown : w.ownsRow base e size v n xs)
    (ad : Addr) (m c : Nat) (news : List Value) (hx : a.eval x = .slice (some ad) m c) (hn : news.length = m * size) (hc : ∀ j u, news[j]? = some u → w.cell? (ad.add j) = some u) (h1c : ∀ u ∈ news, u.oneCell' = true)
    (b1 : n + m ≤ maxLen) (b2 : (n + m) * bytes ≤ 140737488355328) (hb : base ≤ w.heap.size)
    (hK : ∀ v' w', w'.ownsRow base e size v' (n + m) (xs ++ news) → w.grownBy w' v.ownBlock → K (a.put o.dst v') w') :
    if Region.wanted o (yielded ops a.tmps) = true then Oper.wp P o a w K Q else E := by
  have hw : Region.wanted o (yielded ops a.tmps) = true := by simp [Region.wanted, hg]
  rw [if_pos hw]
  obtain ⟨v', w', hrun, r1, r2, _⟩ := run_append_own (P := P) w base t o.type e i z size bytes h1 h2 h3 h4 h5 h6 h7 v n xs hown ad m c news hn hc h1c b1 b2 hb
  unfold Oper.wp
  simp [execOp, hop, resolve, invoke, builtin, hs, hx, hrun, Result.andThen]
  exact hK v' w' r1 r2

/-- append of nothing onto a row of the call's own, as one step of a region that draws. -/
theorem step_append_none {P : Program} {ops : Array Oper} {o : Oper} {a : Act} {w : World} {K : Act → World → Prop} {Q : Exit → Act → World → Prop} {E : Prop}
    (hg : o.guard = none) (s x : Operand) (t : TypeId) (hop : o.op = Op.call { callee := Callee.builtin Builtin.append, args := #[s, x], argTypes := #[t, t] })
    (base : Nat) (e : TypeId) (i : TypeInfo) (size : Nat) (h1 : P.underlying t = some (.slice e)) (h2 : P.info? e = some i)
    (v : Value) (n : Nat) (xs : List Value) (hs : a.eval s = v) (hown : w.ownsRow base e size v n xs) (hx : a.eval x = .slice none 0 0)
    (hK : K (a.put o.dst v) w) :
    if Region.wanted o (yielded ops a.tmps) = true then Oper.wp P o a w K Q else E := by
  have hw : Region.wanted o (yielded ops a.tmps) = true := by simp [Region.wanted, hg]
  rw [if_pos hw]
  have hrun := run_append_owned_none (P := P) (w := w) base t o.type e i size h1 h2 v n xs hown
  unfold Oper.wp
  simp [execOp, hop, resolve, invoke, builtin, hs, hx, hrun, Result.andThen]
  exact hK

/-- append of ties onto ties of one's own. -/
theorem step_ties {ops : Array Oper} {o : Oper} {a : Act} {w : World} {K : Act → World → Prop} {Q : Exit → Act → World → Prop} {E : Prop}
    (hg : o.guard = none) (s x : Operand) (hop : o.op = Op.call { callee := Callee.builtin Builtin.append, args := #[s, x], argTypes := #[30, 30] })
    (base : Nat) (hb : base ≤ w.heap.size) (v : Value) (m : List Ti) (hs : a.eval s = v) (hown : w.ownsRow base 62 4 v m.length (tcs m)) (y : Value) (l : List Ti) (hx : a.eval x = y) (hy : TV w y l) (hn : m.length + l.length ≤ 100000)
    (hK : ∀ v' w', w'.ownsRow base 62 4 v' (m ++ l).length (tcs (m ++ l)) → w.grownBy w' v.ownBlock → K (a.put o.dst v') w') :
    if Region.wanted o (yielded ops a.tmps) = true then Oper.wp Tryz.prog o a w K Q else E := by
  obtain ⟨j0, hjf, hy0, hy1, hy2⟩ := info_parts infoTie
  obtain ⟨ad, n, cap, rfl, hlen, hmc, hcap, hnil, hcell⟩ := hy
  cases ad with
  | none =>
    obtain rfl : cap = 0 := hnil rfl
    obtain rfl : n = 0 := by omega
    obtain rfl : l = [] := List.eq_nil_of_length_eq_zero hlen
    refine step_append_none hg s x 30 hop base 62 j0 4 Tryz.underlying30 hjf v _ _ hs hown hx ?_
    exact hK v w (by simpa using hown) ⟨rfl, rfl, rfl, Nat.le_refl _, fun _ _ _ => rfl⟩
  | some aa =>
    obtain ⟨g, of, cs, fr, rfl, e2, e3⟩ := hcell _ rfl
    refine step_append_own hg s x 30 hop base 62 j0 _ 4 32 Tryz.underlying30 hjf hy0 hy1 hy2 rfl (by decide) v _ _ hs hown ⟨g, of, none⟩ n cap (tcs l) hx (by rw [tcs_length]; omega) (fun j u hu => ?_) (tcs_one _) (by unfold maxLen; omega) (by omega) hb ?_
    · rw [addr_add]
      unfold World.cell?
      rw [e2]
      exact e3 j u hu
    · intro v1 x1 ho hgr
      rw [← hlen, ← List.length_append, ← tcs_append] at ho
      exact hK v1 x1 ho hgr

/-- A slice of one tie, new. -/
theorem tv_lit (w : World) (t : Ti) : TV (w.alloc (.cells #[.int .i64 (t.e : Int), .int .i64 (t.a : Int), .int .i64 (t.b : Int), .int .i64 t.key] 62)) (.slice (some ⟨w.heap.size, 0, none⟩) 1 1) [t] := by
  have hn := heap_alloc_new w (.cells #[.int .i64 (t.e : Int), .int .i64 (t.a : Int), .int .i64 (t.b : Int), .int .i64 t.key] 62)
  refine ⟨_, 1, 1, rfl, rfl, Nat.le_refl _, by unfold maxLen; omega, (fun e => by cases e), fun a e => ?_⟩
  cases e
  refine ⟨_, 0, _, _, rfl, hn, fun j u hu => ?_⟩
  rw [Nat.zero_add]
  simpa [tcs, tc] using hu

end Go.Proofs.YtdmkbcbgjdmgdaaGreatDoor.Wd

namespace Go.Proofs.YtdmkbcbgjdmgdaaGreatDoor.Wd
open Go.RowKit
set_option linter.unusedVariables false

def ncs (l : List Nat) : List Value := l.map (fun x : Nat => .int .i64 (x : Int))
@[simp] theorem ncs_length (l : List Nat) : (ncs l).length = l.length := by simp [ncs]
theorem ncs_append (a b : List Nat) : ncs (a ++ b) = ncs a ++ ncs b := by simp [ncs]
theorem ncs_get {l : List Nat} {j x : Nat} (h : l[j]? = some x) : (ncs l)[j]? = some (.int .i64 (x : Int)) := by simp [ncs, h]

theorem nodup_len : ∀ (F : Nat) (l : List Nat), l.Nodup → (∀ z, z ∈ l → z < F) → l.length ≤ F
  | 0, l, _, h => by
    cases l with
    | nil => simp
    | cons a l => have := h a (by simp); omega
  | F + 1, l, hn, h => by
    by_cases q : F ∈ l
    · have h1 := nodup_len F (l.erase F) (hn.erase F) (fun z hz => by
        have h2 := (List.Nodup.mem_erase_iff hn).1 hz
        have := h z h2.2
        omega)
      rw [List.length_erase_of_mem q] at h1
      omega
    · have := nodup_len F l hn (fun z hz => by
        have := h z hz
        have : z ≠ F := fun e => q (e ▸ hz)
        omega)
      omega

theorem _root_.Go.Proofs.YtdmkbcbgjdmgdaaGreatDoor.FR.len {fc A B : Nat → Nat} {Td : Nat → Prop} {f g : Nat} {r ls : List Nat} (h : FR fc A B Td f g r ls) : ls.length = r.length + 1 := by
  induction h with
  | nil => rfl
  | cons _ _ _ ih => simp [ih]

/-- The tie at a place. -/
def tieAt (ts : List Ti) (k : Nat) : Ti := ts.getD k ⟨0, 0, 0, 0⟩
theorem tieAt_some {ts : List Ti} {k : Nat} {t : Ti} (h : ts[k]? = some t) : tieAt ts k = t := by simp [tieAt, List.getD, h]

abbrev tA (ts : List Ti) (k : Nat) : Nat := (tieAt ts k).a
abbrev tB (ts : List Ti) (k : Nat) : Nat := (tieAt ts k).b

/-- Where the search stands. -/
structure Rs (w : World) (F : Nat) (ts : List Ti) (fi : Nat → Nat) (s0 : Nat) (sv rv av : Value) (all : List Nat) (rd : Nat → List Nat) (y : World) : Prop where
  bs : Bs fi (tA ts) (tB ts) (· < ts.length) s0 all rd
  lt : ∀ z, z ∈ all → z < F
  seen : y.ownsRow w.heap.size 4 1 sv F (bl F (marks all))
  roads : ∃ us : List Value, y.ownsRow w.heap.size 30 1 rv F us ∧ (∀ i, i ∈ all → ∃ u, us[i]? = some u ∧ TV y u ((rd i).map (tieAt ts))) ∧ ∀ i, i < F → i ∉ all → us[i]? = some (.slice none 0 0)
  allr : y.ownsRow w.heap.size 3 1 av all.length (ncs all)
  bel : Below w.heap.size w y

section
variable {w y y' : World} {F s0 : Nat} {ts : List Ti} {fi : Nat → Nat} {sv rv av : Value} {all : List Nat} {rd : Nat → List Nat}

theorem Rs.len (h : Rs w F ts fi s0 sv rv av all rd y) : all.length ≤ F := nodup_len F all h.bs.nd h.lt

theorem Rs.more (h : Rs w F ts fi s0 sv rv av all rd y) (hb : Below y.heap.size y y') : Rs w F ts fi s0 sv rv av all rd y' := by
  obtain ⟨us, h1, h2, h3⟩ := h.roads
  exact ⟨h.bs, h.lt, own_more h.seen hb, ⟨us, own_more h1 hb, fun i hi => by obtain ⟨u, e1, e2⟩ := h2 i hi; exact ⟨u, e1, e2.below hb⟩, h3⟩, own_more h.allr hb, h.bel.trans (hb.mono h.bel.size)⟩

theorem Rs.rlen (h : Rs w F ts fi s0 sv rv av all rd y) {x : Nat} (hx : x ∈ all) : (rd x).length ≤ F := by
  obtain ⟨ls, h1, h2, h3⟩ := h.bs.rt x hx
  have := nodup_len F ls h2 (fun z hz => h.lt z (h3 z hz))
  have := h1.len
  omega

end

/-- A face that is new, its mark laid: what can be read then. -/
theorem Rs.mid {w y y1 : World} {F s0 : Nat} {ts : List Ti} {fi : Nat → Nat} {av : Value} {all : List Nat} {rd : Nat → List Nat} {x f P S : Nat} (h : Rs w F ts fi s0 (.slice (some ⟨S, 0, none⟩) F F) (.slice (some ⟨P, 0, none⟩) F F) av all rd y) (hx : x ∈ all) (hf : f ∉ all) (hfF : f < F)
    (e1 : y.setCell ⟨S, f, none⟩ (.bool true) = y1) : ∃ u, Below w.heap.size w y1 ∧ ∀ y2, Below y1.heap.size y1 y2 → y2.cell? ⟨P, x, none⟩ = some u ∧ TV y2 u ((rd x).map (tieAt ts)) ∧ y2.cell? ⟨P, f, none⟩ = some (.slice none 0 0) ∧ y2.frozen? ⟨P, f, none⟩ = false := by
  obtain ⟨us, h1, h2, h3⟩ := h.roads
  obtain ⟨s1, s2⟩ := h.seen.stored f (.bool true)
  rw [e1] at s2
  have o1 := h1.kept s2 (own_apart h1 h.seen (by decide))
  have k1 : Kt y y1 := Kt.grown h.seen (by decide) s2
  have hb1 : Below w.heap.size w y1 := below_grown h.bel (Nat.le_refl _) h.seen (Nat.le_refl _) s2
  obtain ⟨u, u1, u2⟩ := h2 x hx
  have hxF := h.lt x hx
  refine ⟨u, hb1, fun y2 b2 => ?_⟩
  have o2 := own_more o1 b2
  exact ⟨by rw [o2.cellAt x (by omega)]; exact u1, (u2.kt k1).below b2, by rw [o2.cellAt f (by omega)]; exact h3 f hfF hf, o2.frozenAt f⟩

/-- A face that is new: its mark, its road, its place. -/
theorem Rs.step {w y y1 y2 y3 : World} {F s0 : Nat} {ts : List Ti} {fi : Nat → Nat} {av v2 : Value} {all : List Nat} {rd : Nat → List Nat} {x f k P S : Nat} (h : Rs w F ts fi s0 (.slice (some ⟨S, 0, none⟩) F F) (.slice (some ⟨P, 0, none⟩) F F) av all rd y) (hx : x ∈ all) (hf : f ∉ all) (hfF : f < F) (hk : k < ts.length) (he : (fi (tA ts k) = x ∧ fi (tB ts k) = f) ∨ (fi (tB ts k) = x ∧ fi (tA ts k) = f))
    (e1 : y.setCell ⟨S, f, none⟩ (.bool true) = y1) (b2 : Below y1.heap.size y1 y2) (ht : TV y2 v2 ((rd x ++ [k]).map (tieAt ts))) (e3 : y2.setCell ⟨P, f, none⟩ v2 = y3) : Below w.heap.size w y3 ∧ (∀ y5, Below y3.heap.size y3 y5 → y5.ownsRow w.heap.size 3 1 av all.length (ncs all)) ∧ ∀ y5, Below y3.heap.size y3 y5 → ∀ y4 av', y5.grownBy y4 av.ownBlock → y4.ownsRow w.heap.size 3 1 av' (all.length + 1) (ncs all ++ [.int .i64 (f : Int)]) → Rs w F ts fi s0 (.slice (some ⟨S, 0, none⟩) F F) (.slice (some ⟨P, 0, none⟩) F F) av' (all ++ [f]) (fun z => if z = f then rd x ++ [k] else rd z) y4 := by
  obtain ⟨us, h1, h2, h3⟩ := h.roads
  obtain ⟨s1, s2⟩ := h.seen.stored f (.bool true)
  rw [bl_set, marks_on, e1] at s1
  rw [e1] at s2
  have o1 := h1.kept s2 (own_apart h1 h.seen (by decide))
  have o2 := own_more o1 b2
  have k1 : Kt y y1 := Kt.grown h.seen (by decide) s2
  have k2 : Kt y y2 := k1.trans (.below b2)
  obtain ⟨r1, r2⟩ := o2.stored f v2
  rw [e3] at r1 r2
  have k3 : Kt y2 y3 := Kt.grown o2 (by decide) r2
  have a1 := h.allr.kept s2 (own_apart h.allr h.seen (by decide))
  have a2 := own_more a1 b2
  have a3 := a2.kept r2 (own_apart a2 o2 (by decide))
  have q1 := own_more s1 b2
  have q3 := q1.kept r2 (own_apart q1 o2 (by decide))
  have hb1 : Below w.heap.size w y1 := below_grown h.bel (Nat.le_refl _) h.seen (Nat.le_refl _) s2
  have hb2 : Below w.heap.size w y2 := hb1.trans (b2.mono hb1.size)
  have hb3 : Below w.heap.size w y3 := below_grown hb2 (Nat.le_refl _) o2 (Nat.le_refl _) r2
  refine ⟨hb3, fun y5 b5 => own_more a3 b5, fun y5 b5 y4 av' hg ho => ?_⟩
  have a5 := own_more a3 b5
  have q5 := own_more q3 b5
  have r5 := own_more r1 b5
  have hb5 : Below w.heap.size w y5 := hb3.trans (b5.mono hb3.size)
  have k5 : Kt y2 y5 := k3.trans (.below b5)
  have k4 : Kt y5 y4 := Kt.grown a5 (by decide) hg
  refine ⟨h.bs.step hx hf hk he, fun z hz => ?_, q5.kept hg (own_apart q5 a5 (by decide)), ⟨_, r5.kept hg (own_apart r5 a5 (by decide)), fun i hi => ?_, fun i hi hn => ?_⟩, ?_, below_grown hb5 (Nat.le_refl _) a5 (Nat.le_refl _) hg⟩
  · rcases List.mem_append.1 hz with q | q
    · exact h.lt z q
    · simp at q; subst q; exact hfF
  · have hfl : f < us.length := by
      have := List.getElem?_eq_some_iff.1 (h3 f hfF hf)
      exact this.1
    by_cases e : i = f
    · subst e
      refine ⟨v2, by rw [List.getElem?_set, if_pos rfl, if_pos hfl], ?_⟩
      rw [if_pos rfl]
      exact (ht.kt k5).kt k4
    · have hi' : i ∈ all := by
        rcases List.mem_append.1 hi with q | q
        · exact q
        · simp at q; exact absurd q e
      obtain ⟨u, u1, u2⟩ := h2 i hi'
      refine ⟨u, by rw [List.getElem?_set, if_neg (fun q => e q.symm)]; exact u1, ?_⟩
      rw [if_neg e]
      exact ((u2.kt k2).kt k5).kt k4
  · have hne : i ≠ f := fun e => hn (List.mem_append.2 (.inr (by simp [e])))
    rw [List.getElem?_set, if_neg (fun q => hne q.symm)]
    exact h3 i hi (fun q => hn (List.mem_append.2 (.inl q)))
  · rw [ncs_append, List.length_append]
    exact ho

theorem one_new (w : World) (u : Value) (t : TypeId) : ∀ j x, ([u] : List Value)[j]? = some x → (w.alloc (.cells #[u] t)).cell? ((⟨w.heap.size, 0, none⟩ : Addr).add j) = some x := by
  intro j x hx
  rw [addr_add, Nat.zero_add]
  have hn := heap_alloc_new w (.cells #[u] t)
  unfold World.cell?
  rw [hn]
  simpa using hx

theorem made_nil (n : Nat) : (madeCells (Value.cells (.slice none 0 0)) (n * 1)).toList = List.replicate n (.slice none 0 0) := by
  rw [Nat.mul_one]
  show (madeCells #[Value.slice none 0 0] n).toList = _
  exact toList_madeCells_one _ _

/-- What Road answers. -/
def RdIs (ts : List Ti) (fi : Nat → Nat) (a b : Nat) (w' : World) (rv : Value) (s : Bool) : Prop :=
  (s = true ↔ ∃ r ls, FR fi (tA ts) (tB ts) (· < ts.length) (fi a) (fi b) r ls) ∧ (s = true → ∃ r ls, FR fi (tA ts) (tB ts) (· < ts.length) (fi a) (fi b) r ls ∧ ls.Nodup ∧ TV w' rv (r.map (tieAt ts))) ∧ (s = false → rv = .slice none 0 0)
end Go.Proofs.YtdmkbcbgjdmgdaaGreatDoor.Wd

namespace Go.Proofs.YtdmkbcbgjdmgdaaGreatDoor
open Go.RowKit
set_option linter.unusedVariables false

/-- Whatever comes up, the condition holds behind it, unless it is number k. -/
def wpAnyK (P : Program) (md : Region.Mode) (ops : Array Oper) (Q : Exit → Act → World → Prop) (S : World → Prop) (k : Nat) : Nat → Array Bool → Act → World → Prop
  | 0, li, a, w => Region.ready md ops li = [] ∧ Q .normal a w
  | f + 1, li, a, w => (Region.ready md ops li = [] → Q .normal a w) ∧ ∀ i, i ∈ Region.ready md ops li → wpOp P ops Q i (fun b x => (i = k ∨ S x) ∧ wpAnyK P md ops Q S k f (li.setIfInBounds i true) b x) a w

/-- What is listed has all listed that it waits for. -/
def clB (md : Region.Mode) (ops : Array Oper) (li : Array Bool) : Bool := (List.range ops.size).all fun j => !(li.getD j false) || ((ops[j]?).map (fun o => o.after.all fun e => !(Region.binds md e) || li.getD e.on false)).getD true

/-- m waits for i, by steps. -/
def wtB (md : Region.Mode) (ops : Array Oper) : Nat → Nat → Nat → Bool
  | 0, _, _ => false
  | n + 1, m, i => ((ops[m]?).map (fun o => o.after.any fun e => Region.binds md e && (e.on == i || wtB md ops n e.on i))).getD false

section
variable {P : Program} {md : Region.Mode} {ops : Array Oper} {Q : Exit → Act → World → Prop} {S : World → Prop} {k : Nat}

/-- The same, said in words. -/
def Cl (md : Region.Mode) (ops : Array Oper) (li : Array Bool) : Prop := ∀ j o, li.getD j false = true → ops[j]? = some o → ∀ e, e ∈ o.after → Region.binds md e = true → li.getD e.on false = true

theorem cl_of {li : Array Bool} (h : clB md ops li = true) : Cl md ops li := fun j o hj ho e he hb => by
  unfold clB at h
  rw [List.all_eq_true] at h
  have hlt : j < ops.size := (Array.getElem?_eq_some_iff.1 ho).1
  have h1 := h j (List.mem_range.2 hlt)
  rw [hj, ho] at h1
  simp only [Bool.not_true, Bool.false_or, Option.map_some, Option.getD_some] at h1
  obtain ⟨t, ht, rfl⟩ := Array.mem_iff_getElem.1 he
  have h2 := Array.all_eq_true.1 h1 t ht
  rw [hb] at h2
  simpa using h2

theorem Cl.step {li : Array Bool} (h : Cl md ops li) {j : Nat} (hj : j ∈ Region.ready md ops li) : Cl md ops (li.setIfInBounds j true) := fun i o hi ho e he hb => by
  refine getD_set_true ?_
  by_cases q : j = i
  · subst q
    obtain ⟨_, o', ho', hall⟩ := mem_ready.1 hj
    rw [ho] at ho'
    cases ho'
    exact hall e he hb
  · rw [getD_set_ne false q] at hi
    exact h i o hi ho e he hb

theorem wt_list {li : Array Bool} (h : Cl md ops li) {i : Nat} : ∀ n m o, ops[m]? = some o → (∀ e, e ∈ o.after → Region.binds md e = true → li.getD e.on false = true) → wtB md ops n m i = true → li.getD i false = true
  | 0, m, o, _, _, hw => by simp [wtB] at hw
  | n + 1, m, o, ho, hall, hw => by
    unfold wtB at hw
    rw [ho] at hw
    simp only [Option.map_some, Option.getD_some] at hw
    obtain ⟨t, ht, h1⟩ := Array.any_eq_true.1 hw
    simp only [Bool.and_eq_true, Bool.or_eq_true, beq_iff_eq] at h1
    obtain ⟨hb, h2⟩ := h1
    have hl := hall _ (Array.getElem_mem ht) hb
    rcases h2 with rfl | h2
    · exact hl
    · cases hq : ops[(o.after[t]).on]? with
      | none =>
        cases n with
        | zero => simp [wtB] at h2
        | succ n => unfold wtB at h2; rw [hq] at h2; simp at h2
      | some o2 => exact wt_list h n _ o2 hq (fun e he hb => h _ o2 hl hq e he hb) h2

theorem any_of_K : ∀ (f : Nat) (li : Array Bool) (a : Act) (w : World), wpAnyK P md ops Q S k f li a w → wpAny P md ops Q f li a w
  | 0, _, _, _, h => h
  | f + 1, li, a, w, h => ⟨h.1, fun i hi => wpOp_mono (fun b x hx => any_of_K f _ b x hx.2) (h.2 i hi)⟩

theorem takeK_go {i n : Nat} {oi : Oper} {v : Value} (hi : ops[i]? = some oi) (hsel : ∀ (j : Nat) (o : Oper) cs b, ops[j]? = some o → o.op ≠ .select cs b) (hQ : ∀ c a w, Q (.panic c) (a.put oi.dst v) w → Q (.panic c) a w) (hwt : wtB md ops n k i = true) :
    ∀ (f : Nat) (li : Array Bool) (a : Act) (w : World), (∀ j oj, ops[j]? = some oj → j ≠ i → li.getD j true = false → (∀ e ∈ oj.after, Region.binds md e = true → e.on ≠ i) → oi.apart ops oj = true) →
      Cl md ops li → i ∈ Region.ready md ops li → YieldsIf P ops S oi v a → S w → wpAnyK P md ops Q S k f (li.setIfInBounds i true) (a.put oi.dst v) w → wpAnyK P md ops Q S k (f + 1) li a w
  | f, li, a, w, hfree, hcl, hr, hy, hS, H => by
    have hun : li.getD i true = false := (mem_ready.1 hr).1
    have hun' : li.getD i false = false := by
      rcases Nat.lt_or_ge i li.size with h' | h'
      · simp [h'] at hun ⊢
        exact hun
      · simp [Array.getElem?_eq_none h']
    refine ⟨fun h0 => absurd hr (by rw [h0]; simp), fun j hj => ?_⟩
    by_cases hji : j = i
    · subst hji
      exact hy.wpOp hi hS ⟨.inr hS, H⟩
    have hj' := ready_mono hj hji
    obtain ⟨hjun, oj, hoj, hall⟩ := mem_ready.1 hj
    have hjk : j ≠ k := fun e => by
      subst e
      have := wt_list hcl n j oj hoj hall hwt
      rw [hun'] at this
      cases this
    have hno : ∀ e ∈ oj.after, Region.binds md e = true → e.on ≠ i := fun e he hb hq => by
      have := hall e he hb
      rw [hq, hun'] at this
      cases this
    cases f with
    | zero =>
      rw [H.1] at hj'
      cases hj'
    | succ f =>
      have h2 := wpOp_putIf hoj (hfree j oj hoj hji hjun hno) (fun cs b => hsel i oi cs b hi) (fun cs b => hsel j oj cs b hoj) hQ hy (H.2 j hj')
      refine wpOp_mono (fun b x hx => ?_) h2
      obtain ⟨hy2, hS2, H2⟩ := hx
      have hS3 := hS2.resolve_left hjk
      rw [Array.setIfInBounds_comm _ _ (Ne.symm hji)] at H2
      refine ⟨.inr hS3, takeK_go hi hsel hQ hwt f (li.setIfInBounds j true) b x (fun m om hm hmi hmun hmno => ?_) (hcl.step hj) (ready_mono hr (Ne.symm hji)) hy2 hS3 H2⟩
      refine hfree m om hm hmi ?_ hmno
      by_cases q : j = m
      · subst q; exact hjun
      · rw [getD_set_ne true q] at hmun; exact hmun

/-- One operation that yields in every world of the condition is taken first. -/
theorem takeK {i : Nat} {v : Value} {f : Nat} {li : Array Bool} {a a' : Act} {w : World} (oi : Oper) (hi : ops[i]? = some oi) (hcl : clB md ops li = true) (hwt : wtB md ops ops.size k i = true)
    (hs : Region.noSelect ops = true) (hf : Region.free md ops li i = true) (hr : (Region.ready md ops li).contains i = true)
    (hQ : ∀ c a w, Q (.panic c) (a.put oi.dst v) w → Q (.panic c) a w) (hw : Region.wanted oi (yielded ops a.tmps) = true) (hy : ∀ w, S w → (execOp a.eval oi).run P w = .ok (.value v) w) (hS : S w) (ha : a.put oi.dst v = a')
    (h : wpAnyK P md ops Q S k f (li.setIfInBounds i true) a' w) : wpAnyK P md ops Q S k (f + 1) li a w := by
  subst ha
  exact takeK_go hi (Region.noSelect_spec hs) hQ hwt f li a w (Region.free_spec hi hf) (cl_of hcl) (by simpa using hr) (.inl ⟨hw, hy⟩) hS h

theorem readyK {rs : List Nat} {f : Nat} {li : Array Bool} {a : Act} {w : World} (hr : Region.ready md ops li = rs) (hne : rs ≠ [])
    (h : ∀ i, i ∈ rs → wpOp P ops Q i (fun b x => (i = k ∨ S x) ∧ wpAnyK P md ops Q S k f (li.setIfInBounds i true) b x) a w) : wpAnyK P md ops Q S k (f + 1) li a w :=
  ⟨fun h0 => absurd (hr ▸ h0) hne, hr ▸ h⟩

theorem doneK {li : Array Bool} {a : Act} {w : World} (hr : Region.ready md ops li = []) (h : Q .normal a w) : ∀ f, wpAnyK P md ops Q S k f li a w
  | 0 => ⟨hr, h⟩
  | _ + 1 => ⟨fun _ => h, by rw [hr]; simp⟩

theorem beginK {id : Nat} {a : Act} {w : World} (hm : P.follows .mixedOrders = true) (hS : S w.drew) (h : S w.drew → wpAnyK P .any ops Q S k ops.size (Array.replicate ops.size false) a w.drew) : (Code.region id ops true).wp P Q a w :=
  wp_region_any hm (any_of_K _ _ _ _ (h hS))

/-- One that comes up, the way on kept shut. -/
theorem oneK {f : Nat} {li : Array Bool} {a : Act} {w : World} {i : Nat} {o : Oper} (ho : ops[i]? = some o)
    (h : ∀ K : Act → World → Prop, Shut (∀ b x, (i = k ∨ S x) → (wpAnyK P md ops Q S k f (li.setIfInBounds i true) b x) → K b x) → if Region.wanted o (yielded ops a.tmps) = true then Oper.wp P o a w K Q else K (a.put o.dst undef) w) :
    wpOp P ops Q i (fun b x => (i = k ∨ S x) ∧ wpAnyK P md ops Q S k f (li.setIfInBounds i true) b x) a w :=
  wpOp_step ho (fun K hK => h K (fun b x h1 h2 => hK b x ⟨h1, h2⟩))
end

end Go.Proofs.YtdmkbcbgjdmgdaaGreatDoor
