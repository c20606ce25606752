/- A map of counts by vertices, told by plain functions: what it holds, a look-up, a store, how many, gone over. Where a dart that is laid stands. sphere's small functions: room, ends, bare, own, sum. sphere's joined: the vertices, united by the edges. -/
import Derived.Test.YtboafgimjadboaaGreatDoorBface
import Derived.Test.YtboafgimjadboaaGreatDoorBlink
import Derived.Test.YtboafgimjadboaaGreatDoorBput
import Derived.Maps.Ext
import Derived.Maps.RangeWalk
import Derived.Maps.OwnSet
namespace Go.Proofs.YtboafgimjadboaaGreatDoor
open Go.RowKit Go.Maps
set_option linter.unusedVariables false

abbrev Qd := Int × Int × Int × Int
def mkC (q : Qd) : Value := .agg #[.int .i64 q.1, .int .i64 q.2.1, .int .i64 q.2.2.1, .int .i64 q.2.2.2]
def cEl (v : Value) : Option (DataW Qd × List MemPlace) :=
  match v with
  | .agg cs => match cs.toList with
    | [.int .i64 a, .int .i64 b, .int .i64 c, .int .i64 d] => some (.held (a, b, c, d), [])
    | _ => none
  | _ => none
theorem cEl_mk (q : Qd) : cEl (mkC q) = some (.held q, []) := rfl
theorem cEl_inv {v : Value} {y : DataW Qd × List MemPlace} (h : cEl v = some y) : ∃ q, v = mkC q ∧ y = (.held q, []) := by
  unfold cEl at h
  split at h
  · rename_i cs
    split at h
    · rename_i a b c d e
      cases h
      refine ⟨(a, b, c, d), ?_, rfl⟩
      unfold mkC
      rw [← e]
    · cases h
  · cases h

def ky (v : Nat) : Lit := .int .i64 (v : Int)
theorem ky_inj {a b : Nat} (h : ky a = ky b) : a = b := by
  unfold ky at h
  injection h with _ h
  exact Int.ofNat_inj.1 h
theorem intKeyed : Keyed Tryz.prog 3 := int_keyed Tryz.underlying3
theorem ky_of {v : Nat} (hv : v ≤ 1073741824) : keyOf Tryz.prog 3 (.int .i64 (v : Int)) = some (ky v) := keyOf_int_mk Tryz.underlying3 (WalkArith.wf_i64 (by omega))
theorem zeroC (w : World) : (zeroValue 172).run Tryz.prog w = .ok (mkC (0, 0, 0, 0)) w := by kernel_rfl

/-- What the map's datum says. -/
structure PD (V : Nat) (dom : Nat → Bool) (g : Nat → Qd) (D : DataW Qd) : Prop where
  has : ∀ v, v < V → Maps.has D (ky v) = dom v
  at_ : ∀ v, v < V → ∀ z, dom v = true → D.atKey (ky v) z = .held (g v)
  zero : ∀ v, v < V → dom v = false → g v = (0, 0, 0, 0)
  key : ∀ k, Maps.has D k = true → ∃ v, v < V ∧ k = ky v
  size : Maps.size D = (List.range V).countP dom

/-- Block mb is the map. -/
def PM (w : World) (mb V : Nat) (dom : Nat → Bool) (g : Nat → Qd) : Prop := ∃ D, w.ownsMap Tryz.prog 3 cEl mb (Maps.size D) D ∧ PD V dom g D

theorem owns_size {w : World} {b n : Nat} {D : DataW Qd} (h : w.ownsMap Tryz.prog 3 cEl b n D) : w.ownsMap Tryz.prog 3 cEl b (Maps.size D) D := by
  obtain ⟨es, clock, hb, F, hs, hD⟩ := h
  refine ⟨es, clock, hb, F, ?_, hD⟩
  rw [hD]
  show es.size ≤ List.length _
  rw [length_read]
  exact Nat.le_refl _

theorem PM.kept {w w' : World} {row : Option Nat} {mb V : Nat} {dom : Nat → Bool} {g : Nat → Qd} (h : PM w mb V dom g) (hg : w.grownBy w' row) (hr : some mb ≠ row) : PM w' mb V dom g := by
  obtain ⟨D, h1, h2⟩ := h
  exact ⟨D, h1.kept hg hr, h2⟩

theorem PM.lt {w : World} {mb V : Nat} {dom : Nat → Bool} {g : Nat → Qd} (h : PM w mb V dom g) : mb < w.heap.size := by
  obtain ⟨D, h1, h2⟩ := h
  exact h1.lt

theorem PM.more {w w' : World} {mb V : Nat} {dom : Nat → Bool} {g : Nat → Qd} (h : PM w mb V dom g) (hb : Below w.heap.size w w') : PM w' mb V dom g := by
  have hlt := h.lt
  obtain ⟨D, ⟨es, clock, hb', F, hs, hD⟩, h2⟩ := h
  exact ⟨D, ⟨es, clock, (hb.block mb hlt).trans hb', F, hs, hD⟩, h2⟩

theorem PM.congr {w : World} {mb V : Nat} {dom dom' : Nat → Bool} {g g' : Nat → Qd} (h : PM w mb V dom g) (h1 : ∀ v, v < V → dom' v = dom v) (h2 : ∀ v, v < V → g' v = g v) : PM w mb V dom' g' := by
  obtain ⟨D, k1, k2⟩ := h
  refine ⟨D, k1, ⟨fun v hv => by rw [h1 v hv]; exact k2.has v hv, fun v hv z hd => by rw [h2 v hv]; exact k2.at_ v hv z (by rw [← h1 v hv]; exact hd), fun v hv hd => by rw [h2 v hv]; exact k2.zero v hv (by rw [← h1 v hv]; exact hd), k2.key, ?_⟩⟩
  rw [k2.size]
  refine List.countP_congr (fun x hx => ?_)
  rw [h1 x (List.mem_range.1 hx)]

theorem pm_made (w : World) (V : Nat) : PM (w.alloc (.map #[] 0)) w.heap.size V (fun _ => false) (fun _ => (0, 0, 0, 0)) :=
  ⟨.map [], World.ownsMap_made w _ _ _, PD.mk (fun _ _ => rfl) (fun _ _ _ h => Bool.noConfusion h) (fun _ _ _ => rfl) (fun _ h => Bool.noConfusion h) (by simp [Maps.size])⟩

theorem PM.look {w : World} {mb V : Nat} {dom : Nat → Bool} {g : Nat → Qd} (h : PM w mb V dom g) (hV : V ≤ 1073741824) {v : Nat} (hv : v < V) :
    (Instr.lookup 168 (.map (some mb)) (.int .i64 (v : Int)) false).run Tryz.prog w = .ok (mkC (g v)) w := by
  obtain ⟨D, h1, h2⟩ := h
  obtain ⟨u, ps, hrun, hu⟩ := h1.lookup intKeyed Tryz.underlying168 (zeroC w) (cEl_mk _) (ky_of (v := v) (by omega))
  obtain ⟨q, rfl, hq⟩ := cEl_inv hu
  have e : D.atKey (ky v) (.held (0, 0, 0, 0)) = .held q := congrArg Prod.fst hq
  rw [hrun]
  cases hd : dom v
  · have hn : Maps.has D (ky v) = false := by rw [h2.has v hv, hd]
    rw [atKey_of_not_has hn] at e
    rw [h2.zero v hv hd, DataW.held.inj e]
  · rw [h2.at_ v hv _ hd] at e
    rw [DataW.held.inj e]

theorem PM.len {w : World} {mb V : Nat} {dom : Nat → Bool} {g : Nat → Qd} (h : PM w mb V dom g) (ty : TypeId) : (Builtin.len_ #[168] ty #[.map (some mb)]).run Tryz.prog w = .ok (.int .i64 ((List.range V).countP dom : Int)) w := by
  obtain ⟨D, h1, h2⟩ := h
  rw [h1.len Tryz.underlying168 ty, h2.size]

theorem countP_or {V : Nat} {dom : Nat → Bool} {v : Nat} (hv : v < V) : (List.range V).countP (fun x => dom x || x == v) = (List.range V).countP dom + if dom v then 0 else 1 := by
  induction V with
  | zero => omega
  | succ V ih =>
    rw [List.range_succ, List.countP_append, List.countP_append]
    by_cases e : v = V
    · subst e
      have : (List.range v).countP (fun x => dom x || x == v) = (List.range v).countP dom := List.countP_congr (fun x hx => by
        have := List.mem_range.1 hx
        have e : (x == v) = false := by simp; omega
        simp [e])
      rw [this]
      cases hd : dom v <;> simp [hd]
    · rw [ih (by omega)]
      have e2 : (V == v) = false := by simp; omega
      simp only [List.countP_cons, List.countP_nil, e2, Bool.or_false]
      omega

theorem PM.put {w : World} {mb V : Nat} {dom : Nat → Bool} {g : Nat → Qd} (h : PM w mb V dom g) (hV : V ≤ 1073741824) {v : Nat} (hv : v < V) (q : Qd) :
    ∃ w', (Instr.mapUpdate 168 (.map (some mb)) (.int .i64 (v : Int)) (mkC q)).run Tryz.prog w = .ok () w' ∧ PM w' mb V (fun x => dom x || x == v) (fun x => if x = v then q else g x) ∧ w.grownBy w' (some mb) := by
  obtain ⟨D, h1, h2⟩ := h
  have hle : Maps.size D ≤ V := by rw [h2.size]; exact Nat.le_trans List.countP_le_length (by simp)
  obtain ⟨w', hrun, ho, hg⟩ := h1.update intKeyed Tryz.underlying168 (by unfold maxLen; omega) (ky_of (v := v) (by omega)) (cEl_mk q)
  have hkl : WideAt.IsKeyLit (ky v) := trivial
  have hm : IsMap D := h1.isMap
  refine ⟨w', hrun, ⟨_, owns_size ho, ⟨fun x hx => ?_, fun x hx z hd => ?_, fun x hx hd => ?_, fun k hk => ?_, ?_⟩⟩, hg⟩
  · by_cases e : x = v
    · subst e; rw [has_put_same hm hkl]; simp
    · rw [has_put_other (fun q => e (ky_inj q)), h2.has x hx]; simp [e]
  · by_cases e : x = v
    · subst e; rw [atKey_put_same hm hkl]; simp
    · rw [atKey_put_other (fun q => e (ky_inj q)), if_neg e]
      exact h2.at_ x hx z (by simpa [e] using hd)
  · have e : x ≠ v := by rintro rfl; simp at hd
    have hd2 : dom x = false := by simpa [e] using hd
    simp only [if_neg e]
    exact h2.zero x hx hd2
  · by_cases e : k = ky v
    · exact ⟨v, hv, e⟩
    · rw [has_put_other e] at hk
      exact h2.key k hk
  · rw [size_put (h1.tidy intKeyed), h2.has v hv, h2.size, countP_or hv]
    cases dom v <;> simp

section
variable (w : World) {ops : Array Oper} {rest : List Oper} {o : Oper} {a : Act} {Q : Exit → Act → World → Prop}

end

/-- Gone over: which vertices' entries are still to come. -/
def PR (w : World) (mb r V : Nat) (dom : Nat → Bool) (g : Nat → Qd) (left : Nat → Bool) : Prop :=
  ∃ D n lf cnt, w.ranges Tryz.prog 3 cEl mb r n D lf cnt ∧ PD V dom g D ∧ (∀ v, v < V → lf (ky v) = left v) ∧ (∀ v, v < V → left v = true → dom v = true) ∧ ∀ k, lf k = true → ∃ v, v < V ∧ k = ky v

theorem PR.kept {w w' : World} {row : Option Nat} {mb r V : Nat} {dom left : Nat → Bool} {g : Nat → Qd} (h : PR w mb r V dom g left) (hg : w.grownBy w' row) (h1 : some mb ≠ row) (h2 : some r ≠ row) : PR w' mb r V dom g left := by
  obtain ⟨D, n, lf, cnt, k1, k2⟩ := h
  exact ⟨D, n, lf, cnt, k1.kept hg h1 h2, k2⟩

theorem PR.left {w w' : World} {row : Option Nat} {mb r V : Nat} {dom left : Nat → Bool} {g : Nat → Qd} (h : PR w mb r V dom g left) (hg : w.grownBy w' row) (h1 : some mb ≠ row) (h2 : some r ≠ row) : w'.rangeLeft mb r = w.rangeLeft mb r := by
  obtain ⟨D, n, lf, cnt, k1, k2⟩ := h
  rw [k1.left_eq, (k1.kept hg h1 h2).left_eq]

/-- Cells lie in no map and no iterator. -/
theorem PR.ne {w : World} {b mb r V : Nat} {t : TypeId} {cs : Array Value} {fr : Nat × Nat} {dom left : Nat → Bool} {g : Nat → Qd} (h : PR w mb r V dom g left) (hb : w.heap[b]? = some (.cells cs t fr)) : some mb ≠ some b ∧ some r ≠ some b := by
  obtain ⟨D, n, lf, cnt, ⟨es, clock, since, seen, c0, h1, _, _, _, h2, _⟩, _⟩ := h
  constructor
  · intro e; cases e; rw [h1] at hb; cases hb
  · intro e; cases e; rw [h2] at hb; cases hb

theorem PR.lt {w : World} {mb r V : Nat} {dom left : Nat → Bool} {g : Nat → Qd} (h : PR w mb r V dom g left) : mb < w.heap.size ∧ r < w.heap.size := by
  obtain ⟨D, n, lf, cnt, k1, k2⟩ := h
  exact ⟨k1.owns.lt, k1.lt⟩

theorem PR.more {w w' : World} {mb r V : Nat} {dom left : Nat → Bool} {g : Nat → Qd} (h : PR w mb r V dom g left) (hb : Below w.heap.size w w') : PR w' mb r V dom g left ∧ w'.rangeLeft mb r = w.rangeLeft mb r := by
  obtain ⟨l1, l2⟩ := h.lt
  obtain ⟨D, n, lf, cnt, ⟨es, clock, since, seen, c0, h1, F, hs, hD, hr, rest⟩, k2⟩ := h
  refine ⟨⟨D, n, lf, cnt, ⟨es, clock, since, seen, c0, (hb.block mb l1).trans h1, F, hs, hD, (hb.block r l2).trans hr, rest⟩, k2⟩, ?_⟩
  unfold World.rangeLeft
  rw [hb.block mb l1, hb.block r l2]

section
variable (w : World) {ops : Array Oper} {rest : List Oper} {o : Oper} {a : Act} {Q : Exit → Act → World → Prop}

/-- The range's begin, at the operation. -/
theorem at_rng (hg : o.guard = none) (m : Operand) (hop : o.op = Op.range 168 m) (mb V : Nat) (dom : Nat → Bool) (g : Nat → Qd) (hm : a.eval m = .map (some mb)) (h : PM w mb V dom g)
    (hK : ∀ w', PR w' mb w.heap.size V dom g dom → w.grownBy w' none → w'.heap.size = w.heap.size + 1 → wpList Tryz.prog ops Q rest (a.put o.dst (.pointer (some ⟨w.heap.size, 0, none⟩))) w') :
    wpList Tryz.prog ops Q (o :: rest) a w := by
  obtain ⟨D, h1, h2⟩ := h
  refine wpList_range_own w hg m 168 hop 3 172 intKeyed Tryz.underlying168 cEl mb _ D hm h1 ?_
  intro w' hr hgr hs
  exact hK w' ⟨D, _, _, _, hr, h2, fun v hv => h2.has v hv, fun v hv q => q, fun k hk => h2.key k hk⟩ hgr hs

/-- The step, at the operation. -/
theorem at_nxt (hg : o.guard = none) (it : Operand) (hop : o.op = Op.next it false) (mb r V : Nat) (dom left : Nat → Bool) (g : Nat → Qd) (hit : a.eval it = .pointer (some ⟨r, 0, none⟩)) (h : PR w mb r V dom g left)
    (hDone : (∀ v, v < V → left v = false) → wpList Tryz.prog ops Q rest (a.put o.dst (.tuple #[.bool false])) w)
    (hMore : ∀ (v : Nat) (q0 q1 q2 q3 : Int) (w' : World), v < V → g v = (q0, q1, q2, q3) → left v = true → dom v = true → PR w' mb r V dom g (fun x => left x && !(x == v)) → w'.rangeLeft mb r < w.rangeLeft mb r → w.grownBy w' (some r) → w'.heap.size = w.heap.size → (Instr.entry (.pointer (some ⟨r, 0, none⟩))).run Tryz.prog w' = .ok (.tuple #[.int .i64 (v : Int), .agg #[.int .i64 q0, .int .i64 q1, .int .i64 q2, .int .i64 q3]]) w' → wpList Tryz.prog ops Q rest (a.put o.dst (.tuple #[.bool true, .int .i64 (v : Int), .agg #[.int .i64 q0, .int .i64 q1, .int .i64 q2, .int .i64 q3]])) w') :
    wpList Tryz.prog ops Q (o :: rest) a w := by
  obtain ⟨D, n, lf, cnt, h1, h2, h3, h4, h5⟩ := h
  refine wpList_next_ranges w hg it hop 3 intKeyed cEl (fun z : Int => Value.int .i64 z) mkC (fun key kl hkey => by obtain ⟨x, rfl, _⟩ := Maps.keyOf_int_inv Tryz.underlying3 hkey; exact ⟨x, rfl⟩) (fun v y hv => by obtain ⟨c, rfl, _⟩ := cEl_inv hv; exact ⟨c, rfl⟩) mb r n D lf cnt hit h1 ?_ ?_
  · intro h0 hl
    exact hDone (fun v hv => by rw [← h3 v hv]; exact hl _)
  · intro x c kl y w' cnt' hkey hlk hv hat hr hlt hgr hsz hen
    obtain ⟨x', ex, rfl, hwx⟩ := Maps.keyOf_int_inv Tryz.underlying3 hkey
    cases ex
    obtain ⟨v, hvV, ev⟩ := h5 _ hlk
    obtain rfl : x = (v : Int) := by unfold ky at ev; injection ev
    have hlv : left v = true := by rw [← h3 v hvV]; exact hlk
    have hdv := h4 v hvV hlv
    obtain ⟨q, hq, rfl⟩ := cEl_inv hv
    have e : g v = c := by
      have := hat .nil
      rw [show (Lit.int .i64 (v : Int)) = ky v from rfl, h2.at_ v hvV _ hdv] at this
      have h9 : mkC c = mkC q := hq
      have : g v = q := DataW.held.inj this
      rw [this]
      obtain ⟨a1, a2, a3, a4⟩ := c
      obtain ⟨b1, b2, b3, b4⟩ := q
      simp [mkC] at h9
      obtain ⟨rfl, rfl, rfl, rfl⟩ := h9
      rfl
    subst e
    refine hMore v _ _ _ _ w' hvV rfl hlv hdv ⟨D, n, _, cnt', hr, h2, fun u hu => ?_, fun u hu q => h4 u hu (by simp at q; exact q.1), fun k hk => h5 k (by simp at hk; exact hk.1)⟩ (by rw [hr.left_eq, h1.left_eq]; exact hlt) hgr hsz hen
    show (lf (ky u) && !(ky u).sameKey (ky v)) = _
    rw [h3 u hu]
    by_cases e : u = v
    · subst e; rw [WideAt.sameKey_self (show WideAt.IsKeyLit (ky u) from trivial)]; simp
    · rw [sameKey_ne (fun q => e (ky_inj q))]; simp [e]
end
end Go.Proofs.YtboafgimjadboaaGreatDoor

namespace Go.Proofs.YtboafgimjadboaaGreatDoor
open Go.RowKit
set_option linter.unusedVariables false

section
variable {w : World} {lo tb V E : Nat} {R : Nat → List Nat}

theorem origin_in (h : TA w lo tb V E R) (k : Nat) (hk : In V R k) : Calls Tryz.prog 114 #[.pointer (some ⟨tb, 0, none⟩), .int .i64 (k : Int)] w fun x w' => x = .returned (.tuple #[.int .i64 (og V R k : Int), .nilIface]) ∧ Below w.heap.size w w' := by
  obtain ⟨n, p, o, r, ho, _, hn⟩ := two_ok h (k : Int)
  have hl := hk.low h.tn
  rcases ho with ⟨_, _, _, _, q⟩ | ⟨_, _, _, _, j, e1, _, q⟩ | ⟨rfl, j, v, e1, e2, e3, e4, _, rfl⟩
  · omega
  · obtain rfl : k = j := by omega
    exact absurd hk q
  · obtain rfl : k = j := by omega
    rw [og_at h.tn e2 e3]
    exact hn w (Below.refl _ _)

end
end Go.Proofs.YtboafgimjadboaaGreatDoor

namespace Go.Proofs.YtboafgimjadboaaGreatDoor
open Go.RowKit
set_option linter.unusedVariables false

section
variable {w : World} {lo tb V E : Nat} {R : Nat → List Nat}

set_option maxRecDepth 100000 in
theorem room_ok (h : TA w lo tb V E R) : Calls Tryz.prog 111 #[.pointer (some ⟨tb, 0, none⟩)] w fun x w' => x = .returned (.int .i64 (E : Int)) ∧ Below w.heap.size w w' := by
  have hs := hid (sizes_ok h)
  clear h
  go_enter Tryz.func111, Tryz.ntmps111
  go_wp2_with fail
  refine hs.out.mono ?_
  rintro e w1 ⟨rfl, m, rfl⟩
  have b := hid (belowN (Below.refl w.heap.size w) m)
  obtain ⟨w1, hw1⟩ : ∃ w1, w.drewN m = w1 := ⟨_, rfl⟩
  rw [hw1] at b ⊢
  clear hs hw1
  go_wp2_with fail
  go_ret
  exact ⟨rfl, b.out⟩

set_option maxRecDepth 100000 in
theorem ends_no (h : TA w lo tb V E R) (e : Nat) (he : e < E) (hi : ¬ In V R (2 * e)) : Calls Tryz.prog 112 #[.pointer (some ⟨tb, 0, none⟩), .int .i64 (e : Int)] w fun x w' => x = .returned (.tuple #[.int .i64 0, .int .i64 0, .bool false]) ∧ Below w.heap.size w w' := by
  have hs := hid (has_ok h e false he (by simp [hi]))
  clear h hi
  go_enter Tryz.func112, Tryz.ntmps112
  go_wp2_with fail
  refine hs.out.mono ?_
  rintro x w1 ⟨rfl, b1⟩
  replace b1 := hid b1
  clear hs
  go_wp2_with fail
  go_ret3
  exact ⟨rfl, b1.out⟩

set_option maxRecDepth 100000 in
set_option maxHeartbeats 1000000 in
theorem ends_yes (h : TA w lo tb V E R) (hw : Tw V E R) (e : Nat) (he : e < E) (hi : In V R (2 * e)) : Calls Tryz.prog 112 #[.pointer (some ⟨tb, 0, none⟩), .int .i64 (e : Int)] w fun x w' => x = .returned (.tuple #[.int .i64 (og V R (2 * e) : Int), .int .i64 (og V R (2 * e + 1) : Int), .bool true]) ∧ Below w.heap.size w w' := by
  have hE := h.hE
  have hs := hid (has_ok h e true he (by simp [hi]))
  have hi2 := (hw e he).1 hi
  have hor := hid (fun (k : Nat) (hk : In V R k) y (hy : Below w.heap.size w y) => origin_in (h.more hy) k hk)
  obtain ⟨p, hp⟩ : ∃ p, og V R (2 * e) = p := ⟨_, rfl⟩
  obtain ⟨q, hq⟩ : ∃ q, og V R (2 * e + 1) = q := ⟨_, rfl⟩
  have h1 : Hid (∀ y, Below w.heap.size w y → Calls Tryz.prog 114 #[.pointer (some ⟨tb, 0, none⟩), .int .i64 (2 * (e : Int))] y fun x w' => x = .returned (.tuple #[.int .i64 (p : Int), .nilIface]) ∧ Below y.heap.size y w') := hid (fun y hy => by
    have := hor.out (2 * e) hi y hy
    rw [hp, show ((2 * e : Nat) : Int) = 2 * (e : Int) by omega] at this
    exact this)
  have h2 : Hid (∀ y, Below w.heap.size w y → Calls Tryz.prog 114 #[.pointer (some ⟨tb, 0, none⟩), .int .i64 (2 * (e : Int) + 1)] y fun x w' => x = .returned (.tuple #[.int .i64 (q : Int), .nilIface]) ∧ Below y.heap.size y w') := hid (fun y hy => by
    have := hor.out (2 * e + 1) hi2 y hy
    rw [hq, show ((2 * e + 1 : Nat) : Int) = 2 * (e : Int) + 1 by omega] at this
    exact this)
  rw [hp, hq]
  clear h hi hi2 hw hor hp hq
  go_enter Tryz.func112, Tryz.ntmps112
  go_wp2_with fail
  refine hs.out.mono ?_
  rintro x w1 ⟨rfl, b1⟩
  replace b1 := hid b1
  clear hs
  go_wp2_with fail
  refine (h1.out _ b1.out).mono ?_
  rintro x w2 ⟨rfl, b2⟩
  replace b2 := hid (b1.out.trans (b2.mono b1.out.size))
  clear h1
  go_wp2_with fail
  refine (h2.out _ b2.out).mono ?_
  rintro x w3 ⟨rfl, b3⟩
  replace b3 := hid (b2.out.trans (b3.mono b2.out.size))
  clear h2
  go_wp2_with fail
  go_ret3
  exact ⟨rfl, b3.out⟩

set_option maxRecDepth 100000 in
theorem bare_ok (h : TA w lo tb V E R) (v : Nat) (hv : v < V) (s : Bool) (hs : s = true ↔ R v = []) : Calls Tryz.prog 126 #[.pointer (some ⟨tb, 0, none⟩), .int .i64 (v : Int)] w fun x w' => x = .returned (.bool s) ∧ Below w.heap.size w w' := by
  have hd := hid (degree_ok h v hv)
  obtain ⟨n, hn⟩ : ∃ n, (R v).length = n := ⟨_, rfl⟩
  have hs' : Hid (s = decide (n = 0)) := hid (by
    cases s
    · have : R v ≠ [] := fun e => by have := hs.2 e; cases this
      have : n ≠ 0 := fun e => this (List.eq_nil_of_length_eq_zero (hn.trans e))
      simp [this]
    · have := hs.1 rfl
      rw [this] at hn
      simp [← hn])
  rw [hn] at hd
  clear h hn hs
  go_enter Tryz.func126, Tryz.ntmps126
  go_wp2_with fail
  refine hd.out.mono ?_
  rintro x w1 ⟨rfl, b1⟩
  replace b1 := hid b1
  clear hd
  go_wp2_with fail
  go_ret
  refine ⟨?_, b1.out⟩
  rw [hs'.out]
  congr 2
  by_cases q : n = 0
  · subst q; rfl
  · simp [q]

def ownQ (s : Bool) : Qd := (1, 0, if s then 1 else 0, 0)

set_option maxRecDepth 100000 in
theorem own_ok (h : TA w lo tb V E R) (v : Nat) (hv : v < V) (s : Bool) (hs : s = true ↔ R v = []) : Calls Tryz.prog 110 #[.pointer (some ⟨tb, 0, none⟩), .int .i64 (v : Int)] w fun x w' => x = .returned (mkC (ownQ s)) ∧ Below w.heap.size w w' := by
  have hb0 := hid ((Below.refl w.heap.size w).alloc (Nat.le_refl _) (.cells #[.int .i64 0, .int .i64 0, .int .i64 0, .int .i64 0] 172))
  obtain ⟨w0, hw0⟩ : ∃ w0, w.alloc (.cells #[.int .i64 0, .int .i64 0, .int .i64 0, .int .i64 0] 172) = w0 := ⟨_, rfl⟩
  have hblk : w0.heap[w.heap.size]? = some (.cells #[.int .i64 0, .int .i64 0, .int .i64 0, .int .i64 0] 172 (0, 0)) := by rw [← hw0]; exact (MapKept.heap_alloc w _).1
  rw [hw0] at hb0
  replace hw0 := hid hw0
  have hd := hid (bare_ok (h.more hb0.out) v hv s hs)
  clear h hs
  obtain ⟨z, hz⟩ : ∃ z : Int, (if s then 1 else 0) = z := ⟨_, rfl⟩
  have hq : Hid (mkC (ownQ s) = .agg #[.int .i64 1, .int .i64 0, .int .i64 z, .int .i64 0]) := hid (by rw [← hz]; rfl)
  rw [hq.out]
  clear hq
  cases s
  all_goals
    simp only [Bool.false_eq_true, if_true, if_false] at hz
    subst hz
    go_enter Tryz.func110, Tryz.ntmps110
    go_upto_region 1 with fail
    rw [hw0.out]
    go_wp2_with fail
    refine hd.out.mono ?_
    rintro x w1 ⟨rfl, b1⟩
    have hb1 := hid (hb0.out.trans (b1.mono hb0.out.size))
    have hlt : w.heap.size < w0.heap.size := (Array.getElem?_eq_some_iff.1 hblk).1
    have hbk : w1.heap[w.heap.size]? = some (.cells #[.int .i64 0, .int .i64 0, .int .i64 0, .int .i64 0] 172 (0, 0)) := (b1.block _ hlt).trans hblk
    obtain ⟨⟨d0, d1, d2, d3⟩, f0, f1, f2, f3⟩ := blk4 hbk
    have hb2 := hid (fun x y z u => below4 (g := w.heap.size) hb1.out (Nat.le_refl _) x y z u)
    have hfin := hid (fun x y z u => set4_block hbk x y z u)
    clear b1 hblk hd hbk
    go_wp2_with fail
    refine bodyPost_ret (results_cell_row rfl _ _ w.heap.size 172 _ (0, 0) _ rfl (hfin.out _ _ _ _) Tryz.underlying172 rfl (by kernel_rfl)) rfl ?_
    exact ⟨rfl, hb2.out _ _ _ _⟩
end

def addQ (a b : Qd) : Qd := (a.1 + b.1, a.2.1 + b.2.1, a.2.2.1 + b.2.2.1, a.2.2.2 + b.2.2.2)
def smQ (a : Qd) : Prop := (0 ≤ a.1 ∧ a.1 ≤ 1152921504606846976) ∧ (0 ≤ a.2.1 ∧ a.2.1 ≤ 1152921504606846976) ∧ (0 ≤ a.2.2.1 ∧ a.2.2.1 ≤ 1152921504606846976) ∧ (0 ≤ a.2.2.2 ∧ a.2.2.2 ≤ 1152921504606846976)

set_option maxRecDepth 100000 in
set_option maxHeartbeats 2000000 in
theorem sum_ok (p q : Qd) (w : World) (hp : smQ p) (hq : smQ q) : Calls Tryz.prog 109 #[mkC p, mkC q] w fun x w' => x = .returned (mkC (addQ p q)) ∧ Below w.heap.size w w' := by
  obtain ⟨p0, p1, p2, p3⟩ := p
  obtain ⟨q0, q1, q2, q3⟩ := q
  obtain ⟨⟨a0, a0'⟩, ⟨a1, a1'⟩, ⟨a2, a2'⟩, ⟨a3, a3'⟩⟩ := hp
  obtain ⟨⟨b0, b0'⟩, ⟨b1, b1'⟩, ⟨b2, b2'⟩, ⟨b3, b3'⟩⟩ := hq
  simp only at a0 a0' a1 a1' a2 a2' a3 a3' b0 b0' b1 b1' b2 b2' b3 b3'
  show Calls _ _ #[.agg #[.int .i64 p0, .int .i64 p1, .int .i64 p2, .int .i64 p3], .agg #[.int .i64 q0, .int .i64 q1, .int .i64 q2, .int .i64 q3]] w fun x w' => x = .returned (.agg #[.int .i64 (p0 + q0), .int .i64 (p1 + q1), .int .i64 (p2 + q2), .int .i64 (p3 + q3)]) ∧ Below w.heap.size w w'
  obtain ⟨wa, hwa⟩ : ∃ wa, w.alloc (.cells #[.int .i64 p0, .int .i64 p1, .int .i64 p2, .int .i64 p3] 172) = wa := ⟨_, rfl⟩
  have k1 : wa.heap[w.heap.size]? = some (.cells #[.int .i64 p0, .int .i64 p1, .int .i64 p2, .int .i64 p3] 172 (0, 0)) := by rw [← hwa]; exact (MapKept.heap_alloc w _).1
  have sa : wa.heap.size = w.heap.size + 1 := by rw [← hwa]; simp
  have ba : Below w.heap.size w wa := by rw [← hwa]; exact (Below.refl w.heap.size w).alloc (Nat.le_refl _) _
  obtain ⟨wb, hwb⟩ : ∃ wb, wa.alloc (.cells #[.int .i64 q0, .int .i64 q1, .int .i64 q2, .int .i64 q3] 172) = wb := ⟨_, rfl⟩
  have k2 : wb.heap[wa.heap.size]? = some (.cells #[.int .i64 q0, .int .i64 q1, .int .i64 q2, .int .i64 q3] 172 (0, 0)) := by rw [← hwb]; exact (MapKept.heap_alloc wa _).1
  have bb : Below wa.heap.size wa wb := by rw [← hwb]; exact (Below.refl wa.heap.size wa).alloc (Nat.le_refl _) _
  have sb : wb.heap.size = w.heap.size + 2 := by rw [← hwb]; simp; omega
  have k1b := (bb.block _ (by omega)).trans k1
  obtain ⟨wc, hwc⟩ : ∃ wc, wb.alloc (.cells #[.int .i64 0, .int .i64 0, .int .i64 0, .int .i64 0] 172) = wc := ⟨_, rfl⟩
  have k3 : wc.heap[wb.heap.size]? = some (.cells #[.int .i64 0, .int .i64 0, .int .i64 0, .int .i64 0] 172 (0, 0)) := by rw [← hwc]; exact (MapKept.heap_alloc wb _).1
  have bc : Below wb.heap.size wb wc := by rw [← hwc]; exact (Below.refl wb.heap.size wb).alloc (Nat.le_refl _) _
  have k1c := (bc.block _ (by omega)).trans k1b
  have k2c := (bc.block _ (by omega)).trans k2
  have hall := hid (ba.trans ((bb.mono (show w.heap.size ≤ wa.heap.size by omega)).trans (bc.mono (show w.heap.size ≤ wb.heap.size by omega))))
  rw [sa] at k2c
  rw [sb] at k3
  obtain ⟨⟨c0, c1, c2, c3⟩, _⟩ := blk4 k1c
  obtain ⟨⟨d0, d1, d2, d3⟩, _⟩ := blk4 k2c
  obtain ⟨⟨e0, e1, e2, e3⟩, f0, f1, f2, f3⟩ := blk4 k3
  have hfin := hid (fun x y z u => below4 (g := w.heap.size + 2) hall.out (by omega) x y z u)
  have hrow := hid (fun x y z u => set4_block k3 x y z u)
  replace hwa := hid hwa
  replace hwb := hid hwb
  replace hwc := hid hwc
  clear k1 k1b k1c k2 k2c k3 ba bb bc
  go_enter Tryz.func109, Tryz.ntmps109
  go_upto_region 1 with fail
  rw [hwa.out, hwb.out, hwc.out]
  try rw [sa]
  try rw [sb]
  clear sa sb
  go_wp2_with fail
  refine bodyPost_ret (results_cell_row rfl _ _ (w.heap.size + 2) 172 _ (0, 0) _ rfl (hrow.out _ _ _ _) Tryz.underlying172 rfl (by kernel_rfl)) rfl ?_
  exact ⟨rfl, hfin.out _ _ _ _⟩
end Go.Proofs.YtboafgimjadboaaGreatDoor

namespace Go.Proofs.YtboafgimjadboaaGreatDoor
open Go.RowKit
set_option linter.unusedVariables false

section
variable {w : World} {lo tb V E : Nat} {R : Nat → List Nat}

set_option maxRecDepth 100000 in
set_option maxHeartbeats 4000000 in
theorem joined_ok (h : TA w lo tb V E R) (hw : Tw V E R) (hE8 : E ≤ 1000) (hV1 : 1 ≤ V) :
    Calls Tryz.prog 106 #[.pointer (some ⟨tb, 0, none⟩)] w fun e w' => ∃ gb, e = .returned (.tuple #[.pointer (some ⟨gb, 0, none⟩), .nilIface]) ∧ Gd w gb V (lb V E R) w' := by
  have hV := h.hV
  have hs := hid (sizes_ok h)
  have hrm := hid (fun y (hy : Below w.heap.size w y) => room_ok (h.more hy))
  have heY := hid (fun (e : Nat) (he : e < E) (hi : In V R (2 * e)) y (hy : Below w.heap.size w y) => ends_yes (h.more hy) hw e he hi)
  have heN := hid (fun (e : Nat) (he : e < E) (hi : ¬ In V R (2 * e)) y (hy : Below w.heap.size w y) => ends_no (h.more hy) e he hi)
  have hw' := hid hw
  clear h hw
  go_enter Tryz.func106, Tryz.ntmps106
  go_wp2_with fail
  refine hs.out.mono ?_
  rintro e w1 ⟨rfl, m1, rfl⟩
  have b1 := hid (belowN (Below.refl w.heap.size w) m1)
  obtain ⟨w1, hw1⟩ : ∃ w1, w.drewN m1 = w1 := ⟨_, rfl⟩
  rw [hw1] at b1 ⊢
  clear hs hw1
  go_wp2_with fail
  refine (gd_new V _ hV1 (by omega)).mono ?_
  rintro e w2 ⟨rfl, hg0⟩
  have hg : Hid (Gd w w1.heap.size V (Un.jl (EA V R) (EB V R) (fun x => x) (es V R 0)) w2) := hid (by
    have := hg0.since (u := w) (by exact b1.out)
    simpa [es, Un.jl] using this)
  clear hg0
  go_wp2_with fail
  refine (hrm.out _ hg.out.bel).mono ?_
  rintro e w3 ⟨rfl, b3⟩
  replace hg := hid (hg.out.more b3)
  clear b3 hrm
  go_wp2_with fail
  go_loopw [8, 9, 10, 11, 12, 13, 29] (fun _ _ _ _ _ _ u wr => ∃ x : Nat, x ≤ E ∧ u = .int .i64 (x : Int) ∧ Hid (Gd w w1.heap.size V (Un.jl (EA V R) (EB V R) (fun x => x) (es V R x)) wr)) (fun _ _ _ _ _ _ u _ => E - (intOf u).toNat)
  case atStart => exact ⟨0, by omega, by go_num, hg⟩
  case round =>
    obtain ⟨x, hx, rfl, hst⟩ := hrel
    clear hg
    have hE : E < 1001 := by omega
    have hby := hid hst.out.bel
    rcases Nat.lt_or_ge x E with hlt | hge
    · have v1 : decide ((x : Int) < (E : Int)) = true := decide_eq_true (by omega)
      by_cases hi : In V R (2 * x)
      · have hi2 := (hw'.out x hlt).1 hi
        have o1 := (og_is hi).1
        have o2 := (og_is hi2).1
        have hc := hid (heY.out x hlt hi wr hby.out)
        have hstep := hid (lb_step_yes hi)
        obtain ⟨p, hp⟩ : ∃ p, og V R (2 * x) = p := ⟨_, rfl⟩
        obtain ⟨q, hq⟩ : ∃ q, og V R (2 * x + 1) = q := ⟨_, rfl⟩
        rw [hp] at o1 hstep hc
        rw [hq] at o2 hstep hc
        clear hi hi2 hp hq
        go_wp2_with fail
        refine hc.out.mono ?_
        rintro e w3 ⟨rfl, b3⟩
        have hst3 := hid (hst.out.more b3)
        clear b3 hc
        go_wp2_with fail
        refine (hst3.out.join p q o1 o2).mono ?_
        rintro e w6 ⟨t, rfl, hg6⟩
        rw [← hstep.out] at hg6
        replace hg6 := hid hg6
        go_wp2_with fail
        go_roundw
        case rel => exact ⟨x + 1, by omega, by go_num, hg6⟩
        case measure => simp [intOf]; omega
      · have hc := hid (heN.out x hlt hi wr hby.out)
        have hstep := hid (lb_step_no hi)
        rw [← hstep.out] at hst
        clear hi hstep
        go_wp2_with fail
        refine hc.out.mono ?_
        rintro e w3 ⟨rfl, b3⟩
        have hst3 := hid (hst.out.more b3)
        clear b3 hc
        go_wp2_with fail
        go_roundw
        case rel => exact ⟨x + 1, by omega, by go_num, hst3⟩
        case measure => simp [intOf]; omega
    · obtain rfl : x = E := by omega
      have v1 : decide ((x : Int) < (x : Int)) = false := decide_eq_false (by omega)
      go_wp2_with fail
      go_ret2
      exact ⟨_, rfl, hst.out⟩
end
end Go.Proofs.YtboafgimjadboaaGreatDoor
