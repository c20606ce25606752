/- A map of counts by vertices, told by plain functions: what it holds, a look-up, a store, how many, gone over. -/
import Derived.Test.YtghpjljnbdjmaaaGreatDoorBface
import Derived.Maps.Ext
import Derived.Maps.RangeWalk
import Derived.Maps.OwnSet
namespace Go.Proofs.YtghpjljnbdjmaaaGreatDoor
open Go.RowKit Go.Maps
set_option linter.unusedVariables false

abbrev Qd := Int × Int × Int × Int
def mkC (q : Qd) : Value := .agg #[.int .i64 q.1, .int .i64 q.2.1, .int .i64 q.2.2.1, .int .i64 q.2.2.2]
def cEl (v : Value) : Option (DataW Qd × List MemPlace) :=
  match v with
  | .agg cs => match cs.toList with
    | [.int .i64 a, .int .i64 b, .int .i64 c, .int .i64 d] => some (.held (a, b, c, d), [])
    | _ => none
  | _ => none
theorem cEl_mk (q : Qd) : cEl (mkC q) = some (.held q, []) := rfl
theorem cEl_inv {v : Value} {y : DataW Qd × List MemPlace} (h : cEl v = some y) : ∃ q, v = mkC q ∧ y = (.held q, []) := by
  unfold cEl at h
  split at h
  · rename_i cs
    split at h
    · rename_i a b c d e
      cases h
      refine ⟨(a, b, c, d), ?_, rfl⟩
      unfold mkC
      rw [← e]
    · cases h
  · cases h

def ky (v : Nat) : Lit := .int .i64 (v : Int)
theorem ky_inj {a b : Nat} (h : ky a = ky b) : a = b := by
  unfold ky at h
  injection h with _ h
  exact Int.ofNat_inj.1 h
theorem intKeyed : Keyed Tryz.prog 3 := int_keyed Tryz.underlying3
theorem ky_of {v : Nat} (hv : v ≤ 1073741824) : keyOf Tryz.prog 3 (.int .i64 (v : Int)) = some (ky v) := keyOf_int_mk Tryz.underlying3 (WalkArith.wf_i64 (by omega))
theorem zeroC (w : World) : (zeroValue 51).run Tryz.prog w = .ok (mkC (0, 0, 0, 0)) w := by kernel_rfl

/-- What the map's datum says. -/
structure PD (V : Nat) (dom : Nat → Bool) (g : Nat → Qd) (D : DataW Qd) : Prop where
  has : ∀ v, v < V → Maps.has D (ky v) = dom v
  at_ : ∀ v, v < V → ∀ z, dom v = true → D.atKey (ky v) z = .held (g v)
  zero : ∀ v, v < V → dom v = false → g v = (0, 0, 0, 0)
  key : ∀ k, Maps.has D k = true → ∃ v, v < V ∧ k = ky v
  size : Maps.size D = (List.range V).countP dom

/-- Block mb is the map. -/
def PM (w : World) (mb V : Nat) (dom : Nat → Bool) (g : Nat → Qd) : Prop := ∃ D, w.ownsMap Tryz.prog 3 cEl mb (Maps.size D) D ∧ PD V dom g D

theorem owns_size {w : World} {b n : Nat} {D : DataW Qd} (h : w.ownsMap Tryz.prog 3 cEl b n D) : w.ownsMap Tryz.prog 3 cEl b (Maps.size D) D := by
  obtain ⟨es, clock, hb, F, hs, hD⟩ := h
  refine ⟨es, clock, hb, F, ?_, hD⟩
  rw [hD]
  show es.size ≤ List.length _
  rw [length_read]
  exact Nat.le_refl _

theorem PM.kept {w w' : World} {row : Option Nat} {mb V : Nat} {dom : Nat → Bool} {g : Nat → Qd} (h : PM w mb V dom g) (hg : w.grownBy w' row) (hr : some mb ≠ row) : PM w' mb V dom g := by
  obtain ⟨D, h1, h2⟩ := h
  exact ⟨D, h1.kept hg hr, h2⟩

theorem PM.lt {w : World} {mb V : Nat} {dom : Nat → Bool} {g : Nat → Qd} (h : PM w mb V dom g) : mb < w.heap.size := by
  obtain ⟨D, h1, h2⟩ := h
  exact h1.lt

theorem PM.more {w w' : World} {mb V : Nat} {dom : Nat → Bool} {g : Nat → Qd} (h : PM w mb V dom g) (hb : Below w.heap.size w w') : PM w' mb V dom g := by
  have hlt := h.lt
  obtain ⟨D, ⟨es, clock, hb', F, hs, hD⟩, h2⟩ := h
  exact ⟨D, ⟨es, clock, (hb.block mb hlt).trans hb', F, hs, hD⟩, h2⟩

theorem PM.congr {w : World} {mb V : Nat} {dom dom' : Nat → Bool} {g g' : Nat → Qd} (h : PM w mb V dom g) (h1 : ∀ v, v < V → dom' v = dom v) (h2 : ∀ v, v < V → g' v = g v) : PM w mb V dom' g' := by
  obtain ⟨D, k1, k2⟩ := h
  refine ⟨D, k1, ⟨fun v hv => by rw [h1 v hv]; exact k2.has v hv, fun v hv z hd => by rw [h2 v hv]; exact k2.at_ v hv z (by rw [← h1 v hv]; exact hd), fun v hv hd => by rw [h2 v hv]; exact k2.zero v hv (by rw [← h1 v hv]; exact hd), k2.key, ?_⟩⟩
  rw [k2.size]
  refine List.countP_congr (fun x hx => ?_)
  rw [h1 x (List.mem_range.1 hx)]

theorem pm_made (w : World) (V : Nat) : PM (w.alloc (.map #[] 0)) w.heap.size V (fun _ => false) (fun _ => (0, 0, 0, 0)) :=
  ⟨.map [], World.ownsMap_made w _ _ _, PD.mk (fun _ _ => rfl) (fun _ _ _ h => Bool.noConfusion h) (fun _ _ _ => rfl) (fun _ h => Bool.noConfusion h) (by simp [Maps.size])⟩

theorem PM.look {w : World} {mb V : Nat} {dom : Nat → Bool} {g : Nat → Qd} (h : PM w mb V dom g) (hV : V ≤ 1073741824) {v : Nat} (hv : v < V) :
    (Instr.lookup 99 (.map (some mb)) (.int .i64 (v : Int)) false).run Tryz.prog w = .ok (mkC (g v)) w := by
  obtain ⟨D, h1, h2⟩ := h
  obtain ⟨u, ps, hrun, hu⟩ := h1.lookup intKeyed Tryz.underlying99 (zeroC w) (cEl_mk _) (ky_of (v := v) (by omega))
  obtain ⟨q, rfl, hq⟩ := cEl_inv hu
  have e : D.atKey (ky v) (.held (0, 0, 0, 0)) = .held q := congrArg Prod.fst hq
  rw [hrun]
  cases hd : dom v
  · have hn : Maps.has D (ky v) = false := by rw [h2.has v hv, hd]
    rw [atKey_of_not_has hn] at e
    rw [h2.zero v hv hd, DataW.held.inj e]
  · rw [h2.at_ v hv _ hd] at e
    rw [DataW.held.inj e]

theorem PM.len {w : World} {mb V : Nat} {dom : Nat → Bool} {g : Nat → Qd} (h : PM w mb V dom g) (ty : TypeId) : (Builtin.len_ #[99] ty #[.map (some mb)]).run Tryz.prog w = .ok (.int .i64 ((List.range V).countP dom : Int)) w := by
  obtain ⟨D, h1, h2⟩ := h
  rw [h1.len Tryz.underlying99 ty, h2.size]

theorem countP_or {V : Nat} {dom : Nat → Bool} {v : Nat} (hv : v < V) : (List.range V).countP (fun x => dom x || x == v) = (List.range V).countP dom + if dom v then 0 else 1 := by
  induction V with
  | zero => omega
  | succ V ih =>
    rw [List.range_succ, List.countP_append, List.countP_append]
    by_cases e : v = V
    · subst e
      have : (List.range v).countP (fun x => dom x || x == v) = (List.range v).countP dom := List.countP_congr (fun x hx => by
        have := List.mem_range.1 hx
        have e : (x == v) = false := by simp; omega
        simp [e])
      rw [this]
      cases hd : dom v <;> simp [hd]
    · rw [ih (by omega)]
      have e2 : (V == v) = false := by simp; omega
      simp only [List.countP_cons, List.countP_nil, e2, Bool.or_false]
      omega

theorem PM.put {w : World} {mb V : Nat} {dom : Nat → Bool} {g : Nat → Qd} (h : PM w mb V dom g) (hV : V ≤ 1073741824) {v : Nat} (hv : v < V) (q : Qd) :
    ∃ w', (Instr.mapUpdate 99 (.map (some mb)) (.int .i64 (v : Int)) (mkC q)).run Tryz.prog w = .ok () w' ∧ PM w' mb V (fun x => dom x || x == v) (fun x => if x = v then q else g x) ∧ w.grownBy w' (some mb) := by
  obtain ⟨D, h1, h2⟩ := h
  have hle : Maps.size D ≤ V := by rw [h2.size]; exact Nat.le_trans List.countP_le_length (by simp)
  obtain ⟨w', hrun, ho, hg⟩ := h1.update intKeyed Tryz.underlying99 (by unfold maxLen; omega) (ky_of (v := v) (by omega)) (cEl_mk q)
  have hkl : WideAt.IsKeyLit (ky v) := trivial
  have hm : IsMap D := h1.isMap
  refine ⟨w', hrun, ⟨_, owns_size ho, ⟨fun x hx => ?_, fun x hx z hd => ?_, fun x hx hd => ?_, fun k hk => ?_, ?_⟩⟩, hg⟩
  · by_cases e : x = v
    · subst e; rw [has_put_same hm hkl]; simp
    · rw [has_put_other (fun q => e (ky_inj q)), h2.has x hx]; simp [e]
  · by_cases e : x = v
    · subst e; rw [atKey_put_same hm hkl]; simp
    · rw [atKey_put_other (fun q => e (ky_inj q)), if_neg e]
      exact h2.at_ x hx z (by simpa [e] using hd)
  · have e : x ≠ v := by rintro rfl; simp at hd
    have hd2 : dom x = false := by simpa [e] using hd
    simp only [if_neg e]
    exact h2.zero x hx hd2
  · by_cases e : k = ky v
    · exact ⟨v, hv, e⟩
    · rw [has_put_other e] at hk
      exact h2.key k hk
  · rw [size_put (h1.tidy intKeyed), h2.has v hv, h2.size, countP_or hv]
    cases dom v <;> simp

section
variable (w : World) {ops : Array Oper} {rest : List Oper} {o : Oper} {a : Act} {Q : Exit → Act → World → Prop}

/-- A store, at the operation. -/
theorem at_put (hg : o.guard = none) (m x v : Operand) (hop : o.op = Op.mapUpdate 99 m x v) (mb V : Nat) (dom : Nat → Bool) (g : Nat → Qd) (hm : a.eval m = .map (some mb)) (h : PM w mb V dom g) (hV : V ≤ 1073741824) (k : Nat) (hk : k < V) (q : Qd) (hx : a.eval x = .int .i64 (k : Int)) (hv : a.eval v = mkC q)
    (hK : ∀ w', PM w' mb V (fun x => dom x || x == k) (fun x => if x = k then q else g x) → w.grownBy w' (some mb) → wpList Tryz.prog ops Q rest (a.put o.dst undef) w') :
    wpList Tryz.prog ops Q (o :: rest) a w := by
  refine wpList_plain hg fun K' hK' => ?_
  obtain ⟨w', hrun, r1, r2⟩ := h.put hV hk q
  unfold Oper.wp
  simp [execOp, hop, hm, hx, hv, hrun, Result.andThen]
  exact hK' _ _ (hK w' r1 r2)

/-- A look-up, at the operation. -/
theorem at_look (hg : o.guard = none) (m x : Operand) (hop : o.op = Op.lookup 99 m x false) (mb V : Nat) (dom : Nat → Bool) (g : Nat → Qd) (hm : a.eval m = .map (some mb)) (h : PM w mb V dom g) (hV : V ≤ 1073741824) (k : Nat) (hk : k < V) (hx : a.eval x = .int .i64 (k : Int))
    (hK : wpList Tryz.prog ops Q rest (a.put o.dst (mkC (g k))) w) :
    wpList Tryz.prog ops Q (o :: rest) a w := by
  refine wpList_plain hg fun K' hK' => ?_
  have hrun := h.look hV hk
  unfold Oper.wp
  simp [execOp, hop, hm, hx, hrun, Result.andThen]
  exact hK' _ _ hK
end

/-- Gone over: which vertices' entries are still to come. -/
def PR (w : World) (mb r V : Nat) (dom : Nat → Bool) (g : Nat → Qd) (left : Nat → Bool) : Prop :=
  ∃ D n lf cnt, w.ranges Tryz.prog 3 cEl mb r n D lf cnt ∧ PD V dom g D ∧ (∀ v, v < V → lf (ky v) = left v) ∧ (∀ v, v < V → left v = true → dom v = true) ∧ ∀ k, lf k = true → ∃ v, v < V ∧ k = ky v

theorem PR.kept {w w' : World} {row : Option Nat} {mb r V : Nat} {dom left : Nat → Bool} {g : Nat → Qd} (h : PR w mb r V dom g left) (hg : w.grownBy w' row) (h1 : some mb ≠ row) (h2 : some r ≠ row) : PR w' mb r V dom g left := by
  obtain ⟨D, n, lf, cnt, k1, k2⟩ := h
  exact ⟨D, n, lf, cnt, k1.kept hg h1 h2, k2⟩

theorem PR.left {w w' : World} {row : Option Nat} {mb r V : Nat} {dom left : Nat → Bool} {g : Nat → Qd} (h : PR w mb r V dom g left) (hg : w.grownBy w' row) (h1 : some mb ≠ row) (h2 : some r ≠ row) : w'.rangeLeft mb r = w.rangeLeft mb r := by
  obtain ⟨D, n, lf, cnt, k1, k2⟩ := h
  rw [k1.left_eq, (k1.kept hg h1 h2).left_eq]

/-- Cells lie in no map and no iterator. -/
theorem PR.ne {w : World} {b mb r V : Nat} {t : TypeId} {cs : Array Value} {fr : Nat × Nat} {dom left : Nat → Bool} {g : Nat → Qd} (h : PR w mb r V dom g left) (hb : w.heap[b]? = some (.cells cs t fr)) : some mb ≠ some b ∧ some r ≠ some b := by
  obtain ⟨D, n, lf, cnt, ⟨es, clock, since, seen, c0, h1, _, _, _, h2, _⟩, _⟩ := h
  constructor
  · intro e; cases e; rw [h1] at hb; cases hb
  · intro e; cases e; rw [h2] at hb; cases hb

theorem PR.lt {w : World} {mb r V : Nat} {dom left : Nat → Bool} {g : Nat → Qd} (h : PR w mb r V dom g left) : mb < w.heap.size ∧ r < w.heap.size := by
  obtain ⟨D, n, lf, cnt, k1, k2⟩ := h
  exact ⟨k1.owns.lt, k1.lt⟩

theorem PR.more {w w' : World} {mb r V : Nat} {dom left : Nat → Bool} {g : Nat → Qd} (h : PR w mb r V dom g left) (hb : Below w.heap.size w w') : PR w' mb r V dom g left ∧ w'.rangeLeft mb r = w.rangeLeft mb r := by
  obtain ⟨l1, l2⟩ := h.lt
  obtain ⟨D, n, lf, cnt, ⟨es, clock, since, seen, c0, h1, F, hs, hD, hr, rest⟩, k2⟩ := h
  refine ⟨⟨D, n, lf, cnt, ⟨es, clock, since, seen, c0, (hb.block mb l1).trans h1, F, hs, hD, (hb.block r l2).trans hr, rest⟩, k2⟩, ?_⟩
  unfold World.rangeLeft
  rw [hb.block mb l1, hb.block r l2]

section
variable (w : World) {ops : Array Oper} {rest : List Oper} {o : Oper} {a : Act} {Q : Exit → Act → World → Prop}

/-- The range's begin, at the operation. -/
theorem at_rng (hg : o.guard = none) (m : Operand) (hop : o.op = Op.range 99 m) (mb V : Nat) (dom : Nat → Bool) (g : Nat → Qd) (hm : a.eval m = .map (some mb)) (h : PM w mb V dom g)
    (hK : ∀ w', PR w' mb w.heap.size V dom g dom → w.grownBy w' none → w'.heap.size = w.heap.size + 1 → wpList Tryz.prog ops Q rest (a.put o.dst (.pointer (some ⟨w.heap.size, 0, none⟩))) w') :
    wpList Tryz.prog ops Q (o :: rest) a w := by
  obtain ⟨D, h1, h2⟩ := h
  refine wpList_range_own w hg m 99 hop 3 51 intKeyed Tryz.underlying99 cEl mb _ D hm h1 ?_
  intro w' hr hgr hs
  exact hK w' ⟨D, _, _, _, hr, h2, fun v hv => h2.has v hv, fun v hv q => q, fun k hk => h2.key k hk⟩ hgr hs

/-- The step, at the operation. -/
theorem at_nxt (hg : o.guard = none) (it : Operand) (hop : o.op = Op.next it false) (mb r V : Nat) (dom left : Nat → Bool) (g : Nat → Qd) (hit : a.eval it = .pointer (some ⟨r, 0, none⟩)) (h : PR w mb r V dom g left)
    (hDone : (∀ v, v < V → left v = false) → wpList Tryz.prog ops Q rest (a.put o.dst (.tuple #[.bool false])) w)
    (hMore : ∀ (v : Nat) (q0 q1 q2 q3 : Int) (w' : World), v < V → g v = (q0, q1, q2, q3) → left v = true → dom v = true → PR w' mb r V dom g (fun x => left x && !(x == v)) → w'.rangeLeft mb r < w.rangeLeft mb r → w.grownBy w' (some r) → w'.heap.size = w.heap.size → (Instr.entry (.pointer (some ⟨r, 0, none⟩))).run Tryz.prog w' = .ok (.tuple #[.int .i64 (v : Int), .agg #[.int .i64 q0, .int .i64 q1, .int .i64 q2, .int .i64 q3]]) w' → wpList Tryz.prog ops Q rest (a.put o.dst (.tuple #[.bool true, .int .i64 (v : Int), .agg #[.int .i64 q0, .int .i64 q1, .int .i64 q2, .int .i64 q3]])) w') :
    wpList Tryz.prog ops Q (o :: rest) a w := by
  obtain ⟨D, n, lf, cnt, h1, h2, h3, h4, h5⟩ := h
  refine wpList_next_ranges w hg it hop 3 intKeyed cEl (fun z : Int => Value.int .i64 z) mkC (fun key kl hkey => by obtain ⟨x, rfl, _⟩ := Maps.keyOf_int_inv Tryz.underlying3 hkey; exact ⟨x, rfl⟩) (fun v y hv => by obtain ⟨c, rfl, _⟩ := cEl_inv hv; exact ⟨c, rfl⟩) mb r n D lf cnt hit h1 ?_ ?_
  · intro h0 hl
    exact hDone (fun v hv => by rw [← h3 v hv]; exact hl _)
  · intro x c kl y w' cnt' hkey hlk hv hat hr hlt hgr hsz hen
    obtain ⟨x', ex, rfl, hwx⟩ := Maps.keyOf_int_inv Tryz.underlying3 hkey
    cases ex
    obtain ⟨v, hvV, ev⟩ := h5 _ hlk
    obtain rfl : x = (v : Int) := by unfold ky at ev; injection ev
    have hlv : left v = true := by rw [← h3 v hvV]; exact hlk
    have hdv := h4 v hvV hlv
    obtain ⟨q, hq, rfl⟩ := cEl_inv hv
    have e : g v = c := by
      have := hat .nil
      rw [show (Lit.int .i64 (v : Int)) = ky v from rfl, h2.at_ v hvV _ hdv] at this
      have h9 : mkC c = mkC q := hq
      have : g v = q := DataW.held.inj this
      rw [this]
      obtain ⟨a1, a2, a3, a4⟩ := c
      obtain ⟨b1, b2, b3, b4⟩ := q
      simp [mkC] at h9
      obtain ⟨rfl, rfl, rfl, rfl⟩ := h9
      rfl
    subst e
    refine hMore v _ _ _ _ w' hvV rfl hlv hdv ⟨D, n, _, cnt', hr, h2, fun u hu => ?_, fun u hu q => h4 u hu (by simp at q; exact q.1), fun k hk => h5 k (by simp at hk; exact hk.1)⟩ (by rw [hr.left_eq, h1.left_eq]; exact hlt) hgr hsz hen
    show (lf (ky u) && !(ky u).sameKey (ky v)) = _
    rw [h3 u hu]
    by_cases e : u = v
    · subst e; rw [WideAt.sameKey_self (show WideAt.IsKeyLit (ky u) from trivial)]; simp
    · rw [sameKey_ne (fun q => e (ky_inj q))]; simp [e]
end
end Go.Proofs.YtghpjljnbdjmaaaGreatDoor
