/- What 'SpanRest' asks; rows cut and joined. -/
import Derived.Test.YtnlbpjppkfenkaaRef9
import Derived.Test.YtnlbpjppkfenkaaMore9
import Derived.Test.YtnlbpjppkfenkaaRegion
namespace Go.Proofs.Ytnlbpjppkfenkaa
open Go.RowKit
set_option linter.unusedVariables false

/-- append onto a row of the call's own, as one step of a region that draws. -/
theorem step_append_own {P : Program} {ops : Array Oper} {o : Oper} {a : Act} {w : World} {K : Act → World → Prop} {Q : Exit → Act → World → Prop} {E : Prop}
    (hg : o.guard = none) (s x : Operand) (t : TypeId) (hop : o.op = Op.call { callee := Callee.builtin Builtin.append, args := #[s, x], argTypes := #[t, t] })
    (base : Nat) (e : TypeId) (i : TypeInfo) (z : Value) (size bytes : Nat) (h1 : P.underlying t = some (.slice e)) (h2 : P.info? e = some i) (h3 : i.zero = some z) (h4 : i.size = size) (h5 : i.bytes = bytes) (h6 : z.cells.size = size) (h7 : 0 < size)
    (v : Value) (n : Nat) (xs : List Value) (hs : a.eval s = v) (hown : w.ownsRow base e size v n xs)
    (ad : Addr) (m c : Nat) (news : List Value) (hx : a.eval x = .slice (some ad) m c) (hn : news.length = m * size) (hc : ∀ j u, news[j]? = some u → w.cell? (ad.add j) = some u) (h1c : ∀ u ∈ news, u.oneCell' = true)
    (b1 : n + m ≤ maxLen) (b2 : (n + m) * bytes ≤ 140737488355328) (hb : base ≤ w.heap.size)
    (hK : ∀ v' w', w'.ownsRow base e size v' (n + m) (xs ++ news) → w.grownBy w' v.ownBlock → K (a.put o.dst v') w') :
    if Region.wanted o (yielded ops a.tmps) = true then Oper.wp P o a w K Q else E := by
  have hw : Region.wanted o (yielded ops a.tmps) = true := by simp [Region.wanted, hg]
  rw [if_pos hw]
  obtain ⟨v', w', hrun, r1, r2, _⟩ := run_append_own (P := P) w base t o.type e i z size bytes h1 h2 h3 h4 h5 h6 h7 v n xs hown ad m c news hn hc h1c b1 b2 hb
  unfold Oper.wp
  simp [execOp, hop, resolve, invoke, builtin, hs, hx, hrun, Result.andThen]
  exact hK v' w' r1 r2

theorem bstep {w a b : World} (h : Hid (Below w.heap.size w a)) (k : Below a.heap.size a b) : Hid (Below w.heap.size w b) := h.out.trans (k.mono h.out.size)

theorem add_flat (b o j : Nat) : (⟨b, o, none⟩ : Addr).add j = ⟨b, o + j, none⟩ := by unfold Addr.add; split <;> simp_all

theorem ecs_one (l : List Ed) : ∀ u ∈ ecs l, u.oneCell' = true := by
  induction l with
  | nil => intro u hu; simp [ecs] at hu
  | cons q l ih =>
    intro u hu
    simp only [ecs, List.mem_cons] at hu
    rcases hu with rfl | rfl | rfl | hu
    · rfl
    · rfl
    · rfl
    · exact ih u hu

theorem ecs_take : ∀ (l : List Ed) (k : Nat), ecs (l.take k) = (ecs l).take (k * 3)
  | [], k => by simp [ecs]
  | q :: l, 0 => by simp [ecs]
  | q :: l, k + 1 => by
    rw [show (k + 1) * 3 = k * 3 + 3 from by omega]
    simp only [List.take_succ_cons, ecs, ecs_take l k]

theorem ecs_drop : ∀ (l : List Ed) (k : Nat), ecs (l.drop k) = (ecs l).drop (k * 3)
  | [], k => by simp [ecs]
  | q :: l, 0 => by simp [ecs]
  | q :: l, k + 1 => by
    rw [show (k + 1) * 3 = k * 3 + 3 from by omega]
    simp only [List.drop_succ_cons, ecs, ecs_drop l k]

theorem ecs_set : ∀ (l : List Ed) (k : Nat) (q : Ed) (z : Int), l[k]? = some q → (ecs l).set (k * 3 + 2) (.int .i32 z) = ecs (l.set k ⟨q.a, q.b, z⟩)
  | [], k, q, z, h => by simp at h
  | r :: l, 0, q, z, h => by
    simp at h
    subst h
    rfl
  | r :: l, k + 1, q, z, h => by
    have ih := ecs_set l k q z (by simpa using h)
    rw [show (k + 1) * 3 + 2 = (k * 3 + 2) + 3 from by omega]
    simp only [ecs, List.set_cons_succ, ih]

/-- All cells of a slice of edges. -/
theorem Es.cells {w : World} {g o n : Nat} {l : List Ed} (h : Es w (some ⟨g, o, none⟩) n l) : ∀ j u, (ecs l)[j]? = some u → w.cell? ⟨g, o + j, none⟩ = some u := by
  intro j u hu
  have hj := (List.getElem?_eq_some_iff.1 hu).1
  rw [ecs_length] at hj
  obtain ⟨i, r, hr, rfl⟩ : ∃ i r, r < 3 ∧ j = i * 3 + r := ⟨j / 3, j % 3, by omega, by omega⟩
  obtain ⟨q, hq⟩ : ∃ q, l[i]? = some q := ⟨_, List.getElem?_eq_getElem (by omega)⟩
  obtain ⟨b, o', e, h1, h2, h3⟩ := h.cell _ q hq
  simp only [Option.some.injEq, Addr.mk.injEq, and_true] at e
  obtain ⟨rfl, rfl⟩ := e
  obtain ⟨e1, e2, e3⟩ := ecs_get l _ q hq
  match r, hr with
  | 0, _ => rw [Nat.add_zero] at hu ⊢; rw [← hu, e1]; exact h1
  | 1, _ => rw [← hu, e2, ← Nat.add_assoc]; exact h2
  | 2, _ => rw [← hu, e3, ← Nat.add_assoc]; exact h3

theorem bl_one (n : Nat) (p : Nat → Bool) : ∀ u ∈ bl n p, u.oneCell' = true := fun u hu => by
  unfold bl at hu
  obtain ⟨i, _, rfl⟩ := List.mem_map.1 hu
  rfl

/-- Marks from a place on. -/
def bld (k m : Nat) (p : Nat → Bool) : List Value := (bl m p).drop (k + 1)
theorem bld_one (k m : Nat) (p : Nat → Bool) : ∀ u ∈ bld k m p, u.oneCell' = true := fun u hu => bl_one m p u (List.mem_of_mem_drop hu)

theorem bl_out {k m : Nat} (hk : k < m) (p : Nat → Bool) : bl k p ++ bld k m p = bl (m - 1) (fun i => p (sh k i)) := by
  apply List.ext_getElem?
  intro j
  unfold bld
  by_cases hj : j < m - 1
  · rw [bl_get hj]
    unfold sh
    by_cases h : j < k
    · rw [List.getElem?_append_left (by simpa using h), bl_get h, if_pos h]
    · rw [List.getElem?_append_right (by simp; omega), List.getElem?_drop, bl_length, if_neg h, show k + 1 + (j - k) = j + 1 from by omega, bl_get (by omega)]
  · rw [List.getElem?_eq_none (by simp; omega), List.getElem?_eq_none (by simp; omega)]

section
variable {l : List Ed} {k : Nat}

theorem out_get (hk : k < l.length) (i : Nat) : (l.take k ++ l.drop (k + 1))[i]? = l[sh k i]? := by
  unfold sh
  by_cases h : i < k
  · rw [List.getElem?_append_left (by simp; omega), List.getElem?_take, if_pos h, if_pos h]
  · rw [List.getElem?_append_right (by simp; omega), List.getElem?_drop, List.length_take, if_neg h]
    congr 1
    omega

theorem out_len (hk : k < l.length) : (l.take k ++ l.drop (k + 1)).length = l.length - 1 := by simp; omega
theorem out_A (hk : k < l.length) : eA (l.take k ++ l.drop (k + 1)) = fun i => eA l (sh k i) := by funext i; unfold eA; rw [out_get hk]
theorem out_B (hk : k < l.length) : eB (l.take k ++ l.drop (k + 1)) = fun i => eB l (sh k i) := by funext i; unfold eB; rw [out_get hk]
theorem out_W (hk : k < l.length) : eW (l.take k ++ l.drop (k + 1)) = fun i => eW l (sh k i) := by funext i; unfold eW; rw [out_get hk]

theorem out_mem {q : Ed} (h : q ∈ l.take k ++ l.drop (k + 1)) : q ∈ l := by
  rcases List.mem_append.1 h with h | h
  · exact List.mem_of_mem_take h
  · exact List.mem_of_mem_drop h

theorem set_mem {q r : Ed} {z : Int} (hq : l[k]? = some q) (h : r ∈ l.set k ⟨q.a, q.b, z⟩) : r ∈ l ∨ r = ⟨q.a, q.b, z⟩ := List.mem_or_eq_of_mem_set h

theorem set_A {q : Ed} {z : Int} (hq : l[k]? = some q) : eA (l.set k ⟨q.a, q.b, z⟩) = eA l := by
  funext i
  unfold eA
  rw [List.getElem?_set]
  by_cases e : k = i
  · subst e; rw [if_pos rfl, if_pos (List.getElem?_eq_some_iff.1 hq).1, hq]; rfl
  · rw [if_neg e]
theorem set_B {q : Ed} {z : Int} (hq : l[k]? = some q) : eB (l.set k ⟨q.a, q.b, z⟩) = eB l := by
  funext i
  unfold eB
  rw [List.getElem?_set]
  by_cases e : k = i
  · subst e; rw [if_pos rfl, if_pos (List.getElem?_eq_some_iff.1 hq).1, hq]; rfl
  · rw [if_neg e]
theorem set_W {q : Ed} {z : Int} (hq : l[k]? = some q) : eW (l.set k ⟨q.a, q.b, z⟩) = fun i => if i = k then z else eW l i := by
  funext i
  unfold eW
  rw [List.getElem?_set]
  by_cases e : k = i
  · subst e; rw [if_pos rfl, if_pos (List.getElem?_eq_some_iff.1 hq).1, if_pos rfl]; rfl
  · rw [if_neg e, if_neg (Ne.symm e)]

open Classical in
/-- An edge that is not marked, left out. -/
theorem out_tree (hk : k < l.length) {so so' : List Nat} (h : So l.length (Lw (eW l)) so) (h' : So (l.take k ++ l.drop (k + 1)).length (Lw (eW (l.take k ++ l.drop (k + 1)))) so') (hn : k ∉ kr (eA l) (eB l) (fun x => x) so) :
    (∀ i, i < l.length - 1 → (i ∈ kr (eA (l.take k ++ l.drop (k + 1))) (eB (l.take k ++ l.drop (k + 1))) (fun x => x) so' ↔ sh k i ∈ kr (eA l) (eB l) (fun x => x) so)) ∧
    wsum (eW (l.take k ++ l.drop (k + 1))) (kr (eA (l.take k ++ l.drop (k + 1))) (eB (l.take k ++ l.drop (k + 1))) (fun x => x) so') = wsum (eW l) (kr (eA l) (eB l) (fun x => x) so) := by
  rw [out_len hk, out_W hk] at h'
  rw [out_A hk, out_B hk, out_W hk]
  have hnm : ¬ Mkd (eA l) (eB l) l.length (Lw (eW l)) k := fun hm => hn ((h.kr_mem (Lw.lin _ _)).2 ⟨hk, hm⟩)
  refine ⟨fun i hi => ?_, ?_⟩
  · rw [h'.kr_mem (Lw.lin _ _), h.kr_mem (Lw.lin _ _), out_mark hk hnm hi]
    constructor
    · rintro ⟨_, h2⟩; exact ⟨by unfold sh; split <;> omega, h2⟩
    · rintro ⟨_, h2⟩; exact ⟨hi, h2⟩
  · rw [h'.sum (Lw.lin _ _), h.sum (Lw.lin _ _), ← out_sum (p := Mkd (eA l) (eB l) l.length (Lw (eW l))) hnm l.length hk]
    congr 1
    refine List.filter_congr (fun i hi => ?_)
    rw [decide_eq_decide]
    exact out_mark hk hnm (List.mem_range.1 hi)

/-- An edge that is marked, made the least. -/
theorem set_tree {q : Ed} {so so' : List Nat} (hq : l[k]? = some q) (hw : Wr l) (h : So l.length (Lw (eW l)) so) (h' : So (l.set k ⟨q.a, q.b, -2147483648⟩).length (Lw (eW (l.set k ⟨q.a, q.b, -2147483648⟩))) so') (hm : k ∈ kr (eA l) (eB l) (fun x => x) so) :
    k ∈ kr (eA (l.set k ⟨q.a, q.b, -2147483648⟩)) (eB (l.set k ⟨q.a, q.b, -2147483648⟩)) (fun x => x) so' := by
  have hk := (List.getElem?_eq_some_iff.1 hq).1
  rw [set_A hq, set_B hq]
  rw [List.length_set, set_W hq] at h'
  refine (h'.kr_mem (Lw.lin _ _)).2 ⟨hk, less_mark (fun i _ => (hw.at i).1) hk ((h.kr_mem (Lw.lin _ _)).1 hm).2⟩
end

end Go.Proofs.Ytnlbpjppkfenkaa
