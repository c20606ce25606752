/- The reference's Without. -/
import Derived.Test.YtnkgpjjlgbggcaaDoorFind6
import Derived.Deep.RegionHeld3
import Derived.Deep.RegionLaw
namespace Go.Proofs.YtnkgpjjlgbggcaaDoor
open Go.RowKit
set_option linter.unusedVariables false

theorem infoPair : (Tryd.prog.info? 42).map (fun i => (i.zero, i.size, i.bytes)) = some (some (.agg #[.int .i64 0, .int .i64 0]), 2, 16) := by kernel_rfl

theorem step_append_own {P : Program} {ops : Array Oper} {o : Oper} {a : Act} {w : World} {K : Act → World → Prop} {Q : Exit → Act → World → Prop} {E : Prop}
    (hg : o.guard = none) (s x : Operand) (t : TypeId) (hop : o.op = Op.call { callee := Callee.builtin Builtin.append, args := #[s, x], argTypes := #[t, t] })
    (base : Nat) (e : TypeId) (i : TypeInfo) (z : Value) (size bytes : Nat) (h1 : P.underlying t = some (.slice e)) (h2 : P.info? e = some i) (h3 : i.zero = some z) (h4 : i.size = size) (h5 : i.bytes = bytes) (h6 : z.cells.size = size) (h7 : 0 < size)
    (v : Value) (n : Nat) (xs : List Value) (hs : a.eval s = v) (hown : w.ownsRow base e size v n xs)
    (ad : Addr) (m c : Nat) (news : List Value) (hx : a.eval x = .slice (some ad) m c) (hn : news.length = m * size) (hc : ∀ j u, news[j]? = some u → w.cell? (ad.add j) = some u) (h1c : ∀ u ∈ news, u.oneCell' = true)
    (b1 : n + m ≤ maxLen) (b2 : (n + m) * bytes ≤ 140737488355328) (hb : base ≤ w.heap.size)
    (hK : ∀ v' w', w'.ownsRow base e size v' (n + m) (xs ++ news) → w.grownBy w' v.ownBlock → K (a.put o.dst v') w') :
    if Region.wanted o (yielded ops a.tmps) = true then Oper.wp P o a w K Q else E := by
  have hw : Region.wanted o (yielded ops a.tmps) = true := by simp [Region.wanted, hg]
  rw [if_pos hw]
  obtain ⟨v', w', hrun, r1, r2, _⟩ := run_append_own (P := P) w base t o.type e i z size bytes h1 h2 h3 h4 h5 h6 h7 v n xs hown ad m c news hn hc h1c b1 b2 hb
  unfold Oper.wp
  simp [execOp, hop, resolve, invoke, builtin, hs, hx, hrun, Result.andThen]
  exact hK v' w' r1 r2

theorem below_row {w0 w w' : World} {B base n size : Nat} {e : TypeId} {v : Value} {xs : List Value} (hb : Below B w0 w) (hlo : B ≤ w0.heap.size) (ho : w.ownsRow base e size v n xs) (hB : B ≤ base) (hg : w.grownBy w' v.ownBlock) : Below B w0 w' := by
  have ht : Turned (fun j => v.ownBlock = some j) w w' := ⟨hg.os, hg.tape, hg.output, hg.size, fun k hk ho => hg.block k hk (fun e => ho e.symm)⟩
  exact hb.trans (ht.below (fun j hj => Nat.le_trans hB (ho.lt j hj).1) (Nat.le_trans hlo hb.size))

/-- Cells that lie one behind the other from a place on. -/
def Cs (w : World) (ad : Addr) (xs : List Value) : Prop := ∀ j u, xs[j]? = some u → w.cell? (ad.add j) = some u

theorem Cs.below {w w' : World} {ad : Addr} {xs : List Value} (h : Cs w ad xs) (hb : Below w.heap.size w w') : Cs w' ad xs := fun j u hu => (hb.cell (World.block_lt_of_cell? w _ (h j u hu))).trans (h j u hu)

theorem add_from (g o j : Nat) : (⟨g, o, none⟩ : Addr).add j = ⟨g, o + j, none⟩ := by
  unfold Addr.add
  by_cases h : j = 0
  · subst h; simp
  · simp [h]

theorem Lk.cs {lo g cap : Nat} {w : World} {ls : List (Nat × Nat)} (h : Lk lo w (.slice (some ⟨g, 0, none⟩) ls.length cap) ls) (k : Nat) (hk : k ≤ ls.length) : Cs w ⟨g, 0, none⟩ (lcs (ls.take k)) ∧ Cs w ⟨g, k * 2, none⟩ (lcs (ls.drop k)) := by
  have h' : w.ownsRow lo 42 2 (.slice (some ⟨g, 0, none⟩) ls.length cap) ls.length (lcs ls) := h
  have hlen := lcs_length ls
  constructor
  · intro j u hu
    rw [add_from, Nat.zero_add]
    rw [← lcs_take, List.getElem?_take] at hu
    split at hu
    · rename_i hj
      rw [h'.cellAt j (by omega)]
      exact hu
    · cases hu
  · intro j u hu
    rw [add_from]
    rw [← lcs_drop, List.getElem?_drop] at hu
    rw [h'.cellAt (k * 2 + j) (by have := (List.getElem?_eq_some_iff.1 hu).1; omega)]
    exact hu

set_option maxRecDepth 100000 in
set_option maxHeartbeats 4000000 in
theorem rwithout6_ok (lo : Nat) (v : Value) (ls : List (Nat × Nat)) (k : Nat) (w : World) (h : Lk lo w v ls) (hk : k < ls.length) (hl : ls.length ≤ 1000) :
    Calls Tryd.prog 10 #[v, .int .i64 (k : Int)] w fun e w' => ∃ v', e = .returned v' ∧ Lk w.heap.size w' v' (ls.take k ++ ls.drop (k + 1)) ∧ Below w.heap.size w w' := by
  obtain ⟨i0, hif, hz0, hz1, hz2⟩ := info_parts infoPair
  obtain ⟨g, cap, hv, hcap⟩ : ∃ g cap, v = .slice (some ⟨g, 0, none⟩) ls.length cap ∧ ls.length ≤ cap ∧ cap ≤ maxLen := by
    rcases h.2 with ⟨_, e⟩ | ⟨g, cap, cur, e, _, _, e1, e2, _⟩
    · omega
    · exact ⟨g, cap, e, e1, e2⟩
  subst hv
  obtain ⟨T1, hT⟩ : ∃ T1, k + 1 = T1 := ⟨_, rfl⟩
  rw [hT]
  obtain ⟨s1, _⟩ := h.cs k (by omega)
  obtain ⟨_, s2⟩ := h.cs T1 (by omega)
  have s1 : Cs w.drew ⟨g, 0, none⟩ (lcs (ls.take k)) := s1
  have s2 : Cs w.drew ⟨g, T1 * 2, none⟩ (lcs (ls.drop T1)) := s2
  obtain ⟨M, hM⟩ : ∃ M, ls.length = M := ⟨_, rfl⟩
  have hd : (ls.drop T1).length = M - T1 := by rw [List.length_drop, hM]
  have ht : (ls.take k).length = k := by rw [List.length_take]; omega
  have hfin : Hid (∀ (v : Value) (w' : World), w'.ownsRow w.heap.size 42 2 v (0 + k + (M - T1)) (([] ++ lcs (ls.take k)) ++ lcs (ls.drop T1)) → Lk w.heap.size w' v (ls.take k ++ ls.drop T1)) := hid (fun v w' h => by
    unfold Lk
    rw [List.length_append, hd, ht, lcs_append, show k + (M - T1) = 0 + k + (M - T1) by omega]
    exact h)
  have hd' : (lcs (ls.drop T1)).length = (M - T1) * 2 := by rw [lcs_length, hd]
  have ht' : (lcs (ls.take k)).length = k * 2 := by rw [lcs_length, ht]
  obtain ⟨hc1, hc2⟩ := hcap
  rw [hM] at hk hl hc1 ⊢
  have i1 : (0 : Int) ≤ (k : Int) := by omega
  have i2 : (k : Int) ≤ (cap : Int) := by omega
  have i3 : (T1 : Int) ≤ (M : Int) := by omega
  have i5 : (0 : Int) ≤ (T1 : Int) := by omega
  have iw : IntKind.i64.wrap ((k : Int) + 1) = (T1 : Int) := by rw [IntKind.wrap_i64]; omega
  have hc3 : cap ≤ 9223372036854775807 := by unfold maxLen at hc2; omega
  replace hd := hid hd
  replace ht := hid ht
  clear hM h
  by_cases hcc : cap = T1
  · have hMT : M = T1 := by omega
    subst hcc
    subst hMT
    rw [Nat.sub_self] at hd' hfin
    have s3 : Cs w.drew ⟨g, 0, none⟩ (lcs (ls.drop M)) := fun j u hu => by
      have := (List.getElem?_eq_some_iff.1 hu).1
      omega
    clear hT s2
    go_enter Tryd.func10, Tryd.ntmps10
    go_wp2_with fail
    go_region_held3 (fun w' => True) (first | exact True.intro | assumption | go_keep) (first
      | (refine step_append_own rfl (.tmp 6) (.tmp 9) 29 rfl w.heap.size 42 i0 _ 2 16 Tryd.underlying29 hif hz0 hz1 hz2 rfl (by decide) (.slice none 0 0) 0 [] (by rfl) (World.ownsRow_nil _ _ _ _) ⟨g, 0, none⟩ k M (lcs (ls.take k)) (by rfl) ht' s1 (lcs_one _) (by unfold maxLen; omega) (by omega) (Nat.le_refl _) ?_; intro v1 w1 ho1 hg1; have b1 := below_row (Below.refl w.heap.size w.drew) (Nat.le_refl _) (World.ownsRow_nil w.drew w.heap.size 42 2) (Nat.le_refl _) hg1; have s2' := s3.below b1; have hsz1 := b1.size)
      | (refine step_append_own rfl (.tmp 10) (.tmp 14) 29 rfl w.heap.size 42 i0 _ 2 16 Tryd.underlying29 hif hz0 hz1 hz2 rfl (by decide) v1 (0 + k) ([] ++ lcs (ls.take k)) (by rfl) ho1 ⟨g, 0, none⟩ 0 0 (lcs (ls.drop M)) (by rfl) hd' s2' (lcs_one _) (by unfold maxLen; omega) (by omega) hsz1 ?_; intro v2 w2 ho2 hg2; have b2 := below_row b1 (Nat.le_refl _) ho1 (Nat.le_refl _) hg2; have fin := hid (And.intro (hfin.out v2 w2 ho2) ((Below.refl w.heap.size w).drew.trans b2)); clear ho2 hg2 b2))
    all_goals
      go_wp2_with fail
      go_ret
      exact ⟨_, rfl, fin.out⟩
  · have i4 : cap ≠ T1 := hcc
    clear hT hcc
    go_enter Tryd.func10, Tryd.ntmps10
    go_wp2_with fail
    go_region_held3 (fun w' => True) (first | exact True.intro | assumption | go_keep) (first
      | (refine step_append_own rfl (.tmp 6) (.tmp 9) 29 rfl w.heap.size 42 i0 _ 2 16 Tryd.underlying29 hif hz0 hz1 hz2 rfl (by decide) (.slice none 0 0) 0 [] (by rfl) (World.ownsRow_nil _ _ _ _) ⟨g, 0, none⟩ k cap (lcs (ls.take k)) (by rfl) ht' s1 (lcs_one _) (by unfold maxLen; omega) (by omega) (Nat.le_refl _) ?_; intro v1 w1 ho1 hg1; have b1 := below_row (Below.refl w.heap.size w.drew) (Nat.le_refl _) (World.ownsRow_nil w.drew w.heap.size 42 2) (Nat.le_refl _) hg1; have s2' := s2.below b1; have hsz1 := b1.size)
      | (refine step_append_own rfl (.tmp 10) (.tmp 14) 29 rfl w.heap.size 42 i0 _ 2 16 Tryd.underlying29 hif hz0 hz1 hz2 rfl (by decide) v1 (0 + k) ([] ++ lcs (ls.take k)) (by rfl) ho1 ⟨g, T1 * 2, none⟩ (M - T1) (cap - T1) (lcs (ls.drop T1)) (by rfl) hd' s2' (lcs_one _) (by unfold maxLen; omega) (by omega) hsz1 ?_; intro v2 w2 ho2 hg2; have b2 := below_row b1 (Nat.le_refl _) ho1 (Nat.le_refl _) hg2; have fin := hid (And.intro (hfin.out v2 w2 ho2) ((Below.refl w.heap.size w).drew.trans b2)); clear ho2 hg2 b2))
    all_goals
      go_wp2_with fail
      go_ret
      exact ⟨_, rfl, fin.out⟩

end Go.Proofs.YtnkgpjjlgbggcaaDoor
