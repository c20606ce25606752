/- 'newMarks': levels of words, none marked. -/
import Derived.Test.YtjkiagjgnfaknaaDoorMem
import Derived.Test.YtjkiagjgnfaknaaDoorChecked
import Derived.Deep.RegionLaw
import Derived.Lib.SmallJoins
namespace Go.Proofs.YtjkiagjgnfaknaaDoor
open Go.RowKit

/-- append onto a row of the call's own, as one step of a region that draws. -/
theorem step_append_own {P : Program} {ops : Array Oper} {o : Oper} {a : Act} {w : World} {K : Act → World → Prop} {Q : Exit → Act → World → Prop} {E : Prop}
    (hg : o.guard = none) (s x : Operand) (t : TypeId) (hop : o.op = Op.call { callee := Callee.builtin Builtin.append, args := #[s, x], argTypes := #[t, t] })
    (base : Nat) (e : TypeId) (i : TypeInfo) (z : Value) (size bytes : Nat) (h1 : P.underlying t = some (.slice e)) (h2 : P.info? e = some i) (h3 : i.zero = some z) (h4 : i.size = size) (h5 : i.bytes = bytes) (h6 : z.cells.size = size) (h7 : 0 < size)
    (v : Value) (n : Nat) (xs : List Value) (hs : a.eval s = v) (hown : w.ownsRow base e size v n xs)
    (ad : Addr) (m c : Nat) (news : List Value) (hx : a.eval x = .slice (some ad) m c) (hn : news.length = m * size) (hc : ∀ j u, news[j]? = some u → w.cell? (ad.add j) = some u) (h1c : ∀ u ∈ news, u.oneCell' = true)
    (b1 : n + m ≤ maxLen) (b2 : (n + m) * bytes ≤ 140737488355328) (hb : base ≤ w.heap.size)
    (hK : ∀ v' w', w'.ownsRow base e size v' (n + m) (xs ++ news) → w.grownBy w' v.ownBlock → K (a.put o.dst v') w') :
    if Region.wanted o (yielded ops a.tmps) = true then Oper.wp P o a w K Q else E := by
  have hw : Region.wanted o (yielded ops a.tmps) = true := by simp [Region.wanted, hg]
  rw [if_pos hw]
  obtain ⟨v', w', hrun, r1, r2, _⟩ := run_append_own (P := P) w base t o.type e i z size bytes h1 h2 h3 h4 h5 h6 h7 v n xs hown ad m c news hn hc h1c b1 b2 hb
  unfold Oper.wp
  simp [execOp, hop, resolve, invoke, builtin, hs, hx, hrun, Result.andThen]
  exact hK v' w' r1 r2

/-- A level's words as the row of levels holds them. -/
def sl (x : Nat × List Nat) : Value := .slice (some ⟨x.1, 0, none⟩) x.2.length x.2.length

theorem infoU64 : (Tryd.prog.info? 77).map (fun i => (i.zero, i.size, i.bytes)) = some (some (.int .u64 0), 1, 8) := by kernel_rfl
theorem infoWords : (Tryd.prog.info? 112).map (fun i => (i.zero, i.size, i.bytes)) = some (some (.slice none 0 0), 1, 24) := by kernel_rfl

set_option maxRecDepth 100000 in
/-- 'make' of words. -/
theorem make_words (N : Nat) (hN : N ≤ 1048576) (w : World) :
    (Instr.makeSlice 112 (.int .i64 (N : Int)) (.int .i64 (N : Int))).run Tryd.prog w = .ok (.slice (some ⟨w.heap.size, 0, none⟩) N N) (w.alloc (.cells (Array.replicate N (.int .u64 0)) 77)) := by
  obtain ⟨i0, hi, hz0, hz1, hz2⟩ := info_parts infoU64
  have h := run_make (P := Tryd.prog) w 112 77 i0 _ Tryd.underlying112 hi hz0 .i64 .i64 N N (by omega) (Int.le_refl _) (by rw [hz2]; omega) (by omega)
  rw [h]
  simp only [Int.toNat_natCast, hz1]
  congr 3
  apply Array.ext
  · simp [madeCells]
  · intro j h1 h2
    simp [madeCells, Value.cells, Nat.mod_one]

/-- What stands in memory while the levels are made: the result's block, the struct's own, the row, the words. -/
structure Making (w : World) (B n k : Nat) (v : Value) (lv : List (Nat × List Nat)) (wr : World) : Prop where
  below : Below B w wr
  res : wr.heap[B]? = some (.cells #[.int .i64 0, .slice none 0 0] 83 (0, 0))
  self : wr.heap[B + 1]? = some (.cells #[.int .i64 (n : Int), v] 83 (0, 0))
  len : lv.length = k
  row : wr.ownsRow (B + 2) 112 1 v k (lv.map sl)
  words : ∀ (j b : Nat) (ws : List Nat), lv[j]? = some (b, ws) → Words wr b ws ∧ B + 2 ≤ b ∧ ws = List.replicate (cd n (j + 1)) 0
  apart : ∀ (i j b b' : Nat) (ws ws' : List Nat), lv[i]? = some (b, ws) → lv[j]? = some (b', ws') → i ≠ j → b ≠ b'

theorem Making.cell0 {w wr : World} {B n k : Nat} {v : Value} {lv : List (Nat × List Nat)} (h : Making w B n k v lv wr) : wr.cell? ⟨B + 1, 0, none⟩ = some (.int .i64 (n : Int)) := by
  unfold World.cell?; rw [h.self]; simp
theorem Making.cell1 {w wr : World} {B n k : Nat} {v : Value} {lv : List (Nat × List Nat)} (h : Making w B n k v lv wr) : wr.cell? ⟨B + 1, 1, none⟩ = some v := by
  unfold World.cell?; rw [h.self]; simp
theorem Making.size {w wr : World} {B n k : Nat} {v : Value} {lv : List (Nat × List Nat)} (h : Making w B n k v lv wr) : B + 2 ≤ wr.heap.size := by
  rcases Nat.lt_or_ge (B + 1) wr.heap.size with h1 | h1
  · omega
  · have := h.self; rw [Array.getElem?_eq_none h1] at this; cases this

/-- One level more: behind the make and the append, the struct's field stored. -/
theorem Making.more {w wr w' : World} {B n k N g cap : Nat} {v : Value} {lv : List (Nat × List Nat)} (h : Making w B n k v lv wr) (hN : N = cd n (k + 1)) (o : Obj)
    (hown : w'.ownsRow (B + 2) 112 1 (.slice (some ⟨g, 0, none⟩) (k + 1) cap) (k + 1) (lv.map sl ++ [.slice (some ⟨wr.heap.size, 0, none⟩) N N]))
    (hgrow : ((wr.alloc (.cells (Array.replicate N (.int .u64 0)) 77)).alloc o).grownBy w' v.ownBlock) :
    Making w B n (k + 1) (.slice (some ⟨g, 0, none⟩) (k + 1) cap) (lv ++ [(wr.heap.size, List.replicate N 0)]) (w'.setCell ⟨B + 1, 1, none⟩ (.slice (some ⟨g, 0, none⟩) (k + 1) cap)) := by
  have hsz := h.size
  have hvb : ∀ q, v.ownBlock = some q → B + 2 ≤ q := fun q hq => (h.row.lt q hq).1
  have old : ∀ q, q < wr.heap.size → some q ≠ v.ownBlock → w'.heap[q]? = wr.heap[q]? := by
    intro q hq hne
    rw [hgrow.block q (by simp; omega) hne, Below.heap_alloc _ _ _ (by simp; omega), Below.heap_alloc _ _ _ hq]
  have low : ∀ q, q < B + 2 → w'.heap[q]? = wr.heap[q]? := fun q hq => old q (by omega) (fun e => by have := hvb q e.symm; omega)
  have hrep : ((List.replicate N 0).map wc).toArray = Array.replicate N (.int .u64 0) := by simp [wc]
  have hnew : w'.heap[wr.heap.size]? = some (.cells ((List.replicate N 0).map wc).toArray 77 (0, 0)) := by
    rw [hrep]
    rw [hgrow.block wr.heap.size (by simp; omega) (fun e => by have := (h.row.lt _ e.symm).2; omega), Below.heap_alloc _ _ _ (by simp)]
    exact heap_alloc_new wr _
  have hss : w'.heap.size ≤ (w'.setCell ⟨B + 1, 1, none⟩ (.slice (some ⟨g, 0, none⟩) (k + 1) cap)).heap.size := by simp
  have oth : ∀ q, q ≠ B + 1 → (w'.setCell ⟨B + 1, 1, none⟩ (.slice (some ⟨g, 0, none⟩) (k + 1) cap)).heap[q]? = w'.heap[q]? := fun q hq => Below.heap_setCell _ _ _ _ hq
  have hwords : ∀ (j b : Nat) (ws : List Nat), lv[j]? = some (b, ws) → w'.heap[b]? = wr.heap[b]? := by
    intro j b ws e
    obtain ⟨h1, h2, _⟩ := h.words j b ws e
    refine old b h1.lt (fun e' => ?_)
    obtain ⟨_, hv⟩ := h.row
    rcases hv with ⟨rfl, _⟩ | ⟨g0, c0, cur, rfl, _, hh, _⟩
    · cases e'
    · cases e'
      rw [h1] at hh
      cases hh
  have hget : ∀ (j b : Nat) (ws : List Nat), (lv ++ [(wr.heap.size, List.replicate N 0)])[j]? = some (b, ws) → lv[j]? = some (b, ws) ∨ (j = k ∧ b = wr.heap.size ∧ ws = List.replicate N 0) := by
    intro j b ws e
    have hl := h.len
    rw [List.getElem?_append] at e
    split at e
    · exact Or.inl e
    · rename_i hj
      have h0 : j - lv.length = 0 := by
        rcases Nat.eq_zero_or_pos (j - lv.length) with h0 | h0
        · exact h0
        · rw [List.getElem?_eq_none (by simp; omega)] at e; cases e
      rw [h0] at e
      cases e
      exact Or.inr ⟨by omega, rfl, rfl⟩
  refine ⟨?_, ?_, ?_, by simp [h.len], ?_, fun j b ws e => ?_, fun i j b b' ws ws' e1 e2 hne => ?_⟩
  · refine ⟨hgrow.os.trans h.below.os, hgrow.tape.trans h.below.tape, hgrow.output.trans h.below.output, ?_, fun q hq => ?_⟩
    · have := h.below.size; have := hgrow.size; simp at *; omega
    · rw [oth q (by omega), low q (by omega)]; exact h.below.block q hq
  · rw [oth B (by omega), low B (by omega)]; exact h.res
  · unfold World.setCell
    rw [Array.getElem?_modify, if_pos rfl, low (B + 1) (by omega), h.self]
    simp
  · rw [List.map_append, show List.map sl [(wr.heap.size, List.replicate N 0)] = [.slice (some ⟨wr.heap.size, 0, none⟩) N N] from by simp [sl]]
    exact ownsRow_setCell_below hown (by simp) _
  · rcases hget j b ws e with e | ⟨rfl, rfl, rfl⟩
    · obtain ⟨h1, h2, h3⟩ := h.words j b ws e
      exact ⟨h1.of ((oth b (by omega)).trans (hwords j b ws e)), h2, h3⟩
    · exact ⟨(oth _ (by omega)).trans hnew, by omega, by rw [hN]⟩
  · rcases hget i b ws e1 with e1 | ⟨rfl, rfl, rfl⟩ <;> rcases hget j b' ws' e2 with e2 | ⟨rfl, rfl, rfl⟩
    · exact h.apart _ _ _ _ _ _ e1 e2 hne
    · have := (h.words _ _ _ e1).1.lt; omega
    · have := (h.words _ _ _ e2).1.lt; omega
    · exact absurd rfl hne

theorem Making.drew {w wr : World} {B n k : Nat} {v : Value} {lv : List (Nat × List Nat)} (h : Making w B n k v lv wr) : Making w B n k v lv wr.drew := ⟨h.below.drew, h.res, h.self, h.len, h.row, h.words, h.apart⟩

/-- The struct's own cells behind the make and the append. -/
theorem Making.grown {w wr w' : World} {B n k : Nat} {v : Value} {lv : List (Nat × List Nat)} (h : Making w B n k v lv wr) {O1 O2 : Obj} (hgrow : ((wr.alloc O1).alloc O2).grownBy w' v.ownBlock) :
    w'.cell? ⟨B + 1, 0, none⟩ = some (.int .i64 (n : Int)) ∧ w'.cell? ⟨B + 1, 1, none⟩ = some v ∧ w'.frozen? ⟨B + 1, 1, none⟩ = false := by
  have hsz := h.size
  have e : w'.heap[B + 1]? = some (.cells #[.int .i64 (n : Int), v] 83 (0, 0)) := by
    rw [hgrow.block (B + 1) (by simp; omega) (fun e => by have := (h.row.lt _ e.symm).1; omega), Below.heap_alloc _ _ _ (by simp; omega), Below.heap_alloc _ _ _ (by omega)]
    exact h.self
  refine ⟨?_, ?_, ?_⟩
  · unfold World.cell?; rw [e]; simp
  · unfold World.cell?; rw [e]; simp
  · unfold World.frozen?; rw [e]; simp

theorem one_new (wr : World) (O : Obj) (x : Value) (t : TypeId) : ∀ j u, ([x] : List Value)[j]? = some u → ((wr.alloc O).alloc (.cells #[x] t)).cell? (Addr.add ⟨wr.heap.size + 1, 0, none⟩ j) = some u := by
  intro j u hu
  have hb : ((wr.alloc O).alloc (.cells #[x] t)).heap[wr.heap.size + 1]? = some (.cells #[x] t) := by
    have := heap_alloc_new (wr.alloc O) (.cells #[x] t)
    simpa using this
  cases j with
  | zero =>
    cases hu
    show ((wr.alloc O).alloc (.cells #[x] t)).cell? ⟨wr.heap.size + 1, 0, none⟩ = some x
    unfold World.cell?
    rw [hb]
    rfl
  | succ j => simp at hu

theorem Making.start (w : World) (n : Nat) : Making w w.heap.size n 0 (.slice none 0 0) [] (((w.alloc (.cells #[.int .i64 0, .slice none 0 0] 83)).alloc (.cells #[.int .i64 (n : Int), .slice none 0 0] 83))) := by
  refine ⟨((Below.refl _ _).alloc (Nat.le_refl _) _).alloc (by simp) _, ?_, ?_, rfl, World.ownsRow_nil _ _ _ _, fun j b ws e => by simp at e, fun i j b b' ws ws' e => by simp at e⟩
  · rw [Below.heap_alloc _ _ _ (by simp)]; exact heap_alloc_new w _
  · have := heap_alloc_new (w.alloc (.cells #[.int .i64 0, .slice none 0 0] 83)) (.cells #[.int .i64 (n : Int), .slice none 0 0] 83)
    simpa using this

theorem Making.resCells {w wr : World} {B n k : Nat} {v : Value} {lv : List (Nat × List Nat)} (h : Making w B n k v lv wr) :
    wr.cell? ⟨B, 0, none⟩ = some (.int .i64 0) ∧ wr.cell? ⟨B, 1, none⟩ = some (.slice none 0 0) ∧ wr.frozen? ⟨B, 0, none⟩ = false ∧ wr.frozen? ⟨B, 1, none⟩ = false := by
  refine ⟨?_, ?_, ?_, ?_⟩
  · unfold World.cell?; rw [h.res]; simp
  · unfold World.cell?; rw [h.res]; simp
  · unfold World.frozen?; rw [h.res]; simp
  · unfold World.frozen?; rw [h.res]; simp

/-- All levels are made. -/
theorem Making.done {w wr : World} {B n k g cap : Nat} {lv : List (Nat × List Nat)} (h : Making w B n k (.slice (some ⟨g, 0, none⟩) k cap) lv wr) (h1 : 1 ≤ n) (hn : n ≤ 1048576) (hk : 1 ≤ k) (hkn : k ≤ n) (htop : cd n k ≤ 1) :
    Rep wr (B + 2) wr.heap.size g lv ∧ Good (lv.map (·.2)) n (fun _ => False) := by
  obtain ⟨hl, hv⟩ := h.row
  rcases hv with ⟨hv, _⟩ | ⟨g0, c0, cur, hv, hg, hh, hc1, hc2, hc3, hc4⟩
  · cases hv
  · cases hv
    have hlen := h.len
    have hget : ∀ (j : Nat) (ws : List Nat), (lv.map (·.2))[j]? = some ws → ∃ b, lv[j]? = some (b, ws) := by
      intro k ws e
      rw [List.getElem?_map] at e
      cases e2 : lv[k]? with
      | none => rw [e2] at e; cases e
      | some y => rw [e2] at e; cases e; exact ⟨y.1, rfl⟩
    have hgl : g < wr.heap.size := by
      rcases Nat.lt_or_ge g wr.heap.size with h1 | h1
      · exact h1
      · rw [Array.getElem?_eq_none h1] at hh; cases hh
    refine ⟨⟨fun j b ws e => (h.words j b ws e).1, fun j b ws e => ?_, h.apart, fun j b ws e => ⟨(h.words j b ws e).2.1, (h.words j b ws e).1.lt, fun e' => ?_⟩, ⟨hg, hgl⟩, Nat.le_refl _⟩,
      ⟨h1, hn, by simp [hlen, hk], by simp [hlen]; omega, by simpa [hlen] using htop, fun j ws e => ?_, (fun x hx => absurd hx id), fun j ws e => ?_⟩⟩
    · have hj : j < lv.length := (List.getElem?_eq_some_iff.1 e).1
      have h2 : cur.toList[j]? = some (sl (b, ws)) := by
        have h3 : (cur.toList.take (k * 1))[j]? = some (sl (b, ws)) := by rw [hc4]; simp [e]
        rw [List.getElem?_take] at h3
        split at h3
        · exact h3
        · cases h3
      unfold World.cell?
      rw [hh]
      simpa [sl] using h2
    · subst e'
      have := (h.words j b ws e).1
      rw [Words, hh] at this
      cases this
    · obtain ⟨b, e⟩ := hget j ws e
      rw [(h.words j b ws e).2.2]; simp
    · obtain ⟨b, e⟩ := hget j ws e
      rw [(h.words j b ws e).2.2]; exact Level.zeros _ _

theorem Rep.low {w : World} {lo hi lb lo' : Nat} {lv : List (Nat × List Nat)} (h : Rep w lo hi lb lv) (hl : lo' ≤ lo) : Rep w lo' hi lb lv :=
  ⟨h.words, h.row, h.apart, fun k b ws e => ⟨Nat.le_trans hl (h.inner k b ws e).1, (h.inner k b ws e).2⟩, ⟨Nat.le_trans hl h.lbIn.1, h.lbIn.2⟩, h.hiIn⟩

/-- The result's block is laid. -/
theorem Making.close {w wr : World} {B n k g cap : Nat} {lv : List (Nat × List Nat)} (h : Making w B n k (.slice (some ⟨g, 0, none⟩) k cap) lv wr) (h1 : 1 ≤ n) (hn : n ≤ 1048576) (hk : 1 ≤ k) (hkn : k ≤ n) (htop : cd n k ≤ 1) :
    ((wr.setCell ⟨B, 0, none⟩ (.int .i64 (n : Int))).setCell ⟨B, 1, none⟩ (.slice (some ⟨g, 0, none⟩) k cap)).heap[B]? = some (.cells #[.int .i64 (n : Int), .slice (some ⟨g, 0, none⟩) k cap] 83 (0, 0)) ∧
    Rep ((wr.setCell ⟨B, 0, none⟩ (.int .i64 (n : Int))).setCell ⟨B, 1, none⟩ (.slice (some ⟨g, 0, none⟩) k cap)) B ((wr.setCell ⟨B, 0, none⟩ (.int .i64 (n : Int))).setCell ⟨B, 1, none⟩ (.slice (some ⟨g, 0, none⟩) k cap)).heap.size g lv ∧
    Good (lv.map (·.2)) n (fun _ => False) ∧ Below B w ((wr.setCell ⟨B, 0, none⟩ (.int .i64 (n : Int))).setCell ⟨B, 1, none⟩ (.slice (some ⟨g, 0, none⟩) k cap)) ∧ lv.length = k := by
  obtain ⟨hr, hg⟩ := h.done h1 hn hk hkn htop
  have hw : Within B (B + 1) wr ((wr.setCell ⟨B, 0, none⟩ (.int .i64 (n : Int))).setCell ⟨B, 1, none⟩ (.slice (some ⟨g, 0, none⟩) k cap)) :=
    ((Within.refl B (B + 1) wr).setCell (p := ⟨B, 0, none⟩) (Nat.le_refl _) (Nat.lt_succ_self _) _).setCell (p := ⟨B, 1, none⟩) (Nat.le_refl _) (Nat.lt_succ_self _) _
  refine ⟨?_, ?_, hg, (h.below.setCell (p := ⟨B, 0, none⟩) (Nat.le_refl _) _).setCell (p := ⟨B, 1, none⟩) (Nat.le_refl _) _, h.len⟩
  · have hr := h.res
    unfold World.setCell
    rw [Array.getElem?_modify, if_pos rfl, Array.getElem?_modify, if_pos rfl, hr]
    simp
  · have e : ((wr.setCell ⟨B, 0, none⟩ (.int .i64 (n : Int))).setCell ⟨B, 1, none⟩ (.slice (some ⟨g, 0, none⟩) k cap)).heap.size = wr.heap.size := by simp
    rw [e]
    exact (hr.of hw (Or.inr (by omega))).low (by omega)

end Go.Proofs.YtjkiagjgnfaknaaDoor
