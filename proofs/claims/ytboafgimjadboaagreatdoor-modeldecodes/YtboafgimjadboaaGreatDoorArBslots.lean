/- 'newMarks': levels of words, none marked. 'newMarks', walked. 'fill': all places are marked. A Slots in memory, and what its calls answer: New, Take, Free, Len. What Take, Free and Len of a Slots answer. -/
import Derived.Test.YtboafgimjadboaaGreatDoorArBtree
import Derived.Test.YtboafgimjadboaaGreatDoorChecked
import Derived.Deep.RegionLaw
import Derived.Lib.SmallJoins
import Derived.Laws.LoneSync
namespace Go.Proofs.YtboafgimjadboaaGreatDoor.Ar
open Go.RowKit

/-- append onto a row of the call's own, as one step of a region that draws. -/
theorem step_append_own {P : Program} {ops : Array Oper} {o : Oper} {a : Act} {w : World} {K : Act → World → Prop} {Q : Exit → Act → World → Prop} {E : Prop}
    (hg : o.guard = none) (s x : Operand) (t : TypeId) (hop : o.op = Op.call { callee := Callee.builtin Builtin.append, args := #[s, x], argTypes := #[t, t] })
    (base : Nat) (e : TypeId) (i : TypeInfo) (z : Value) (size bytes : Nat) (h1 : P.underlying t = some (.slice e)) (h2 : P.info? e = some i) (h3 : i.zero = some z) (h4 : i.size = size) (h5 : i.bytes = bytes) (h6 : z.cells.size = size) (h7 : 0 < size)
    (v : Value) (n : Nat) (xs : List Value) (hs : a.eval s = v) (hown : w.ownsRow base e size v n xs)
    (ad : Addr) (m c : Nat) (news : List Value) (hx : a.eval x = .slice (some ad) m c) (hn : news.length = m * size) (hc : ∀ j u, news[j]? = some u → w.cell? (ad.add j) = some u) (h1c : ∀ u ∈ news, u.oneCell' = true)
    (b1 : n + m ≤ maxLen) (b2 : (n + m) * bytes ≤ 140737488355328) (hb : base ≤ w.heap.size)
    (hK : ∀ v' w', w'.ownsRow base e size v' (n + m) (xs ++ news) → w.grownBy w' v.ownBlock → K (a.put o.dst v') w') :
    if Region.wanted o (yielded ops a.tmps) = true then Oper.wp P o a w K Q else E := by
  have hw : Region.wanted o (yielded ops a.tmps) = true := by simp [Region.wanted, hg]
  rw [if_pos hw]
  obtain ⟨v', w', hrun, r1, r2, _⟩ := run_append_own (P := P) w base t o.type e i z size bytes h1 h2 h3 h4 h5 h6 h7 v n xs hown ad m c news hn hc h1c b1 b2 hb
  unfold Oper.wp
  simp [execOp, hop, resolve, invoke, builtin, hs, hx, hrun, Result.andThen]
  exact hK v' w' r1 r2

/-- A level's words as the row of levels holds them. -/
def sl (x : Nat × List Nat) : Value := .slice (some ⟨x.1, 0, none⟩) x.2.length x.2.length

theorem infoU64 : (Tryz.prog.info? 90).map (fun i => (i.zero, i.size, i.bytes)) = some (some (.int .u64 0), 1, 8) := by kernel_rfl
theorem infoWords : (Tryz.prog.info? 193).map (fun i => (i.zero, i.size, i.bytes)) = some (some (.slice none 0 0), 1, 24) := by kernel_rfl

set_option maxRecDepth 100000 in
/-- 'make' of words. -/
theorem make_words (N : Nat) (hN : N ≤ 1048576) (w : World) :
    (Instr.makeSlice 193 (.int .i64 (N : Int)) (.int .i64 (N : Int))).run Tryz.prog w = .ok (.slice (some ⟨w.heap.size, 0, none⟩) N N) (w.alloc (.cells (Array.replicate N (.int .u64 0)) 90)) := by
  obtain ⟨i0, hi, hz0, hz1, hz2⟩ := info_parts infoU64
  have h := run_make (P := Tryz.prog) w 193 90 i0 _ Tryz.underlying193 hi hz0 .i64 .i64 N N (by omega) (Int.le_refl _) (by rw [hz2]; omega) (by omega)
  rw [h]
  simp only [Int.toNat_natCast, hz1]
  congr 3
  apply Array.ext
  · simp [madeCells]
  · intro j h1 h2
    simp [madeCells, Value.cells, Nat.mod_one]

/-- What stands in memory while the levels are made: the result's block, the struct's own, the row, the words. -/
structure Making (w : World) (B n k : Nat) (v : Value) (lv : List (Nat × List Nat)) (wr : World) : Prop where
  below : Below B w wr
  res : wr.heap[B]? = some (.cells #[.int .i64 0, .slice none 0 0] 153 (0, 0))
  self : wr.heap[B + 1]? = some (.cells #[.int .i64 (n : Int), v] 153 (0, 0))
  len : lv.length = k
  row : wr.ownsRow (B + 2) 193 1 v k (lv.map sl)
  words : ∀ (j b : Nat) (ws : List Nat), lv[j]? = some (b, ws) → Words wr b ws ∧ B + 2 ≤ b ∧ ws = List.replicate (cd n (j + 1)) 0
  apart : ∀ (i j b b' : Nat) (ws ws' : List Nat), lv[i]? = some (b, ws) → lv[j]? = some (b', ws') → i ≠ j → b ≠ b'

theorem Making.cell0 {w wr : World} {B n k : Nat} {v : Value} {lv : List (Nat × List Nat)} (h : Making w B n k v lv wr) : wr.cell? ⟨B + 1, 0, none⟩ = some (.int .i64 (n : Int)) := by
  unfold World.cell?; rw [h.self]; simp
theorem Making.cell1 {w wr : World} {B n k : Nat} {v : Value} {lv : List (Nat × List Nat)} (h : Making w B n k v lv wr) : wr.cell? ⟨B + 1, 1, none⟩ = some v := by
  unfold World.cell?; rw [h.self]; simp
theorem Making.size {w wr : World} {B n k : Nat} {v : Value} {lv : List (Nat × List Nat)} (h : Making w B n k v lv wr) : B + 2 ≤ wr.heap.size := by
  rcases Nat.lt_or_ge (B + 1) wr.heap.size with h1 | h1
  · omega
  · have := h.self; rw [Array.getElem?_eq_none h1] at this; cases this

/-- One level more: behind the make and the append, the struct's field stored. -/
theorem Making.more {w wr w' : World} {B n k N g cap : Nat} {v : Value} {lv : List (Nat × List Nat)} (h : Making w B n k v lv wr) (hN : N = cd n (k + 1)) (o : Obj)
    (hown : w'.ownsRow (B + 2) 193 1 (.slice (some ⟨g, 0, none⟩) (k + 1) cap) (k + 1) (lv.map sl ++ [.slice (some ⟨wr.heap.size, 0, none⟩) N N]))
    (hgrow : ((wr.alloc (.cells (Array.replicate N (.int .u64 0)) 90)).alloc o).grownBy w' v.ownBlock) :
    Making w B n (k + 1) (.slice (some ⟨g, 0, none⟩) (k + 1) cap) (lv ++ [(wr.heap.size, List.replicate N 0)]) (w'.setCell ⟨B + 1, 1, none⟩ (.slice (some ⟨g, 0, none⟩) (k + 1) cap)) := by
  have hsz := h.size
  have hvb : ∀ q, v.ownBlock = some q → B + 2 ≤ q := fun q hq => (h.row.lt q hq).1
  have old : ∀ q, q < wr.heap.size → some q ≠ v.ownBlock → w'.heap[q]? = wr.heap[q]? := by
    intro q hq hne
    rw [hgrow.block q (by simp; omega) hne, Below.heap_alloc _ _ _ (by simp; omega), Below.heap_alloc _ _ _ hq]
  have low : ∀ q, q < B + 2 → w'.heap[q]? = wr.heap[q]? := fun q hq => old q (by omega) (fun e => by have := hvb q e.symm; omega)
  have hrep : ((List.replicate N 0).map wc).toArray = Array.replicate N (.int .u64 0) := by simp [wc]
  have hnew : w'.heap[wr.heap.size]? = some (.cells ((List.replicate N 0).map wc).toArray 90 (0, 0)) := by
    rw [hrep]
    rw [hgrow.block wr.heap.size (by simp; omega) (fun e => by have := (h.row.lt _ e.symm).2; omega), Below.heap_alloc _ _ _ (by simp)]
    exact heap_alloc_new wr _
  have hss : w'.heap.size ≤ (w'.setCell ⟨B + 1, 1, none⟩ (.slice (some ⟨g, 0, none⟩) (k + 1) cap)).heap.size := by simp
  have oth : ∀ q, q ≠ B + 1 → (w'.setCell ⟨B + 1, 1, none⟩ (.slice (some ⟨g, 0, none⟩) (k + 1) cap)).heap[q]? = w'.heap[q]? := fun q hq => Below.heap_setCell _ _ _ _ hq
  have hwords : ∀ (j b : Nat) (ws : List Nat), lv[j]? = some (b, ws) → w'.heap[b]? = wr.heap[b]? := by
    intro j b ws e
    obtain ⟨h1, h2, _⟩ := h.words j b ws e
    refine old b h1.lt (fun e' => ?_)
    obtain ⟨_, hv⟩ := h.row
    rcases hv with ⟨rfl, _⟩ | ⟨g0, c0, cur, rfl, _, hh, _⟩
    · cases e'
    · cases e'
      rw [h1] at hh
      cases hh
  have hget : ∀ (j b : Nat) (ws : List Nat), (lv ++ [(wr.heap.size, List.replicate N 0)])[j]? = some (b, ws) → lv[j]? = some (b, ws) ∨ (j = k ∧ b = wr.heap.size ∧ ws = List.replicate N 0) := by
    intro j b ws e
    have hl := h.len
    rw [List.getElem?_append] at e
    split at e
    · exact Or.inl e
    · rename_i hj
      have h0 : j - lv.length = 0 := by
        rcases Nat.eq_zero_or_pos (j - lv.length) with h0 | h0
        · exact h0
        · rw [List.getElem?_eq_none (by simp; omega)] at e; cases e
      rw [h0] at e
      cases e
      exact Or.inr ⟨by omega, rfl, rfl⟩
  refine ⟨?_, ?_, ?_, by simp [h.len], ?_, fun j b ws e => ?_, fun i j b b' ws ws' e1 e2 hne => ?_⟩
  · refine ⟨hgrow.os.trans h.below.os, hgrow.tape.trans h.below.tape, hgrow.output.trans h.below.output, ?_, fun q hq => ?_⟩
    · have := h.below.size; have := hgrow.size; simp at *; omega
    · rw [oth q (by omega), low q (by omega)]; exact h.below.block q hq
  · rw [oth B (by omega), low B (by omega)]; exact h.res
  · unfold World.setCell
    rw [Array.getElem?_modify, if_pos rfl, low (B + 1) (by omega), h.self]
    simp
  · rw [List.map_append, show List.map sl [(wr.heap.size, List.replicate N 0)] = [.slice (some ⟨wr.heap.size, 0, none⟩) N N] from by simp [sl]]
    exact ownsRow_setCell_below hown (by simp) _
  · rcases hget j b ws e with e | ⟨rfl, rfl, rfl⟩
    · obtain ⟨h1, h2, h3⟩ := h.words j b ws e
      exact ⟨h1.of ((oth b (by omega)).trans (hwords j b ws e)), h2, h3⟩
    · exact ⟨(oth _ (by omega)).trans hnew, by omega, by rw [hN]⟩
  · rcases hget i b ws e1 with e1 | ⟨rfl, rfl, rfl⟩ <;> rcases hget j b' ws' e2 with e2 | ⟨rfl, rfl, rfl⟩
    · exact h.apart _ _ _ _ _ _ e1 e2 hne
    · have := (h.words _ _ _ e1).1.lt; omega
    · have := (h.words _ _ _ e2).1.lt; omega
    · exact absurd rfl hne

theorem Making.drew {w wr : World} {B n k : Nat} {v : Value} {lv : List (Nat × List Nat)} (h : Making w B n k v lv wr) : Making w B n k v lv wr.drew := ⟨h.below.drew, h.res, h.self, h.len, h.row, h.words, h.apart⟩

/-- The struct's own cells behind the make and the append. -/
theorem Making.grown {w wr w' : World} {B n k : Nat} {v : Value} {lv : List (Nat × List Nat)} (h : Making w B n k v lv wr) {O1 O2 : Obj} (hgrow : ((wr.alloc O1).alloc O2).grownBy w' v.ownBlock) :
    w'.cell? ⟨B + 1, 0, none⟩ = some (.int .i64 (n : Int)) ∧ w'.cell? ⟨B + 1, 1, none⟩ = some v ∧ w'.frozen? ⟨B + 1, 1, none⟩ = false := by
  have hsz := h.size
  have e : w'.heap[B + 1]? = some (.cells #[.int .i64 (n : Int), v] 153 (0, 0)) := by
    rw [hgrow.block (B + 1) (by simp; omega) (fun e => by have := (h.row.lt _ e.symm).1; omega), Below.heap_alloc _ _ _ (by simp; omega), Below.heap_alloc _ _ _ (by omega)]
    exact h.self
  refine ⟨?_, ?_, ?_⟩
  · unfold World.cell?; rw [e]; simp
  · unfold World.cell?; rw [e]; simp
  · unfold World.frozen?; rw [e]; simp

theorem one_new (wr : World) (O : Obj) (x : Value) (t : TypeId) : ∀ j u, ([x] : List Value)[j]? = some u → ((wr.alloc O).alloc (.cells #[x] t)).cell? (Addr.add ⟨wr.heap.size + 1, 0, none⟩ j) = some u := by
  intro j u hu
  have hb : ((wr.alloc O).alloc (.cells #[x] t)).heap[wr.heap.size + 1]? = some (.cells #[x] t) := by
    have := heap_alloc_new (wr.alloc O) (.cells #[x] t)
    simpa using this
  cases j with
  | zero =>
    cases hu
    show ((wr.alloc O).alloc (.cells #[x] t)).cell? ⟨wr.heap.size + 1, 0, none⟩ = some x
    unfold World.cell?
    rw [hb]
    rfl
  | succ j => simp at hu

theorem Making.start (w : World) (n : Nat) : Making w w.heap.size n 0 (.slice none 0 0) [] (((w.alloc (.cells #[.int .i64 0, .slice none 0 0] 153)).alloc (.cells #[.int .i64 (n : Int), .slice none 0 0] 153))) := by
  refine ⟨((Below.refl _ _).alloc (Nat.le_refl _) _).alloc (by simp) _, ?_, ?_, rfl, World.ownsRow_nil _ _ _ _, fun j b ws e => by simp at e, fun i j b b' ws ws' e => by simp at e⟩
  · rw [Below.heap_alloc _ _ _ (by simp)]; exact heap_alloc_new w _
  · have := heap_alloc_new (w.alloc (.cells #[.int .i64 0, .slice none 0 0] 153)) (.cells #[.int .i64 (n : Int), .slice none 0 0] 153)
    simpa using this

theorem Making.resCells {w wr : World} {B n k : Nat} {v : Value} {lv : List (Nat × List Nat)} (h : Making w B n k v lv wr) :
    wr.cell? ⟨B, 0, none⟩ = some (.int .i64 0) ∧ wr.cell? ⟨B, 1, none⟩ = some (.slice none 0 0) ∧ wr.frozen? ⟨B, 0, none⟩ = false ∧ wr.frozen? ⟨B, 1, none⟩ = false := by
  refine ⟨?_, ?_, ?_, ?_⟩
  · unfold World.cell?; rw [h.res]; simp
  · unfold World.cell?; rw [h.res]; simp
  · unfold World.frozen?; rw [h.res]; simp
  · unfold World.frozen?; rw [h.res]; simp

/-- All levels are made. -/
theorem Making.done {w wr : World} {B n k g cap : Nat} {lv : List (Nat × List Nat)} (h : Making w B n k (.slice (some ⟨g, 0, none⟩) k cap) lv wr) (h1 : 1 ≤ n) (hn : n ≤ 1048576) (hk : 1 ≤ k) (hkn : k ≤ n) (htop : cd n k ≤ 1) :
    Rep wr (B + 2) wr.heap.size g lv ∧ Good (lv.map (·.2)) n (fun _ => False) := by
  obtain ⟨hl, hv⟩ := h.row
  rcases hv with ⟨hv, _⟩ | ⟨g0, c0, cur, hv, hg, hh, hc1, hc2, hc3, hc4⟩
  · cases hv
  · cases hv
    have hlen := h.len
    have hget : ∀ (j : Nat) (ws : List Nat), (lv.map (·.2))[j]? = some ws → ∃ b, lv[j]? = some (b, ws) := by
      intro k ws e
      rw [List.getElem?_map] at e
      cases e2 : lv[k]? with
      | none => rw [e2] at e; cases e
      | some y => rw [e2] at e; cases e; exact ⟨y.1, rfl⟩
    have hgl : g < wr.heap.size := by
      rcases Nat.lt_or_ge g wr.heap.size with h1 | h1
      · exact h1
      · rw [Array.getElem?_eq_none h1] at hh; cases hh
    refine ⟨⟨fun j b ws e => (h.words j b ws e).1, fun j b ws e => ?_, h.apart, fun j b ws e => ⟨(h.words j b ws e).2.1, (h.words j b ws e).1.lt, fun e' => ?_⟩, ⟨hg, hgl⟩, Nat.le_refl _⟩,
      ⟨h1, hn, by simp [hlen, hk], by simp [hlen]; omega, by simpa [hlen] using htop, fun j ws e => ?_, (fun x hx => absurd hx id), fun j ws e => ?_⟩⟩
    · have hj : j < lv.length := (List.getElem?_eq_some_iff.1 e).1
      have h2 : cur.toList[j]? = some (sl (b, ws)) := by
        have h3 : (cur.toList.take (k * 1))[j]? = some (sl (b, ws)) := by rw [hc4]; simp [e]
        rw [List.getElem?_take] at h3
        split at h3
        · exact h3
        · cases h3
      unfold World.cell?
      rw [hh]
      simpa [sl] using h2
    · subst e'
      have := (h.words j b ws e).1
      rw [Words, hh] at this
      cases this
    · obtain ⟨b, e⟩ := hget j ws e
      rw [(h.words j b ws e).2.2]; simp
    · obtain ⟨b, e⟩ := hget j ws e
      rw [(h.words j b ws e).2.2]; exact Level.zeros _ _

theorem Rep.low {w : World} {lo hi lb lo' : Nat} {lv : List (Nat × List Nat)} (h : Rep w lo hi lb lv) (hl : lo' ≤ lo) : Rep w lo' hi lb lv :=
  ⟨h.words, h.row, h.apart, fun k b ws e => ⟨Nat.le_trans hl (h.inner k b ws e).1, (h.inner k b ws e).2⟩, ⟨Nat.le_trans hl h.lbIn.1, h.lbIn.2⟩, h.hiIn⟩

/-- The result's block is laid. -/
theorem Making.close {w wr : World} {B n k g cap : Nat} {lv : List (Nat × List Nat)} (h : Making w B n k (.slice (some ⟨g, 0, none⟩) k cap) lv wr) (h1 : 1 ≤ n) (hn : n ≤ 1048576) (hk : 1 ≤ k) (hkn : k ≤ n) (htop : cd n k ≤ 1) :
    ((wr.setCell ⟨B, 0, none⟩ (.int .i64 (n : Int))).setCell ⟨B, 1, none⟩ (.slice (some ⟨g, 0, none⟩) k cap)).heap[B]? = some (.cells #[.int .i64 (n : Int), .slice (some ⟨g, 0, none⟩) k cap] 153 (0, 0)) ∧
    Rep ((wr.setCell ⟨B, 0, none⟩ (.int .i64 (n : Int))).setCell ⟨B, 1, none⟩ (.slice (some ⟨g, 0, none⟩) k cap)) B ((wr.setCell ⟨B, 0, none⟩ (.int .i64 (n : Int))).setCell ⟨B, 1, none⟩ (.slice (some ⟨g, 0, none⟩) k cap)).heap.size g lv ∧
    Good (lv.map (·.2)) n (fun _ => False) ∧ Below B w ((wr.setCell ⟨B, 0, none⟩ (.int .i64 (n : Int))).setCell ⟨B, 1, none⟩ (.slice (some ⟨g, 0, none⟩) k cap)) ∧ lv.length = k := by
  obtain ⟨hr, hg⟩ := h.done h1 hn hk hkn htop
  have hw : Within B (B + 1) wr ((wr.setCell ⟨B, 0, none⟩ (.int .i64 (n : Int))).setCell ⟨B, 1, none⟩ (.slice (some ⟨g, 0, none⟩) k cap)) :=
    ((Within.refl B (B + 1) wr).setCell (p := ⟨B, 0, none⟩) (Nat.le_refl _) (Nat.lt_succ_self _) _).setCell (p := ⟨B, 1, none⟩) (Nat.le_refl _) (Nat.lt_succ_self _) _
  refine ⟨?_, ?_, hg, (h.below.setCell (p := ⟨B, 0, none⟩) (Nat.le_refl _) _).setCell (p := ⟨B, 1, none⟩) (Nat.le_refl _) _, h.len⟩
  · have hr := h.res
    unfold World.setCell
    rw [Array.getElem?_modify, if_pos rfl, Array.getElem?_modify, if_pos rfl, hr]
    simp
  · have e : ((wr.setCell ⟨B, 0, none⟩ (.int .i64 (n : Int))).setCell ⟨B, 1, none⟩ (.slice (some ⟨g, 0, none⟩) k cap)).heap.size = wr.heap.size := by simp
    rw [e]
    exact (hr.of hw (Or.inr (by omega))).low (by omega)

end Go.Proofs.YtboafgimjadboaaGreatDoor.Ar

namespace Go.Proofs.YtboafgimjadboaaGreatDoor.Ar
open Go.RowKit

set_option maxRecDepth 100000 in
set_option maxHeartbeats 4000000 in
theorem newMarks (n : Nat) (w : World) (h1 : 1 ≤ n) (hn : n ≤ 1048576) :
    Calls Tryz.prog 74 #[.int .i64 (n : Int)] w fun e w' => ∃ lb cap lv, e = .returned (.agg #[.int .i64 (n : Int), .slice (some ⟨lb, 0, none⟩) lv.length cap]) ∧ Rep w' w.heap.size w'.heap.size lb lv ∧
      Good (lv.map (·.2)) n (fun _ => False) ∧ Below w.heap.size w w' := by
  obtain ⟨i0, hi, hz0, hz1, hz2⟩ := info_parts infoWords
  have hst := hid (Making.start w n)
  go_enter Tryz.func74, Tryz.ntmps74
  go_wp2_with fail
  go_loopw [4] (fun u wr => ∃ k c : Nat, ∃ v lv, k + c ≤ n ∧ 1 ≤ c ∧ Hid (c = cd n k) ∧ u = .int .i64 (c : Int) ∧ Making w w.heap.size n k v lv wr)
    (fun u _ => (intOf u).toNat)
  case atStart => exact ⟨0, n, .slice none 0 0, [], by omega, h1, hid rfl, by go_num, hst.out⟩
  case round =>
    obtain ⟨k, c, v, lv, hkc, hc1, hc, rfl, hmk⟩ := hrel
    have c0 := hmk.cell0
    have c1 := hmk.cell1
    have hsz := hmk.size
    obtain ⟨N, hN⟩ : ∃ N, (c + 63) / 64 = N := ⟨_, rfl⟩
    have hNi : ((c : Int) + 63) / 64 = (N : Int) := by omega
    have hN1 : N ≤ 1048576 := by omega
    have hmake := make_words N hN1
    have hNc : Hid (N = cd n (k + 1)) := by rw [Hid, ← hN, hc.out]; rfl
    have c1b : (wr.alloc (.cells (Array.replicate N (.int .u64 0)) 90)).cell? ⟨w.heap.size + 1, 1, none⟩ = some v := by rw [World.cell?_alloc_lt _ _ ⟨w.heap.size + 1, 1, none⟩ (by simp; omega)]; exact c1
    have c1c : ((wr.alloc (.cells (Array.replicate N (.int .u64 0)) 90)).alloc (.cells #[.slice (some ⟨wr.heap.size, 0, none⟩) N N] 193)).cell? ⟨w.heap.size + 1, 1, none⟩ = some v := by rw [World.cell?_alloc_lt _ _ ⟨w.heap.size + 1, 1, none⟩ (by simp; omega)]; exact c1b
    clear hN
    go_wp2_with fail
    go_region_law (refine step_append_own rfl (.tmp 12) (.tmp 15) 151 rfl (w.heap.size + 2) 193 i0 (.slice none 0 0) 1 24 Tryz.underlying151 hi hz0 hz1 hz2 rfl (by decide) v k (lv.map sl) (by simp [Act.eval]) ((hmk.drew.row.alloc _).alloc _) ⟨wr.heap.size + 1, 0, none⟩ 1 1 [.slice (some ⟨wr.heap.size, 0, none⟩) N N] (by simp [Act.eval]) rfl (one_new wr _ _ _) (by simp [Value.oneCell']) (by unfold maxLen; omega) (by omega) (by simp; omega) ?_; intro v' w' hown' hgrow'; obtain ⟨g, cap', rfl⟩ := Joins.ownsRow_form hown' (by omega); have hnew := hid (Making.more hmk.drew hNc.out _ hown' hgrow'); obtain ⟨d0, d1, d2⟩ := Making.grown hmk.drew hgrow'; clear hown' hgrow')
    all_goals clear c0 c1 c1b c1c hmake hmk hst
    all_goals
      clear d0 d1 d2
      generalize w'.setCell ⟨w.heap.size + 1, 1, none⟩ (.slice (some ⟨g, 0, none⟩) (k + 1) cap') = W2 at hnew ⊢
      have e0 := hnew.out.cell0
      have e1 := hnew.out.cell1
      obtain ⟨r0, r1, r2, r3⟩ := hnew.out.resCells
      by_cases hlast : N ≤ 1
      · go_wp2
        obtain ⟨f1, f2, f3, f4, f5⟩ := hnew.out.close h1 hn (by omega) (by omega) (by rw [← hNc.out]; exact hlast)
        refine bodyPost_ret (results_cell_row rfl _ _ w.heap.size 153 _ (0, 0) _ rfl f1 Tryz.underlying153 rfl (by kernel_rfl)) rfl ?_
        refine ⟨g, cap', _, ?_, f2, f3, f4⟩
        rw [f5]
      · go_wp2_with fail
        go_roundw
        case rel => exact ⟨k + 1, N, _, _, by omega, by omega, hNc, by go_num, hnew.out⟩
        case measure => simp [intOf]; omega

end Go.Proofs.YtboafgimjadboaaGreatDoor.Ar

namespace Go.Proofs.YtboafgimjadboaaGreatDoor.Ar
open Go.RowKit

/-- The words while the first j of them are set. -/
def part (N j : Nat) : List Nat := List.replicate j 18446744073709551615 ++ List.replicate (N - j) 0

theorem part_zero (N : Nat) : part N 0 = List.replicate N 0 := by simp [part]
theorem part_length (N j : Nat) (h : j ≤ N) : (part N j).length = N := by simp [part]; omega
theorem part_get (N j : Nat) (h : j < N) : (part N j)[j]? = some 0 := by
  unfold part
  rw [List.getElem?_append_right (by simp), List.length_replicate, Nat.sub_self, List.getElem?_replicate, if_pos (by omega)]
theorem part_set (N j : Nat) (h : j < N) : (part N j).set j 18446744073709551615 = part N (j + 1) := by
  unfold part
  rw [List.set_append_right _ _ (by simp), show N - j = (N - (j + 1)) + 1 from by omega, List.replicate_succ (n := N - (j + 1)), List.replicate_succ']
  simp
theorem part_full (m : Nat) (h : m % 64 = 0) : part ((m + 63) / 64) (m / 64) = ones m := by
  unfold part ones
  rw [if_pos h, show (m + 63) / 64 - m / 64 = 0 from by omega]
  simp
theorem part_last (m : Nat) (h : m % 64 ≠ 0) : (part ((m + 63) / 64) (m / 64)).set (m / 64) (2 ^ (m % 64) - 1) = ones m := by
  unfold part ones
  rw [if_neg h, show (m + 63) / 64 - m / 64 = 0 + 1 from by omega, List.set_append_right _ _ (by simp)]
  simp

theorem set_self {α : Type} (l : List α) (k : Nat) (x : α) (h : l[k]? = some x) : l.set k x = l := by
  apply List.ext_getElem?
  intro j
  rw [List.getElem?_set]
  split
  · rename_i hk
    subst hk
    split
    · exact h.symm
    · rename_i hl
      rw [List.getElem?_eq_none (by omega)]
  · rfl

theorem pow_sub (m : Nat) (hm : m < 64) : IntKind.u64.wrap (IntKind.u64.wrap (2 ^ m) - 1) = ((2 ^ m - 1 : Nat) : Int) := by
  have h : 2 ^ m < 2 ^ 64 := Nat.pow_lt_pow_right (by decide) hm
  have h1 : 1 ≤ 2 ^ m := Nat.pow_pos (by decide)
  rw [wrap_pow m hm, IntKind.wrap_u64]
  generalize 2 ^ m = q at h h1
  omega

theorem Level.zero {ws : List Nat} {k : Nat} (h : Level ws k (fun _ => False)) : ws = List.replicate ws.length 0 := by
  rw [List.eq_replicate_iff]
  refine ⟨rfl, fun v hv => ?_⟩
  obtain ⟨i, hi⟩ := List.getElem?_of_mem hv
  apply Nat.eq_of_testBit_eq
  intro b
  have := h i v hi b
  rw [Nat.zero_testBit]
  cases e : v.testBit b with
  | false => rfl
  | true => have := this.1 e; simp at this

set_option maxRecDepth 100000 in
set_option maxHeartbeats 4000000 in
theorem fill (lo hi sb so n lb cap : Nat) (lv : List (Nat × List Nat)) (w : World) (hm : Marks w lo hi sb so n (fun _ => False) lb cap lv) :
    Calls Tryz.prog 75 #[.pointer (some ⟨sb, so, none⟩)] w fun e w' => e = .returned (.tuple #[]) ∧ (∃ lv', Marks w' lo hi sb so n (fun y => y < n) lb cap lv') ∧ Within lo hi w w' := by
  have hz : Hid (∀ (j b : Nat) (ws : List Nat), lv[j]? = some (b, ws) → ws = List.replicate (cd n (j + 1)) 0) := fun j b ws e => by
    obtain ⟨h1, h2⟩ := hm.good.each j b ws e
    rw [← h1]; exact h2.zero
  have hn := hm.good.le
  have hlv := hm.levels
  have hs := hm.size
  have hfew : lv.length ≤ 1048576 := by simpa using hm.good.few
  go_enter Tryz.func75, Tryz.ntmps75
  go_wp2
  go_loopw [2, 16] (fun u v wr => ∃ k c : Nat, k ≤ lv.length ∧ c ≤ 1048576 ∧ u = .int .i64 (c : Int) ∧ v = .int .i64 (k : Int) ∧ Hid (c = cd n k) ∧ Within lo hi w wr ∧ ∃ lv', lv'.length = lv.length ∧ Rep wr lo hi lb lv' ∧
      (∀ (j b : Nat) (ws : List Nat), lv'[j]? = some (b, ws) → (j < k → ws = ones (cd n j)) ∧ (k ≤ j → ws = List.replicate (cd n (j + 1)) 0)))
    (fun _ v _ => lv.length - (intOf v).toNat)
  case atStart => exact ⟨0, n, Nat.zero_le _, by omega, by go_num, by go_num, hid rfl, Within.refl _ _ _, lv, rfl, hm.rep, fun j b ws e => ⟨fun h => by omega, fun _ => hz.out j b ws e⟩⟩
  case round =>
    obtain ⟨k, c, hk, hc, rfl, rfl, hcc, hwi, lv', hll, hrep, hlev⟩ := hrel
    rcases Nat.lt_or_ge k lv.length with hlt | hge
    · obtain ⟨⟨b, ws⟩, e1⟩ : ∃ y, lv'[k]? = some y := ⟨_, List.getElem?_eq_getElem (by omega)⟩
      have hrow := hrep.row _ _ _ e1
      have hbi := hid (hrep.inner _ _ _ e1)
      obtain ⟨N, hN⟩ : ∃ N, (c + 63) / 64 = N := ⟨_, rfl⟩
      have hws0 : ws = part N 0 := by rw [part_zero, ← hN, hcc.out]; exact (hlev _ _ _ e1).2 (Nat.le_refl _)
      subst hws0
      have hNl : (part N 0).length = N := part_length N 0 (by omega)
      rw [hNl] at hrow
      have hl2 := hid hlev
      have hN2 : N ≤ 1048576 := by omega
      have hN3 : c / 64 ≤ N := by omega
      have hNh := hid hN
      have hst := hid ((set_self lv' k _ e1).symm ▸ hrep)
      have he1 := hid e1
      clear hlev hrep hN e1
      go_wp2_with fail
      go_loopw [22] (fun u wr => ∃ j : Nat, j ≤ c / 64 ∧ u = .int .i64 (j : Int) ∧ Within lo hi w wr ∧ Rep wr lo hi lb (lv'.set k (b, part N j)))
        (fun u _ => c / 64 - (intOf u).toNat)
      case atStart => exact ⟨0, by omega, by go_num, hwi, hst.out⟩
      case round =>
        obtain ⟨j, hj, rfl, hwi2, hrep2⟩ := hrel
        have hkl : k < lv'.length := by omega
        have hget : (lv'.set k (b, part N j))[k]? = some (b, part N j) := by simp [hkl]
        have hws := hrep2.words _ _ _ hget
        clear hrow hst
        rcases Nat.lt_or_ge j (c / 64) with hjl | hjg
        · have hcell := hws.cell (part_get N j (by omega))
          have hfro := hws.frozen (i := j)
          have hnx := hid (hrep2.set (i := j) (v := 18446744073709551615) hget)
          have hwn := hid (hwi2.setCell (p := ⟨b, j, none⟩) hbi.out.1 hbi.out.2.1 (.int .u64 ((18446744073709551615 : Nat) : Int)))
          clear hrep2 hws hwi2
          go_wp2_with fail
          go_roundw
          case rel => exact ⟨j + 1, by omega, by go_num, hwn.out, by have := hnx.out; rw [List.set_set, part_set N j (by omega)] at this; exact this⟩
          case measure => simp [intOf]; omega
        · obtain rfl : j = c / 64 := by omega
          have hand := and63 c (by omega)
          have hfin : Hid (∀ (W2 : World) (l2 : List (Nat × List Nat)), Within lo hi w W2 → Rep W2 lo hi lb l2 → l2 = lv'.set k (b, ones c) → ∃ lv'', lv''.length = lv.length ∧ Rep W2 lo hi lb lv'' ∧
              (∀ (j b : Nat) (ws : List Nat), lv''[j]? = some (b, ws) → (j < k + 1 → ws = ones (cd n j)) ∧ (k + 1 ≤ j → ws = List.replicate (cd n (j + 1)) 0))) := by
            rintro W2 l2 _ hr rfl
            refine ⟨_, by simpa using hll, hr, fun j b' ws' e => ?_⟩
            rw [List.getElem?_set] at e
            split at e
            · rename_i hjk
              subst hjk
              have e' : (b, ones c) = (b', ws') := by simpa [hkl] using e
              cases e'
              exact ⟨fun _ => by rw [hcc.out], fun h => by omega⟩
            · rename_i hjk
              obtain ⟨h1, h2⟩ := hl2.out j b' ws' e
              exact ⟨fun h => h1 (by omega), fun h => h2 (by omega)⟩
          by_cases hrest : c % 64 = 0
          · have hd : decide (((c % 64 : Nat) : Int) = 0) = true := decide_eq_true (by omega)
            have hx := hid (hfin.out _ _ hwi2 hrep2 (by rw [← hNh.out, part_full c hrest]))
            clear hrep2 hws
            go_wp2_with fail
            go_roundw
            case rel => exact ⟨k + 1, N, by omega, by omega, by go_num, by go_num, hid (by rw [← hNh.out, hcc.out]; rfl), hwi2, hx.out⟩
            case measure => simp [intOf]; omega
          · have hd : decide (((c % 64 : Nat) : Int) = 0) = false := decide_eq_false (by omega)
            have hlt2 : c / 64 < N := by have := hNh.out; omega
            have hcell := hws.cell (part_get N (c / 64) hlt2)
            have hfro := hws.frozen (i := c / 64)
            have hps := pow_sub (c % 64) (by omega)
            have hnx := hrep2.set (i := c / 64) (v := 2 ^ (c % 64) - 1) hget
            have hwn := hid (hwi2.setCell (p := ⟨b, c / 64, none⟩) hbi.out.1 hbi.out.2.1 (.int .u64 ((2 ^ (c % 64) - 1 : Nat) : Int)))
            have hx := hid (hfin.out _ _ hwn.out hnx (by rw [List.set_set, ← hNh.out, part_last c hrest]))
            clear hrep2 hws hnx
            go_wp2_with fail
            go_roundw
            case rel => exact ⟨k + 1, N, by omega, by omega, by go_num, by go_num, hid (by rw [← hNh.out, hcc.out]; rfl), hwn.out, hx.out⟩
            case measure => simp [intOf]; omega
    · go_wp2
      go_end0
      have ho := hm.out
      refine ⟨rfl, ⟨lv', hwi.cell hm.size ho, ?_, ho, hrep, hm.good.of hll (fun j b ws e => ?_) (fun x hx => hx)⟩, hwi⟩
      · rw [hll]; exact hwi.cell hm.levels ho
      · have hj : j < lv'.length := (List.getElem?_eq_some_iff.1 e).1
        rw [(hlev j b ws e).1 (by omega)]
        exact ⟨ones_length _, Level.ones n j⟩

end Go.Proofs.YtboafgimjadboaaGreatDoor.Ar

namespace Go.Proofs.YtboafgimjadboaaGreatDoor.Ar
open Go.RowKit

/-- What Slots holds: block sb, from lo to hi its own blocks; of the places those of l that are true are taken. -/
def Slots (w : World) (lo hi sb : Nat) (l : List Bool) : Prop :=
  ∃ m1 m2 vF vT lbF capF lvF lbT capT lvT, lo ≤ m1 ∧ m1 ≤ m2 ∧ m2 ≤ sb ∧ sb < hi ∧ hi ≤ w.heap.size ∧
    w.heap[sb]? = some (.cells #[.int .i64 (l.length : Int), vF, .int .i64 (l.length : Int), vT, .int .i64 ((l.count true : Nat) : Int)] 161 (0, 0)) ∧
    Marks w lo m1 sb 0 l.length (fun i => l[i]? = some false) lbF capF lvF ∧ Marks w m1 m2 sb 2 l.length (fun i => l[i]? = some true) lbT capT lvT

theorem Slots.pos {w : World} {lo hi sb : Nat} {l : List Bool} (h : Slots w lo hi sb l) : 1 ≤ l.length ∧ l.length ≤ 1048576 ∧ hi ≤ w.heap.size ∧ lo ≤ sb ∧ sb < hi := by
  obtain ⟨m1, m2, vF, vT, lbF, capF, lvF, lbT, capT, lvT, h1, h2, h3, h4, h5, h6, h7, h8⟩ := h
  exact ⟨h7.good.pos, h7.good.le, h5, by omega, h4⟩

theorem Slots.of {w w' : World} {lo hi sb lo' hi' : Nat} {l : List Bool} (h : Slots w lo hi sb l) (hw : Within lo' hi' w w') (ho : hi ≤ lo' ∨ hi' ≤ lo) : Slots w' lo hi sb l := by
  obtain ⟨m1, m2, vF, vT, lbF, capF, lvF, lbT, capT, lvT, h1, h2, h3, h4, h5, h6, h7, h8⟩ := h
  exact ⟨m1, m2, vF, vT, lbF, capF, lvF, lbT, capT, lvT, h1, h2, h3, h4, Nat.le_trans h5 hw.size, (hw.block sb (by omega) (by omega)).trans h6, h7.of hw (by omega) (by omega), h8.of hw (by omega) (by omega)⟩

theorem Marks.count {w : World} {lo hi sb so n lb cap : Nat} {P : Nat → Prop} {lv : List (Nat × List Nat)} (h : Marks w lo hi sb so n P lb cap lv) (hs : hi ≤ sb) (h4 : so + 1 < 4) (v : Value) : Marks (w.setCell ⟨sb, 4, none⟩ v) lo hi sb so n P lb cap lv := by
  refine ⟨?_, ?_, h.out, h.rep.of ((Within.refl sb (sb + 1) w).setCell (p := ⟨sb, 4, none⟩) (Nat.le_refl _) (Nat.lt_succ_self _) v) (Or.inl hs), h.good⟩
  · rw [World.cell?_setCell_other _ _ _ _ (by simp <;> omega)]; exact h.size
  · rw [World.cell?_setCell_other _ _ _ _ (by simp <;> omega)]; exact h.levels

theorem Marks.same {w : World} {lo hi sb so n lb cap : Nat} {P Q : Nat → Prop} {lv : List (Nat × List Nat)} (h : Marks w lo hi sb so n P lb cap lv) (e : ∀ x, P x ↔ Q x) : Marks w lo hi sb so n Q lb cap lv :=
  ⟨h.size, h.levels, h.out, h.rep, h.good.congr e⟩

theorem count_on (l : List Bool) (x : Nat) (h : l[x]? = some false) : (l.set x true).count true = l.count true + 1 := by
  obtain ⟨hx, e⟩ := List.getElem?_eq_some_iff.1 h
  rw [List.count_set hx, e]
  simp
theorem set_is (l : List Bool) (x y : Nat) (a b : Bool) (hx : x < l.length) : (l.set x a)[y]? = some b ↔ (y = x ∧ a = b) ∨ (y ≠ x ∧ l[y]? = some b) := by
  rw [List.getElem?_set]
  by_cases h : x = y
  · subst h; simp [hx]
  · have h' : ¬ y = x := fun e => h e.symm
    simp [h, h']

set_option maxHeartbeats 1000000 in
theorem add64 (a : Addr) (x d s : Int) (w : World) (hc : w.cell? a = some (.int .i64 x)) (hz : w.frozen? a = false) (hs : x + d = s) (h1 : -9223372036854775808 ≤ s) (h2 : s < 9223372036854775808) :
    Calls Tryz.prog 99 #[.pointer (some a), .int .i64 d] w fun e w' => e = .returned (.int .i64 s) ∧ w' = w.setCell a (.int .i64 s) := by
  have hx := run_call_add (P := Tryz.prog) Tryz.func120 (by kernel_rfl) (by kernel_rfl) (by kernel_rfl) .i64 (by kernel_rfl) (y := d) (s := s) hc hz (by simp [go_sem]; rw [IntKind.wrap_i64]; omega)
  obtain ⟨b, o, sp⟩ := a
  obtain rfl : sp = none := by
    unfold World.cell? at hc
    split at hc
    · split at hc
      · cases hc
      · rename_i h; simpa using h
    · cases hc
  go_enter Tryz.func99, Tryz.ntmps99
  go_wp2
  go_ret
  exact ⟨rfl, rfl⟩

set_option maxHeartbeats 1000000 in
theorem load64 (b o : Nat) (x : Int) (w : World) (hc : w.cell? ⟨b, o, none⟩ = some (.int .i64 x)) :
    Calls Tryz.prog 115 #[.pointer (some ⟨b, o, none⟩)] w fun e w' => e = .returned (.int .i64 x) ∧ w = w' := by
  have hx := run_call_load (P := Tryz.prog) Tryz.func134 (by kernel_rfl) (by kernel_rfl) (by kernel_rfl) .i64 (by kernel_rfl) hc
  go_enter Tryz.func115, Tryz.ntmps115
  go_wp2
  go_ret
  exact ⟨rfl, rfl⟩

theorem least_is {P : Nat → Prop} {f : Nat} : ∀ x, P x → f ≤ x → ∃ y, Least P f y := by
  intro x
  induction x using Nat.strongRecOn with
  | ind x ih =>
    intro hx hf
    by_cases h : ∃ y, y < x ∧ P y ∧ f ≤ y
    · obtain ⟨y, hy, hp, hfy⟩ := h
      exact ih y hy hp hfy
    · exact ⟨x, hx, hf, fun y hy hfy => by
        rcases Nat.lt_or_ge y x with h1 | h1
        · exact absurd ⟨y, h1, hy, hfy⟩ h
        · exact h1⟩

theorem next_hit (lo hi sb so n lb cap f x : Nat) (P : Nat → Prop) (lv : List (Nat × List Nat)) (w : World) (hm : Marks w lo hi sb so n P lb cap lv) (hT : Tab w) (hfb : f < 9223372036854775808) (hx : Least P f x) :
    Calls Tryz.prog 86 #[.pointer (some ⟨sb, so, none⟩), .int .i64 (f : Int)] w fun e w' => e = .returned (.tuple #[.int .i64 (x : Int), .bool true]) ∧ w = w' := by
  refine (next_nat lo hi sb so n lb cap f P lv w hm hT hfb).mono ?_
  rintro e w' ⟨(⟨y, rfl, hy⟩ | ⟨_, h⟩), rfl⟩
  · obtain rfl : y = x := Nat.le_antisymm (hy.2.2 x hx.1 hx.2.1) (hx.2.2 y hy.1 hy.2.1)
    exact ⟨rfl, rfl⟩
  · exact absurd hx.2.1 (h x hx.1)

theorem next_miss (lo hi sb so n lb cap f : Nat) (P : Nat → Prop) (lv : List (Nat × List Nat)) (w : World) (hm : Marks w lo hi sb so n P lb cap lv) (hT : Tab w) (hfb : f < 9223372036854775808) (hx : ∀ x, P x → ¬ f ≤ x) :
    Calls Tryz.prog 86 #[.pointer (some ⟨sb, so, none⟩), .int .i64 (f : Int)] w fun e w' => e = .returned (.tuple #[.int .i64 0, .bool false]) ∧ w = w' := by
  refine (next_nat lo hi sb so n lb cap f P lv w hm hT hfb).mono ?_
  rintro e w' ⟨(⟨y, rfl, hy⟩ | ⟨rfl, h⟩), rfl⟩
  · exact absurd hy.2.1 (hx y hy.1)
  · exact ⟨rfl, rfl⟩

/-- The struct is laid behind both marks. -/
theorem made {w w1 w2 : World} {n lbF capF lbT capT : Nat} {lvF lvT : List (Nat × List Nat)} (hr1 : Rep w1 w.heap.size w1.heap.size lbF lvF) (hg1 : Good (lvF.map (·.2)) n (fun _ => False)) (hb1 : Below w.heap.size w w1)
    (hr2 : Rep w2 w1.heap.size w2.heap.size lbT lvT) (hg2 : Good (lvT.map (·.2)) n (fun _ => False)) (hb2 : Below w1.heap.size w1 w2) {w3 : World}
    (h3 : w3 = w2.alloc (.cells #[.int .i64 (n : Int), .slice (some ⟨lbF, 0, none⟩) lvF.length capF, .int .i64 (n : Int), .slice (some ⟨lbT, 0, none⟩) lvT.length capT, .int .i64 0] 161)) :
    w3.heap[w2.heap.size]? = some (.cells #[.int .i64 (n : Int), .slice (some ⟨lbF, 0, none⟩) lvF.length capF, .int .i64 (n : Int), .slice (some ⟨lbT, 0, none⟩) lvT.length capT, .int .i64 0] 161 (0, 0)) ∧
    Marks w3 w.heap.size w1.heap.size w2.heap.size 0 n (fun _ => False) lbF capF lvF ∧ Marks w3 w1.heap.size w2.heap.size w2.heap.size 2 n (fun _ => False) lbT capT lvT ∧ Below w.heap.size w w3 := by
  have hh : w3.heap[w2.heap.size]? = some (.cells #[.int .i64 (n : Int), .slice (some ⟨lbF, 0, none⟩) lvF.length capF, .int .i64 (n : Int), .slice (some ⟨lbT, 0, none⟩) lvT.length capT, .int .i64 0] 161 (0, 0)) := by
    rw [h3]; exact heap_alloc_new w2 _
  have hc : ∀ i, w3.cell? ⟨w2.heap.size, i, none⟩ = (#[.int .i64 (n : Int), .slice (some ⟨lbF, 0, none⟩) lvF.length capF, .int .i64 (n : Int), .slice (some ⟨lbT, 0, none⟩) lvT.length capT, .int .i64 0] : Array Value)[i]? := by
    intro i
    unfold World.cell?
    rw [hh]
    simp
  have hw2 : Within w1.heap.size w1.heap.size w1 w2 := Within.ofBelow hb2 _ _
  have hw3 : Within w2.heap.size w2.heap.size w2 w3 := by rw [h3]; exact (Within.refl _ _ _).alloc _
  have hs1 := hb1.size
  have hs2 := hb2.size
  refine ⟨hh, ⟨by rw [hc]; rfl, by rw [hc]; rfl, Or.inr hs2, (hr1.of hw2 (Or.inl (Nat.le_refl _))).of hw3 (Or.inl hs2), hg1⟩, ⟨by rw [hc]; rfl, by rw [hc]; rfl, Or.inr (Nat.le_refl _), hr2.of hw3 (Or.inl (Nat.le_refl _)), hg2⟩, ?_⟩
  rw [h3]
  exact (hb1.trans (hb2.mono hs1)).alloc (Nat.le_trans hs1 hs2) _

theorem count_none (n : Nat) : (List.replicate n false).count true = 0 := by rw [List.count_replicate]; rfl

set_option maxRecDepth 100000 in
set_option maxHeartbeats 2000000 in
theorem new_ok (n : Nat) (w : World) (h1 : 1 ≤ n) (hn : n ≤ 1048576) :
    Calls Tryz.prog 47 #[.int .i64 (n : Int)] w fun e w' => ∃ sb, e = .returned (.tuple #[.pointer (some ⟨sb, 0, none⟩), .nilIface]) ∧ Slots w' w.heap.size w'.heap.size sb (List.replicate n false) ∧ Below w.heap.size w w' := by
  go_enter Tryz.func47, Tryz.ntmps47
  go_wp2_with fail
  refine (newMarks n _ h1 hn).mono ?_
  rintro e w1 ⟨lbF, capF, lvF, rfl, hr1, hg1, hb1⟩
  go_wp2_with fail
  refine (newMarks n _ h1 hn).mono ?_
  rintro e w2 ⟨lbT, capT, lvT, rfl, hr2, hg2, hb2⟩
  go_wp2_with fail
  obtain ⟨hh, hmF, hmT, hb3⟩ := made (capF := capF) (capT := capT) hr1 hg1 hb1 hr2 hg2 hb2 rfl
  have hs1 := hb1.size
  have hs2 := hb2.size
  refine (fill w.heap.size w1.heap.size w2.heap.size 0 n lbF capF lvF _ hmF).mono ?_
  rintro e w4 ⟨rfl, ⟨lvF', hmF'⟩, hw4⟩
  have hfin : Hid (Slots w4 w.heap.size w4.heap.size w2.heap.size (List.replicate n false) ∧ Below w.heap.size w w4) := by
    have hsz := hw4.size
    simp at hsz
    refine ⟨⟨w1.heap.size, w2.heap.size, .slice (some ⟨lbF, 0, none⟩) lvF.length capF, .slice (some ⟨lbT, 0, none⟩) lvT.length capT, lbF, capF, lvF', lbT, capT, lvT, hs1, hs2, Nat.le_refl _, by omega, Nat.le_refl _, ?_, ?_, ?_⟩, hb3.trans (hw4.below (Nat.le_refl _) (by simp; omega))⟩
    · rw [hw4.block _ (by simp) (Or.inr hs2), hh, count_none, List.length_replicate]
      rfl
    · rw [List.length_replicate]
      exact hmF'.same fun x => by rw [List.getElem?_replicate]; simp
    · rw [List.length_replicate]
      exact (hmT.of hw4 (Or.inr (Nat.le_refl _)) (Or.inr hs2)).same fun x => by rw [List.getElem?_replicate]; simp
  clear hh hmF hmT hb3 hmF' hr1 hr2 hg1 hg2 hb1 hb2 hw4
  go_wp2_with fail
  go_ret2
  exact ⟨w2.heap.size, rfl, hfin.out⟩

set_option maxHeartbeats 1000000 in
theorem takeIn (lo hi sb x : Nat) (l : List Bool) (w : World) (h : Slots w lo hi sb l) (hx : l[x]? = some false) :
    Calls Tryz.prog 80 #[.pointer (some ⟨sb, 0, none⟩), .int .i64 (x : Int)] w fun e w' => e = .returned (.tuple #[]) ∧ Slots w' lo hi sb (l.set x true) ∧ Within lo hi w w' := by
  obtain ⟨m1, m2, vF, vT, lbF, capF, lvF, lbT, capT, lvT, h1, h2, h3, h4, h5, h6, h7, h8⟩ := h
  have hxl : x < l.length := (List.getElem?_eq_some_iff.1 hx).1
  have hcnt := hid (count_on l x hx)
  have hcle := hid (List.count_le_length (a := true) (l := l))
  have hll := h7.good.le
  go_enter Tryz.func80, Tryz.ntmps80
  go_wp2_with fail
  refine (unset lo m1 sb 0 l.length lbF capF x _ lvF _ h7 hxl).mono ?_
  rintro e w1 ⟨rfl, ⟨lvF', hF⟩, hw1⟩
  have hT1 := h8.of hw1 (Or.inr (Nat.le_refl _)) (Or.inr (by omega))
  go_wp2_with fail
  refine (set_ m1 m2 sb 2 l.length lbT capT x _ lvT _ hT1 hxl).mono ?_
  rintro e w2 ⟨rfl, ⟨lvT', hT⟩, hw2⟩
  have hF2 := hF.of hw2 (Or.inl (Nat.le_refl _)) (Or.inr (by omega))
  have hh : w2.heap[sb]? = some (.cells #[.int .i64 (l.length : Int), vF, .int .i64 (l.length : Int), vT, .int .i64 ((l.count true : Nat) : Int)] 161 (0, 0)) := by
    rw [hw2.block sb (by have := hw1.size; omega) (Or.inr (by omega)), hw1.block sb (by omega) (Or.inr (by omega)), h6]
  have hc : w2.cell? ⟨sb, 4, none⟩ = some (.int .i64 ((l.count true : Nat) : Int)) := by unfold World.cell?; rw [hh]; simp
  have hz : w2.frozen? ⟨sb, 4, none⟩ = false := by unfold World.frozen?; rw [hh]; simp
  go_wp2_with fail
  refine (add64 ⟨sb, 4, none⟩ ((l.count true : Nat) : Int) 1 (((l.set x true).count true : Nat) : Int) _ hc hz (by rw [hcnt.out]; omega) (by omega) (by have := hcnt.out; have := hcle.out; omega)).mono ?_
  rintro e w3 ⟨rfl, rfl⟩
  have hfin : Hid (Slots (w2.setCell ⟨sb, 4, none⟩ (.int .i64 (((l.set x true).count true : Nat) : Int))) lo hi sb (l.set x true) ∧ Within lo hi w (w2.setCell ⟨sb, 4, none⟩ (.int .i64 (((l.set x true).count true : Nat) : Int)))) := by
    refine ⟨⟨m1, m2, vF, vT, lbF, capF, lvF', lbT, capT, lvT', h1, h2, h3, h4, ?_, ?_, ?_, ?_⟩, ?_⟩
    · have := hw1.size; have := hw2.size; simp; omega
    · unfold World.setCell
      rw [Array.getElem?_modify, if_pos rfl, hh]
      simp
    · rw [List.length_set]
      refine (hF2.count (by omega) (by omega) _).same fun y => ?_
      rw [set_is l x y true false hxl]
      simp [and_comm]
    · rw [List.length_set]
      refine (hT.count (by omega) (by omega) _).same fun y => ?_
      rw [set_is l x y true true hxl]
      by_cases hy : y = x <;> simp [hy]
    · exact ((hw1.mono (Nat.le_refl _) (by omega)).trans (hw2.mono h1 (by omega))).setCell (p := ⟨sb, 4, none⟩) (by simp; omega) h4 _
  clear hF hT hF2 hT1 hw1 hw2 hh hc hz h6 h7 h8
  go_wp2_with fail
  go_end0
  exact ⟨rfl, hfin.out⟩

end Go.Proofs.YtboafgimjadboaaGreatDoor.Ar

namespace Go.Proofs.YtboafgimjadboaaGreatDoor.Ar
open Go.RowKit

theorem Slots.cell4 {w : World} {lo hi sb : Nat} {l : List Bool} (h : Slots w lo hi sb l) : w.cell? ⟨sb, 4, none⟩ = some (.int .i64 ((l.count true : Nat) : Int)) := by
  obtain ⟨m1, m2, vF, vT, lbF, capF, lvF, lbT, capT, lvT, h1, h2, h3, h4, h5, h6, h7, h8⟩ := h
  unfold World.cell?; rw [h6]; simp







set_option maxHeartbeats 1000000 in
theorem len_ok (lo hi sb : Nat) (l : List Bool) (w : World) (h : Slots w lo hi sb l) :
    Calls Tryz.prog 85 #[.pointer (some ⟨sb, 0, none⟩)] w fun e w' => e = .returned (.int .i64 ((l.count true : Nat) : Int)) ∧ w = w' := by
  have hc := h.cell4
  go_enter Tryz.func85, Tryz.ntmps85
  go_wp2_with fail
  refine (load64 sb 4 _ _ hc).mono ?_
  rintro e w' ⟨rfl, rfl⟩
  go_wp2_with fail
  go_ret
  exact ⟨rfl, rfl⟩

end Go.Proofs.YtboafgimjadboaaGreatDoor.Ar
