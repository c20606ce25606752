/- What the marks hold in memory; what a call may have turned: blocks from lo to hi alone. -/
import Derived.Test.YtjkiagjgnfaknaaDoorTree
namespace Go.Proofs.YtjkiagjgnfaknaaDoor
open Go.RowKit

/-- Outside the blocks lo .. hi - 1 all is as it was; new blocks may have come. -/
structure Within (lo hi : Nat) (w w' : World) : Prop where
  os : w'.os = w.os
  tape : w'.tape = w.tape
  output : w'.output = w.output
  size : w.heap.size ≤ w'.heap.size
  block : ∀ k, k < w.heap.size → (k < lo ∨ hi ≤ k) → w'.heap[k]? = w.heap[k]?

theorem Within.refl (lo hi : Nat) (w : World) : Within lo hi w w := ⟨rfl, rfl, rfl, Nat.le_refl _, fun _ _ _ => rfl⟩

theorem Within.trans {lo hi : Nat} {a b c : World} (h : Within lo hi a b) (k : Within lo hi b c) : Within lo hi a c :=
  ⟨k.os.trans h.os, k.tape.trans h.tape, k.output.trans h.output, Nat.le_trans h.size k.size, fun i hi h1 => (k.block i (Nat.lt_of_lt_of_le hi h.size) h1).trans (h.block i hi h1)⟩

theorem Within.mono {lo hi lo' hi' : Nat} {w w' : World} (h : Within lo hi w w') (h1 : lo' ≤ lo) (h2 : hi ≤ hi') : Within lo' hi' w w' :=
  ⟨h.os, h.tape, h.output, h.size, fun k hk ho => h.block k hk (by omega)⟩

theorem Within.drew {lo hi : Nat} {a w : World} (h : Within lo hi a w) : Within lo hi a w.drew := ⟨h.os, h.tape, h.output, h.size, h.block⟩

theorem Within.setCell {lo hi : Nat} {a w : World} (h : Within lo hi a w) {p : Addr} (h1 : lo ≤ p.block) (h2 : p.block < hi) (u : Value) : Within lo hi a (w.setCell p u) :=
  h.trans ⟨rfl, rfl, rfl, by simp [World.setCell], fun k hk ho => Below.heap_setCell _ _ _ _ (by omega)⟩

theorem Within.alloc {lo hi : Nat} {a w : World} (h : Within lo hi a w) (o : Obj) : Within lo hi a (w.alloc o) :=
  h.trans ⟨rfl, rfl, rfl, by simp, fun k hk _ => Below.heap_alloc _ _ _ hk⟩

theorem Within.ofBelow {w w' : World} (h : Below w.heap.size w w') (lo hi : Nat) : Within lo hi w w' := ⟨h.os, h.tape, h.output, h.size, fun k hk _ => h.block k hk⟩

theorem Within.below {lo hi B : Nat} {w w' : World} (h : Within lo hi w w') (h1 : B ≤ lo) (h2 : B ≤ w.heap.size) : Below B w w' :=
  ⟨h.os, h.tape, h.output, h.size, fun k hk => h.block k (by omega) (by omega)⟩

theorem Within.cell {lo hi : Nat} {w w' : World} (h : Within lo hi w w') {p : Addr} {v : Value} (hc : w.cell? p = some v) (ho : p.block < lo ∨ hi ≤ p.block) : w'.cell? p = some v :=
  (World.cell?_of_block (h.block p.block (World.block_lt_of_cell? w p hc) ho)).trans hc

/-- A word as a cell. -/
def wc (n : Nat) : Value := .int .u64 (n : Int)

/-- The block b holds these words. -/
def Words (w : World) (b : Nat) (ws : List Nat) : Prop := w.heap[b]? = some (.cells (ws.map wc).toArray 77 (0, 0))

theorem Words.lt {w : World} {b : Nat} {ws : List Nat} (h : Words w b ws) : b < w.heap.size := by
  rcases Nat.lt_or_ge b w.heap.size with h1 | h1
  · exact h1
  · rw [Words, Array.getElem?_eq_none h1] at h; cases h

theorem Words.cell {w : World} {b i v : Nat} {ws : List Nat} (h : Words w b ws) (hv : ws[i]? = some v) : w.cell? ⟨b, i, none⟩ = some (.int .u64 (v : Int)) := by
  unfold World.cell?
  rw [h]
  simp [hv, wc]

theorem Words.frozen {w : World} {b i : Nat} {ws : List Nat} (h : Words w b ws) : w.frozen? ⟨b, i, none⟩ = false := by
  unfold World.frozen?
  rw [h]
  simp

theorem Words.set {w : World} {b : Nat} {ws : List Nat} (h : Words w b ws) (i v : Nat) : Words (w.setCell ⟨b, i, none⟩ (.int .u64 (v : Int))) b (ws.set i v) := by
  unfold Words World.setCell
  rw [Array.getElem?_modify, if_pos rfl, h]
  simp [wc, List.map_set]

theorem Words.of {w w' : World} {b : Nat} {ws : List Nat} (h : Words w b ws) (e : w'.heap[b]? = w.heap[b]?) : Words w' b ws := e.trans h

/-- The levels as they lie in memory, in the blocks lo .. hi - 1: the row of levels in block lb, each level's words in a block of their own. -/
structure Rep (w : World) (lo hi lb : Nat) (lv : List (Nat × List Nat)) : Prop where
  words : ∀ (k b : Nat) (ws : List Nat), lv[k]? = some (b, ws) → Words w b ws
  row : ∀ (k b : Nat) (ws : List Nat), lv[k]? = some (b, ws) → w.cell? ⟨lb, k, none⟩ = some (.slice (some ⟨b, 0, none⟩) ws.length ws.length)
  apart : ∀ (j k b b' : Nat) (ws ws' : List Nat), lv[j]? = some (b, ws) → lv[k]? = some (b', ws') → j ≠ k → b ≠ b'
  inner : ∀ (k b : Nat) (ws : List Nat), lv[k]? = some (b, ws) → lo ≤ b ∧ b < hi ∧ b ≠ lb
  lbIn : lo ≤ lb ∧ lb < hi
  hiIn : hi ≤ w.heap.size

theorem Rep.of {w w' : World} {lo hi lb lo' hi' : Nat} {lv : List (Nat × List Nat)} (h : Rep w lo hi lb lv) (hw : Within lo' hi' w w') (ho : hi ≤ lo' ∨ hi' ≤ lo) : Rep w' lo hi lb lv := by
  refine ⟨fun k b ws e => ?_, fun k b ws e => ?_, h.apart, h.inner, h.lbIn, Nat.le_trans h.hiIn hw.size⟩
  · have := h.inner k b ws e
    exact (h.words k b ws e).of (hw.block b (h.words k b ws e).lt (by omega))
  · have := h.lbIn
    exact hw.cell (h.row k b ws e) (by simp; omega)

theorem Rep.drew {w : World} {lo hi lb : Nat} {lv : List (Nat × List Nat)} (h : Rep w lo hi lb lv) : Rep w.drew lo hi lb lv := ⟨h.words, h.row, h.apart, h.inner, h.lbIn, h.hiIn⟩

theorem Rep.set {w : World} {lo hi lb k b i v : Nat} {ws : List Nat} {lv : List (Nat × List Nat)} (h : Rep w lo hi lb lv) (e : lv[k]? = some (b, ws)) :
    Rep (w.setCell ⟨b, i, none⟩ (.int .u64 (v : Int))) lo hi lb (lv.set k (b, ws.set i v)) := by
  have hget : ∀ (j b' : Nat) (ws' : List Nat), (lv.set k (b, ws.set i v))[j]? = some (b', ws') → (j = k ∧ b' = b ∧ ws' = ws.set i v) ∨ (j ≠ k ∧ lv[j]? = some (b', ws')) := by
    intro j b' ws' he
    rw [List.getElem?_set] at he
    split at he
    · rename_i hjk
      split at he
      · cases he; exact Or.inl ⟨hjk.symm, rfl, rfl⟩
      · cases he
    · rename_i hjk
      exact Or.inr ⟨fun x => hjk x.symm, he⟩
  refine ⟨fun j b' ws' he => ?_, fun j b' ws' he => ?_, fun j j' b1 b2 ws1 ws2 h1 h2 hne => ?_, fun j b' ws' he => ?_, h.lbIn, by simpa using h.hiIn⟩
  · rcases hget j b' ws' he with ⟨rfl, rfl, rfl⟩ | ⟨hne, he⟩
    · exact (h.words _ _ _ e).set i v
    · exact (h.words _ _ _ he).of (Below.heap_setCell _ _ _ _ (h.apart _ _ _ _ _ _ he e hne))
  · have hlb : ∀ k', (w.setCell ⟨b, i, none⟩ (.int .u64 (v : Int))).cell? ⟨lb, k', none⟩ = w.cell? ⟨lb, k', none⟩ := fun k' =>
      World.cell?_of_block (Below.heap_setCell _ _ _ _ (fun e' => (h.inner _ _ _ e).2.2 e'.symm))
    rw [hlb]
    rcases hget j b' ws' he with ⟨rfl, rfl, rfl⟩ | ⟨hne, he⟩
    · rw [h.row _ _ _ e]; simp
    · exact h.row _ _ _ he
  · rcases hget j b1 ws1 h1 with ⟨rfl, rfl, rfl⟩ | ⟨hn1, g1⟩ <;> rcases hget j' b2 ws2 h2 with ⟨rfl, rfl, rfl⟩ | ⟨hn2, g2⟩
    · exact absurd rfl hne
    · exact h.apart _ _ _ _ _ _ e g2 hne
    · exact h.apart _ _ _ _ _ _ g1 e hne
    · exact h.apart _ _ _ _ _ _ g1 g2 hne
  · rcases hget j b' ws' he with ⟨rfl, rfl, rfl⟩ | ⟨hne, he⟩
    · exact h.inner _ _ _ e
    · exact h.inner _ _ _ he

/-- The marks behind the address ⟨sb, so⟩: of n places those of P are marked. -/
structure Marks (w : World) (lo hi sb so n : Nat) (P : Nat → Prop) (lb cap : Nat) (lv : List (Nat × List Nat)) : Prop where
  size : w.cell? ⟨sb, so, none⟩ = some (.int .i64 (n : Int))
  levels : w.cell? ⟨sb, so + 1, none⟩ = some (.slice (some ⟨lb, 0, none⟩) lv.length cap)
  out : sb < lo ∨ hi ≤ sb
  rep : Rep w lo hi lb lv
  good : Good (lv.map (·.2)) n P

theorem Marks.drew {w : World} {lo hi sb so n lb cap : Nat} {P : Nat → Prop} {lv : List (Nat × List Nat)} (h : Marks w lo hi sb so n P lb cap lv) : Marks w.drew lo hi sb so n P lb cap lv :=
  ⟨h.size, h.levels, h.out, h.rep.drew, h.good⟩

theorem Marks.of {w w' : World} {lo hi sb so n lb cap lo' hi' : Nat} {P : Nat → Prop} {lv : List (Nat × List Nat)} (h : Marks w lo hi sb so n P lb cap lv) (hw : Within lo' hi' w w') (ho : hi ≤ lo' ∨ hi' ≤ lo) (hs : sb < lo' ∨ hi' ≤ sb) :
    Marks w' lo hi sb so n P lb cap lv :=
  ⟨hw.cell h.size hs, hw.cell h.levels hs, h.out, h.rep.of hw ho, h.good⟩

theorem Marks.get {w : World} {lo hi sb so n lb cap : Nat} {P : Nat → Prop} {lv : List (Nat × List Nat)} (h : Marks w lo hi sb so n P lb cap lv) {k : Nat} (hk : k < lv.length) :
    ∃ b ws, lv[k]? = some (b, ws) ∧ w.cell? ⟨lb, k, none⟩ = some (.slice (some ⟨b, 0, none⟩) ws.length ws.length) ∧ ws.length = cd n (k + 1) ∧ Level ws k P ∧ Words w b ws := by
  obtain ⟨x, hx⟩ : ∃ x, lv[k]? = some x := ⟨_, List.getElem?_eq_getElem hk⟩
  obtain ⟨b, ws⟩ := x
  have e : (lv.map (·.2))[k]? = some ws := by simp [hx]
  exact ⟨b, ws, hx, h.rep.row _ _ _ hx, h.good.size _ _ e, h.good.level _ _ e, h.rep.words _ _ _ hx⟩

end Go.Proofs.YtjkiagjgnfaknaaDoor
