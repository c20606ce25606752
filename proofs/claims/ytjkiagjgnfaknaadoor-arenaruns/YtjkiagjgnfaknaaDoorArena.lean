/- An Arena in memory; what a call of it may have turned. -/
import Derived.Test.YtjkiagjgnfaknaaDoorPlace
import Derived.Test.YtjkiagjgnfaknaaDoorCalls2
import Derived.Laws.OwnMore
namespace Go.Proofs.YtjkiagjgnfaknaaDoor
open Go.RowKit

/-- Outside the blocks of S all is as it was; new blocks may have come. -/
structure Turned (S : Nat → Prop) (w w' : World) : Prop where
  os : w'.os = w.os
  tape : w'.tape = w.tape
  output : w'.output = w.output
  size : w.heap.size ≤ w'.heap.size
  block : ∀ k, k < w.heap.size → ¬ S k → w'.heap[k]? = w.heap[k]?

theorem Turned.refl (S : Nat → Prop) (w : World) : Turned S w w := ⟨rfl, rfl, rfl, Nat.le_refl _, fun _ _ _ => rfl⟩

theorem Turned.trans {S : Nat → Prop} {a b c : World} (h : Turned S a b) (k : Turned S b c) : Turned S a c :=
  ⟨k.os.trans h.os, k.tape.trans h.tape, k.output.trans h.output, Nat.le_trans h.size k.size, fun i hi h1 => (k.block i (Nat.lt_of_lt_of_le hi h.size) h1).trans (h.block i hi h1)⟩

/-- What came new in the meantime may turn too. -/
theorem Turned.then {S S' : Nat → Prop} {a b c : World} (h : Turned S a b) (k : Turned S' b c) (hs : ∀ i, i < a.heap.size → S' i → S i) : Turned S a c :=
  ⟨k.os.trans h.os, k.tape.trans h.tape, k.output.trans h.output, Nat.le_trans h.size k.size, fun i hi h1 => (k.block i (Nat.lt_of_lt_of_le hi h.size) (fun e => h1 (hs i hi e))).trans (h.block i hi h1)⟩

theorem Turned.mono {S S' : Nat → Prop} {w w' : World} (h : Turned S w w') (hs : ∀ k, S k → S' k) : Turned S' w w' :=
  ⟨h.os, h.tape, h.output, h.size, fun k hk ho => h.block k hk (fun e => ho (hs k e))⟩

theorem Turned.ofWithin {lo hi : Nat} {w w' : World} (h : Within lo hi w w') {S : Nat → Prop} (hs : ∀ k, lo ≤ k → k < hi → S k) : Turned S w w' :=
  ⟨h.os, h.tape, h.output, h.size, fun k hk ho => h.block k hk (by
    rcases Nat.lt_or_ge k lo with h1 | h1
    · exact Or.inl h1
    · rcases Nat.lt_or_ge k hi with h2 | h2
      · exact absurd (hs k h1 h2) ho
      · exact Or.inr h2)⟩

theorem Turned.within {S : Nat → Prop} {w w' : World} (h : Turned S w w') {lo hi : Nat} (hs : ∀ k, S k → lo ≤ k ∧ k < hi) : Within lo hi w w' :=
  ⟨h.os, h.tape, h.output, h.size, fun k hk ho => h.block k hk (fun e => by have := hs k e; omega)⟩

theorem Turned.ofBelow {w w' : World} (h : Below w.heap.size w w') (S : Nat → Prop) : Turned S w w' := ⟨h.os, h.tape, h.output, h.size, fun k hk _ => h.block k hk⟩

theorem Turned.below {S : Nat → Prop} {B : Nat} {w w' : World} (h : Turned S w w') (h1 : ∀ k, S k → B ≤ k) (h2 : B ≤ w.heap.size) : Below B w w' :=
  ⟨h.os, h.tape, h.output, h.size, fun k hk => h.block k (by omega) (fun e => by have := h1 k e; omega)⟩

theorem Turned.ofGrown {S : Nat → Prop} {w w' : World} {row : Option Nat} (h : w.grownBy w' row) (hs : ∀ k, row = some k → S k) : Turned S w w' :=
  ⟨h.os, h.tape, h.output, h.size, fun k hk ho => h.block k hk (fun e => ho (hs k e.symm))⟩

theorem Turned.drew {S : Nat → Prop} {a w : World} (h : Turned S a w) : Turned S a w.drew := ⟨h.os, h.tape, h.output, h.size, h.block⟩

theorem Turned.setCell {S : Nat → Prop} {a w : World} (h : Turned S a w) {p : Addr} (hp : S p.block) (u : Value) : Turned S a (w.setCell p u) :=
  h.trans ⟨rfl, rfl, rfl, by simp [World.setCell], fun k hk ho => Below.heap_setCell _ _ _ _ (fun e => ho (e ▸ hp))⟩

theorem Turned.alloc {S : Nat → Prop} {a w : World} (h : Turned S a w) (o : Obj) : Turned S a (w.alloc o) :=
  h.trans ⟨rfl, rfl, rfl, by simp, fun k hk _ => Below.heap_alloc _ _ _ hk⟩

theorem Turned.cell {S : Nat → Prop} {w w' : World} (h : Turned S w w') {p : Addr} {v : Value} (hc : w.cell? p = some v) (ho : ¬ S p.block) : w'.cell? p = some v :=
  (World.cell?_of_block (h.block p.block (World.block_lt_of_cell? w p hc) ho)).trans hc

theorem Env.turned {S : Nat → Prop} {w w' : World} (h : Env w) (hw : Turned S w w') (ho : ∀ k, S k → 2 ≤ k) : Env w' :=
  ⟨hw.cell h.1 (fun e => by have := ho _ e; simp at this), fun j hj => hw.cell (h.2 j hj) (fun e => by have := ho _ e; simp at this)⟩

/-- The blocks of one's own: lo .. hi - 1, and the one where the places lie. -/
def own (lo hi : Nat) (ob : Option Nat) (k : Nat) : Prop := (lo ≤ k ∧ k < hi) ∨ ob = some k

/-- The cells of places. -/
def pcs : List (Int × Int) → List Value
  | [] => []
  | p :: ps => .int .u32 p.1 :: .int .i64 p.2 :: pcs ps

theorem pcs_length : ∀ ps : List (Int × Int), (pcs ps).length = ps.length * 2
  | [] => rfl
  | p :: ps => by simp [pcs, pcs_length ps]; omega

theorem pcs_append : ∀ (a b : List (Int × Int)), pcs (a ++ b) = pcs a ++ pcs b
  | [], _ => rfl
  | p :: a, b => by simp [pcs, pcs_append a b]

theorem pcs_get : ∀ (ps : List (Int × Int)) (i : Nat) (p : Int × Int), ps[i]? = some p → (pcs ps)[i * 2]? = some (.int .u32 p.1) ∧ (pcs ps)[i * 2 + 1]? = some (.int .i64 p.2)
  | [], i, p, h => by simp at h
  | q :: ps, 0, p, h => by simp at h; subst h; simp [pcs]
  | q :: ps, i + 1, p, h => by
    have := pcs_get ps i p (by simpa using h)
    rw [show (i + 1) * 2 = i * 2 + 2 from by omega]
    simpa [pcs] using this

theorem pcs_set : ∀ (ps : List (Int × Int)) (i : Nat) (p : Int × Int), pcs (ps.set i p) = ((pcs ps).set (i * 2) (.int .u32 p.1)).set (i * 2 + 1) (.int .i64 p.2)
  | [], i, p => by simp [pcs]
  | q :: ps, 0, p => by simp [pcs]
  | q :: ps, i + 1, p => by
    rw [show (i + 1) * 2 = i * 2 + 2 from by omega]
    simp [pcs, pcs_set ps i p]

theorem pcs_one (ps : List (Int × Int)) : ∀ u ∈ pcs ps, u.oneCell' = true := by
  induction ps with
  | nil => simp [pcs]
  | cons p ps ih =>
    intro u hu
    simp only [pcs, List.mem_cons] at hu
    rcases hu with rfl | rfl | h
    · rfl
    · rfl
    · exact ih u h

theorem pcs_inv : ∀ (ps : List (Int × Int)) (j : Nat) (u : Value), (pcs ps)[j]? = some u → ∃ (i : Nat) (p : Int × Int), ps[i]? = some p ∧ ((j = i * 2 ∧ u = .int .u32 p.1) ∨ (j = i * 2 + 1 ∧ u = .int .i64 p.2))
  | [], j, u, h => by simp [pcs] at h
  | p :: ps, 0, u, h => ⟨0, p, rfl, Or.inl ⟨rfl, by simpa [pcs] using h.symm⟩⟩
  | p :: ps, 1, u, h => ⟨0, p, rfl, Or.inr ⟨rfl, by simpa [pcs] using h.symm⟩⟩
  | p :: ps, j + 2, u, h => by
    obtain ⟨i, q, hq, h2⟩ := pcs_inv ps j u (by simpa [pcs] using h)
    exact ⟨i + 1, q, by simpa using hq, h2.imp (fun e => ⟨by omega, e.2⟩) (fun e => ⟨by omega, e.2⟩)⟩

/-- The blocks lo .. hs - 1 are as they were. -/
theorem Slots.same {w w' : World} {lo hs sb : Nat} {l : List Bool} (h1 : Slots w lo hs sb l) (hsz : w.heap.size ≤ w'.heap.size) (hk : ∀ k, lo ≤ k → k < hs → w'.heap[k]? = w.heap[k]?) : Slots w' lo hs sb l := by
  obtain ⟨m1, m2, vF, vT, lbF, capF, lvF, lbT, capT, lvT, g1, g2, g3, g4, g5, g6, g7, g8⟩ := h1
  have mk : ∀ {a b so lb cap : Nat} {P : Nat → Prop} {lv : List (Nat × List Nat)}, lo ≤ a → b ≤ hs → Marks w a b sb so l.length P lb cap lv → Marks w' a b sb so l.length P lb cap lv := by
    intro a b so lb cap P lv ha hb hm
    have hc : ∀ {p : Addr} {v : Value}, w.cell? p = some v → lo ≤ p.block → p.block < hs → w'.cell? p = some v := fun hv e1 e2 => (World.cell?_of_block (hk _ e1 e2)).trans hv
    refine ⟨hc hm.size (by simp; omega) (by simp; omega), hc hm.levels (by simp; omega) (by simp; omega), hm.out, ⟨fun k b ws e => ?_, fun k b ws e => ?_, hm.rep.apart, hm.rep.inner, hm.rep.lbIn, Nat.le_trans hm.rep.hiIn hsz⟩, hm.good⟩
    · have := hm.rep.inner k b ws e
      exact (hm.rep.words k b ws e).of (hk b (by omega) (by omega))
    · have := hm.rep.lbIn
      exact hc (hm.rep.row k b ws e) (by simp; omega) (by simp; omega)
  exact ⟨m1, m2, vF, vT, lbF, capF, lvF, lbT, capT, lvT, g1, g2, g3, g4, Nat.le_trans g5 hsz, (hk sb (by omega) (by omega)).trans g6, mk (Nat.le_refl _) (by omega) g7, mk g1 (by omega) g8⟩

/-- What lies in memory: block ab; the slots sb with these taken; c worn; the places in the block ob, if there is one; the rest in lo .. hi - 1. -/
def Hold (w : World) (lo hi ab sb : Nat) (ob : Option Nat) (bs : List Bool) (c : Nat) (ps : List (Int × Int)) : Prop :=
  ∃ hs pv, Slots w lo hs sb bs ∧ hs ≤ ab ∧ ab < hi ∧ hi ≤ w.heap.size ∧
    w.heap[ab]? = some (.cells #[.pointer (some ⟨sb, 0, none⟩), .int .i64 ((c : Nat) : Int), pv] 72 (0, 0)) ∧
    w.ownsRow hs 70 2 pv ps.length (pcs ps) ∧ pv.ownBlock = ob ∧ ob ≠ some ab

theorem ownsRow_same {w w' : World} {base : Nat} {e : TypeId} {size n : Nat} {v : Value} {xs : List Value} (h : w.ownsRow base e size v n xs) (hk : ∀ k, v.ownBlock = some k → w'.heap[k]? = w.heap[k]?) : w'.ownsRow base e size v n xs := by
  refine ⟨h.1, ?_⟩
  rcases h.2 with hn | ⟨g, cap, cur, rfl, hb, hgg, rest⟩
  · exact .inl hn
  · refine .inr ⟨g, cap, cur, rfl, hb, ?_, rest⟩
    rw [hk g rfl]
    exact hgg

theorem Hold.pos {w : World} {lo hi ab sb c : Nat} {ob : Option Nat} {bs : List Bool} {ps : List (Int × Int)} (h : Hold w lo hi ab sb ob bs c ps) :
    1 ≤ bs.length ∧ bs.length ≤ 1048576 ∧ lo ≤ ab ∧ ab < hi ∧ hi ≤ w.heap.size ∧ (∀ k, ob = some k → lo ≤ k ∧ k < w.heap.size ∧ k ≠ ab) := by
  obtain ⟨hs, pv, h1, h2, h3, h4, h5, h6, h7, h8⟩ := h
  have hp := h1.pos
  refine ⟨hp.1, hp.2.1, by omega, h3, h4, fun k hk => ?_⟩
  have := h6.lt k (h7.trans hk)
  exact ⟨by omega, this.2, fun e => h8 (e ▸ hk)⟩

theorem Hold.of {w w' : World} {S : Nat → Prop} {lo hi ab sb c : Nat} {ob : Option Nat} {bs : List Bool} {ps : List (Int × Int)} (h : Hold w lo hi ab sb ob bs c ps) (hw : Turned S w w') (ho : ∀ k, own lo hi ob k → ¬ S k) : Hold w' lo hi ab sb ob bs c ps := by
  obtain ⟨hs, pv, h1, h2, h3, h4, h5, h6, h7, h8⟩ := h
  have hp := h1.pos
  exact ⟨hs, pv, h1.same hw.size (fun k a b => hw.block k (by omega) (ho k (Or.inl ⟨a, by omega⟩))), h2, h3, Nat.le_trans h4 hw.size, (hw.block ab (by omega) (ho ab (Or.inl ⟨by omega, h3⟩))).trans h5,
    ownsRow_same h6 (fun k hk => hw.block k (h6.lt k hk).2 (ho k (Or.inr (h7 ▸ hk)))), h7, h8⟩

theorem Hold.below {w w' : World} {lo hi ab sb c : Nat} {ob : Option Nat} {bs : List Bool} {ps : List (Int × Int)} (h : Hold w lo hi ab sb ob bs c ps) (hb : Below w.heap.size w w') : Hold w' lo hi ab sb ob bs c ps :=
  h.of (Turned.ofBelow hb (fun _ => False)) (fun _ _ e => e)

theorem Hold.cell0 {w : World} {lo hi ab sb c : Nat} {ob : Option Nat} {bs : List Bool} {ps : List (Int × Int)} (h : Hold w lo hi ab sb ob bs c ps) : w.cell? ⟨ab, 0, none⟩ = some (.pointer (some ⟨sb, 0, none⟩)) := by
  obtain ⟨hs, pv, h1, h2, h3, h4, h5, h6, h7, h8⟩ := h
  unfold World.cell?; rw [h5]; simp

theorem Hold.cell1 {w : World} {lo hi ab sb c : Nat} {ob : Option Nat} {bs : List Bool} {ps : List (Int × Int)} (h : Hold w lo hi ab sb ob bs c ps) : w.cell? ⟨ab, 1, none⟩ = some (.int .i64 (c : Int)) ∧ w.frozen? ⟨ab, 1, none⟩ = false := by
  obtain ⟨hs, pv, h1, h2, h3, h4, h5, h6, h7, h8⟩ := h
  constructor
  · unfold World.cell?; rw [h5]; simp
  · unfold World.frozen?; rw [h5]; simp

theorem Hold.hi {w : World} {lo hi hi' ab sb c : Nat} {ob : Option Nat} {bs : List Bool} {ps : List (Int × Int)} (h : Hold w lo hi ab sb ob bs c ps) (e1 : hi ≤ hi') (e2 : hi' ≤ w.heap.size) : Hold w lo hi' ab sb ob bs c ps := by
  obtain ⟨hs, pv, h1, h2, h3, h4, h5, h6, h7, h8⟩ := h
  exact ⟨hs, pv, h1, h2, by omega, e2, h5, h6, h7, h8⟩

/-- The slots alone turn. -/
theorem Hold.slots {w : World} {lo hi ab sb c : Nat} {ob : Option Nat} {bs : List Bool} {ps : List (Int × Int)} (h : Hold w lo hi ab sb ob bs c ps) :
    ∃ hs, Slots w lo hs sb bs ∧ hs ≤ ab ∧ ∀ w' bs', Slots w' lo hs sb bs' → Within lo hs w w' → Hold w' lo hi ab sb ob bs' c ps := by
  obtain ⟨hs, pv, h1, h2, h3, h4, h5, h6, h7, h8⟩ := h
  refine ⟨hs, h1, h2, fun w' bs' hs' hw => ⟨hs, pv, hs', h2, h3, Nat.le_trans h4 hw.size, (hw.block ab (by omega) (Or.inr h2)).trans h5, ownsRow_same h6 (fun k hk => ?_), h7, h8⟩⟩
  have := h6.lt k hk
  exact hw.block k this.2 (Or.inr this.1)

/-- How many are worn turns. -/
theorem Hold.worn {w : World} {lo hi ab sb c : Nat} {ob : Option Nat} {bs : List Bool} {ps : List (Int × Int)} (h : Hold w lo hi ab sb ob bs c ps) (c' : Nat) : Hold (w.setCell ⟨ab, 1, none⟩ (.int .i64 (c' : Int))) lo hi ab sb ob bs c' ps := by
  obtain ⟨hs, pv, h1, h2, h3, h4, h5, h6, h7, h8⟩ := h
  have hk : ∀ k, k ≠ ab → (w.setCell ⟨ab, 1, none⟩ (.int .i64 (c' : Int))).heap[k]? = w.heap[k]? := fun k hk => Below.heap_setCell _ _ _ _ hk
  refine ⟨hs, pv, h1.same (by simp [World.setCell]) (fun k a b => hk k (by omega)), h2, h3, by simpa [World.setCell] using h4, ?_, ownsRow_same h6 (fun k e => hk k (fun e' => h8 (by rw [← h7, e, e']))), h7, h8⟩
  unfold World.setCell
  rw [Array.getElem?_modify, if_pos rfl, h5]
  simp

/-- The places' slice, and what of it turns. -/
theorem Hold.row {w : World} {lo hi ab sb c : Nat} {ob : Option Nat} {bs : List Bool} {ps : List (Int × Int)} (h : Hold w lo hi ab sb ob bs c ps) :
    ∃ hs pv, w.cell? ⟨ab, 2, none⟩ = some pv ∧ w.frozen? ⟨ab, 2, none⟩ = false ∧ w.ownsRow hs 70 2 pv ps.length (pcs ps) ∧ pv.ownBlock = ob ∧ hs ≤ ab ∧ lo ≤ hs ∧
      (∀ w' ps', w'.ownsRow hs 70 2 pv ps'.length (pcs ps') → w.grownBy w' ob → Hold w' lo hi ab sb ob bs c ps') ∧
      (∀ w' ps' pv', w'.ownsRow hs 70 2 pv' ps'.length (pcs ps') → w.grownBy w' ob → pv'.ownBlock ≠ some ab → Hold (w'.setCell ⟨ab, 2, none⟩ pv') lo hi ab sb pv'.ownBlock bs c ps') := by
  obtain ⟨hs, pv, h1, h2, h3, h4, h5, h6, h7, h8⟩ := h
  have hp := h1.pos
  refine ⟨hs, pv, by unfold World.cell?; rw [h5]; simp, by unfold World.frozen?; rw [h5]; simp, h6, h7, h2, by omega, fun w' ps' ho hg => ?_, fun w' ps' pv' ho hg hne => ?_⟩
  · have hk : ∀ k, k < hs ∨ k = ab → w'.heap[k]? = w.heap[k]? := fun k hk => hg.block k (by omega) (fun e => by
      have := h6.lt k (h7.trans e.symm)
      rcases hk with h' | rfl
      · omega
      · exact h8 e.symm)
    exact ⟨hs, pv, h1.same hg.size (fun k _ b => hk k (Or.inl b)), h2, h3, Nat.le_trans h4 hg.size, (hk ab (Or.inr rfl)).trans h5, ho, h7, h8⟩
  · have hk : ∀ k, k < hs ∨ k = ab → w'.heap[k]? = w.heap[k]? := fun k hk => hg.block k (by omega) (fun e => by
      have := h6.lt k (h7.trans e.symm)
      rcases hk with h' | rfl
      · omega
      · exact h8 e.symm)
    have hk2 : ∀ k, k ≠ ab → (w'.setCell ⟨ab, 2, none⟩ pv').heap[k]? = w'.heap[k]? := fun k hk => Below.heap_setCell _ _ _ _ hk
    have hsz := hg.size
    refine ⟨hs, pv', h1.same (by simpa [World.setCell] using hsz) (fun k _ b => (hk2 k (by omega)).trans (hk k (Or.inl b))), h2, h3, by simp [World.setCell]; omega, ?_, ownsRow_same ho (fun k e => hk2 k (fun e' => hne (by rw [e, e']))), rfl, hne⟩
    have h5' := (hk ab (Or.inr rfl)).trans h5
    unfold World.setCell
    rw [Array.getElem?_modify, if_pos rfl, h5']
    simp

/-- What an Arena holds: of n places these are the first. -/
def Arena (w : World) (lo hi ab : Nat) (ob : Option Nat) (n : Nat) (ps : List (Int × Int)) : Prop := (∃ sb, Hold w lo hi ab sb ob (held n ps) (wornN ps) ps) ∧ Fair n ps

theorem Arena.pos {w : World} {lo hi ab n : Nat} {ob : Option Nat} {ps : List (Int × Int)} (h : Arena w lo hi ab ob n ps) :
    1 ≤ n ∧ n ≤ 1048576 ∧ lo ≤ ab ∧ ab < hi ∧ hi ≤ w.heap.size ∧ (∀ k, ob = some k → lo ≤ k ∧ k < w.heap.size ∧ k ≠ ab) := by
  obtain ⟨⟨sb, hh⟩, hf⟩ := h
  have hp := hh.pos
  rw [held_length hf.le] at hp
  exact hp

theorem Arena.of {w w' : World} {S : Nat → Prop} {lo hi ab n : Nat} {ob : Option Nat} {ps : List (Int × Int)} (h : Arena w lo hi ab ob n ps) (hw : Turned S w w') (ho : ∀ k, own lo hi ob k → ¬ S k) : Arena w' lo hi ab ob n ps :=
  ⟨h.1.imp fun _ hh => hh.of hw ho, h.2⟩

theorem Arena.below {w w' : World} {lo hi ab n : Nat} {ob : Option Nat} {ps : List (Int × Int)} (h : Arena w lo hi ab ob n ps) (hb : Below w.heap.size w w') : Arena w' lo hi ab ob n ps :=
  ⟨h.1.imp fun _ hh => hh.below hb, h.2⟩

end Go.Proofs.YtjkiagjgnfaknaaDoor
