/- Marks in words of 64, level over level: plain facts on numbers and lists, of no program. What the marks hold in memory; what a call may have turned: blocks from lo to hi alone. What 'bits.TrailingZeros64' answers, the table laid. 'covers', 'lowest', 'next': what is told of marks. 'next': the least marked place from one on. 'has', 'set' and 'unset': whether a place is marked; it is marked, its mark is taken off. 'unset': a mark is taken off. -/
import Derived.WalkKit
import Derived.WalkSpells
import Derived.WalkLawsBesides
import Derived.Lib.TrailingZeros
import Derived.Laws.Bits64b
import Derived.Shelf.Spec.TrailingZeros
import Derived.Test.YtboafgimjadboaaGreatDoorChecked
namespace Go.Proofs.YtboafgimjadboaaGreatDoor.Ar
open Go.RowKit

theorem hid {p : Prop} (h : p) : Hid p := h

/-- How many marks level k has; level 0 has n. -/
def cd (n : Nat) : Nat → Nat
  | 0 => n
  | k + 1 => (cd n k + 63) / 64

theorem div_up (x k : Nat) : x / 64 ^ (k + 1) = x / 64 ^ k / 64 := by rw [Nat.pow_succ, ← Nat.div_div_eq_div_mul]

theorem div_lt_cd {n x : Nat} (h : x < n) (k : Nat) : x / 64 ^ k < cd n k := by
  induction k with
  | zero => simpa [cd] using h
  | succ k ih => rw [div_up]; unfold cd; omega

theorem cd_has {n : Nat} (k j : Nat) (h : j < cd n k) : j * 64 ^ k < n := by
  induction k generalizing j with
  | zero => simpa [cd] using h
  | succ k ih =>
    have := ih (64 * j) (by unfold cd at h; omega)
    rw [Nat.pow_succ]
    rw [show j * (64 ^ k * 64) = 64 * j * 64 ^ k from by rw [Nat.mul_comm (64 ^ k) 64, ← Nat.mul_assoc, Nat.mul_comm j 64]]
    exact this

theorem cd_le (n k : Nat) : cd n k ≤ n := by
  induction k with
  | zero => exact Nat.le_refl _
  | succ k ih => unfold cd; omega

/-- One level: its words, and which places below it are marked. -/
def Level (ws : List Nat) (k : Nat) (P : Nat → Prop) : Prop :=
  ∀ i v, ws[i]? = some v → ∀ b, v.testBit b = true ↔ b < 64 ∧ ∃ x, P x ∧ x / 64 ^ k = 64 * i + b

theorem Level.lt {ws : List Nat} {k i v : Nat} {P : Nat → Prop} (h : Level ws k P) (hv : ws[i]? = some v) : v < 18446744073709551616 := by
  have : v < 2 ^ 64 := Nat.lt_pow_two_of_testBit v (fun b hb => by
    cases e : v.testBit b with
    | false => rfl
    | true => have := (h i v hv b).1 e; omega)
  simpa using this

theorem Level.congr {ws : List Nat} {k : Nat} {P Q : Nat → Prop} (h : Level ws k P) (e : ∀ j, (∃ x, P x ∧ x / 64 ^ k = j) ↔ (∃ x, Q x ∧ x / 64 ^ k = j)) : Level ws k Q := by
  intro i v hv b
  rw [h i v hv b, e]

theorem Level.set {ws : List Nat} {k at_ v v' : Nat} {P : Nat → Prop} (h : Level ws k P) (hv : ws[at_ / 64 ^ k / 64]? = some v)
    (hv' : ∀ b, v'.testBit b = (v.testBit b || decide (at_ / 64 ^ k % 64 = b))) : Level (ws.set (at_ / 64 ^ k / 64) v') k (fun x => P x ∨ x = at_) := by
  intro i u hu b
  rw [List.getElem?_set] at hu
  have hex : (∃ x, (P x ∨ x = at_) ∧ x / 64 ^ k = 64 * i + b) ↔ (∃ x, P x ∧ x / 64 ^ k = 64 * i + b) ∨ at_ / 64 ^ k = 64 * i + b := by
    constructor
    · rintro ⟨x, hx | rfl, e⟩
      · exact Or.inl ⟨x, hx, e⟩
      · exact Or.inr e
    · rintro (⟨x, hx, e⟩ | e)
      · exact ⟨x, Or.inl hx, e⟩
      · exact ⟨at_, Or.inr rfl, e⟩
  rw [hex]
  split at hu
  · rename_i hi
    subst hi
    split at hu
    · cases hu
      rw [hv', Bool.or_eq_true, h _ _ hv b, decide_eq_true_eq]
      constructor
      · rintro (⟨hb, hx⟩ | e)
        · exact ⟨hb, Or.inl hx⟩
        · exact ⟨by omega, Or.inr (by omega)⟩
      · rintro ⟨hb, hx | e⟩
        · exact Or.inl ⟨hb, hx⟩
        · exact Or.inr (by omega)
    · cases hu
  · rename_i hi
    rw [h i u hu b]
    constructor
    · rintro ⟨hb, hx⟩; exact ⟨hb, Or.inl hx⟩
    · rintro ⟨hb, hx | e⟩
      · exact ⟨hb, hx⟩
      · exact absurd (show at_ / 64 ^ k / 64 = i by omega) hi

theorem Level.unset {ws : List Nat} {k at_ v v' : Nat} {P : Nat → Prop} (h : Level ws k P) (hv : ws[at_ / 64 ^ k / 64]? = some v)
    (hv' : ∀ b, v'.testBit b = (v.testBit b && !decide (at_ / 64 ^ k % 64 = b))) (hn : ¬ ∃ x, (P x ∧ x ≠ at_) ∧ x / 64 ^ k = at_ / 64 ^ k) :
    Level (ws.set (at_ / 64 ^ k / 64) v') k (fun x => P x ∧ x ≠ at_) := by
  intro i u hu b
  rw [List.getElem?_set] at hu
  have hex : at_ / 64 ^ k ≠ 64 * i + b → ((∃ x, (P x ∧ x ≠ at_) ∧ x / 64 ^ k = 64 * i + b) ↔ (∃ x, P x ∧ x / 64 ^ k = 64 * i + b)) := by
    intro hne
    constructor
    · rintro ⟨x, ⟨hx, _⟩, e⟩; exact ⟨x, hx, e⟩
    · rintro ⟨x, hx, e⟩; exact ⟨x, ⟨hx, fun e' => hne (by rw [← e', e])⟩, e⟩
  split at hu
  · rename_i hi
    subst hi
    split at hu
    · cases hu
      rw [hv', Bool.and_eq_true, h _ _ hv b]
      by_cases hm : at_ / 64 ^ k % 64 = b
      · constructor
        · rintro ⟨_, hx⟩; simp [hm] at hx
        · rintro ⟨_, x, hx, e⟩; exact absurd ⟨x, hx, by omega⟩ hn
      · rw [hex (by omega)]
        simp [hm]
    · cases hu
  · rename_i hi
    rw [h i u hu b]
    by_cases hb : b < 64
    · rw [hex (fun e => hi (by omega))]
    · simp [hb]

/-- A word that is not 0 has a mark. -/
theorem Level.marked {ws : List Nat} {k i v : Nat} {P : Nat → Prop} (h : Level ws k P) (hv : ws[i]? = some v) (h0 : v ≠ 0) : ∃ x, P x ∧ x / 64 ^ k / 64 = i := by
  obtain ⟨b, hb⟩ := Nat.exists_testBit_of_ne_zero h0
  obtain ⟨hb, x, hx, e⟩ := (h i v hv b).1 hb
  exact ⟨x, hx, by omega⟩

theorem Level.bare {ws : List Nat} {k i : Nat} {P : Nat → Prop} (h : Level ws k P) (hv : ws[i]? = some 0) : ¬ ∃ x, P x ∧ x / 64 ^ k / 64 = i := by
  rintro ⟨x, hx, e⟩
  have := (h i 0 hv (x / 64 ^ k % 64)).2 ⟨by omega, x, hx, by omega⟩
  simp at this

/-- The lowest bit of a number that is not 0. -/
theorem ctz_bit {x : Nat} (h0 : x ≠ 0) (h : x < 18446744073709551616) : x.testBit (Lib.ctz 64 x) = true ∧ (∀ j, j < Lib.ctz 64 x → x.testBit j = false) ∧ Lib.ctz 64 x < 64 := by
  obtain ⟨m, hm, hlt⟩ := Lib.ctzFrom_spec 64 x (by omega) (by simpa using h)
  have e : Lib.ctz 64 x = Lib.ctzFrom 64 x := by simp [Lib.ctz, h0]
  rw [e]
  generalize Lib.ctzFrom 64 x = c at hm hlt
  subst hm
  refine ⟨?_, fun j hj => ?_, hlt⟩
  · rw [Nat.testBit_two_pow_mul]; simp
  · rw [Nat.testBit_two_pow_mul]; simp; omega

/-- x is the least marked place from f on. -/
def Least (P : Nat → Prop) (f x : Nat) : Prop := P x ∧ f ≤ x ∧ ∀ y, P y → f ≤ y → x ≤ y

/-- Where the search for the least place from f on stands at level k. -/
def Seek (P : Nat → Prop) (f k a : Nat) : Prop := (∀ x, P x → f ≤ x → a ≤ x / 64 ^ k) ∧ (∀ x, a ≤ x / 64 ^ k → f ≤ x)

theorem Seek.start (P : Nat → Prop) (f : Nat) : Seek P f 0 f := ⟨fun x _ h => by simpa using h, fun x h => by simpa using h⟩

theorem Seek.up {ws : List Nat} {k a f v : Nat} {P : Nat → Prop} (s : Seek P f k a) (h : Level ws k P) (hv : ws[a / 64]? = some v) (h0 : v >>> (a % 64) = 0) : Seek P f (k + 1) (a / 64 + 1) := by
  refine ⟨fun x hx hf => ?_, fun x hx => ?_⟩
  · have h1 := s.1 x hx hf
    rw [div_up]
    rcases Nat.lt_or_ge (a / 64) (x / 64 ^ k / 64) with hlt | hge
    · exact hlt
    · have h2 := (h (a / 64) v hv (x / 64 ^ k % 64)).2 ⟨by omega, x, hx, by omega⟩
      have h3 : (v >>> (a % 64)).testBit (x / 64 ^ k % 64 - a % 64) = true := by
        rw [Nat.testBit_shiftRight, show a % 64 + (x / 64 ^ k % 64 - a % 64) = x / 64 ^ k % 64 from by omega]
        exact h2
      rw [h0] at h3
      simp at h3
  · rw [div_up] at hx
    exact s.2 x (by omega)

/-- Nothing is left. -/
theorem Seek.out {k a f n : Nat} {P : Nat → Prop} (s : Seek P f k a) (hP : ∀ x, P x → x < n) (h : cd n k ≤ a) : ∀ x, P x → ¬ f ≤ x := by
  intro x hx hf
  have h1 := s.1 x hx hf
  have h2 := div_lt_cd (hP x hx) k
  omega

/-- A mark a of level k under which lies the least place from f on. -/
def Found (P : Nat → Prop) (f k a : Nat) : Prop := (∃ x, P x ∧ x / 64 ^ k = a) ∧ (∀ x, P x → f ≤ x → a ≤ x / 64 ^ k) ∧ (∀ x, x / 64 ^ k = a → f ≤ x)

theorem Seek.found {ws : List Nat} {k a f v : Nat} {P : Nat → Prop} (s : Seek P f k a) (h : Level ws k P) (hv : ws[a / 64]? = some v) (h0 : v >>> (a % 64) ≠ 0) : Found P f k (a + Lib.ctz 64 (v >>> (a % 64))) := by
  have hlt : v >>> (a % 64) < 18446744073709551616 := Nat.lt_of_le_of_lt (by rw [Nat.shiftRight_eq_div_pow]; exact Nat.div_le_self _ _) (h.lt hv)
  obtain ⟨hb, hlow, hc⟩ := ctz_bit h0 hlt
  rw [Nat.testBit_shiftRight] at hb
  obtain ⟨hb64, x, hx, e⟩ := (h _ _ hv _).1 hb
  refine ⟨⟨x, hx, by omega⟩, fun y hy hf => ?_, fun y hy => s.2 y (by omega)⟩
  have h1 := s.1 y hy hf
  rcases Nat.lt_or_ge (a / 64) (y / 64 ^ k / 64) with hlt | hge
  · omega
  · have h2 := (h (a / 64) v hv (y / 64 ^ k % 64)).2 ⟨by omega, y, hy, by omega⟩
    rcases Nat.lt_or_ge (y / 64 ^ k % 64 - a % 64) (Lib.ctz 64 (v >>> (a % 64))) with hl | hg
    · have h3 := hlow _ hl
      rw [Nat.testBit_shiftRight, show a % 64 + (y / 64 ^ k % 64 - a % 64) = y / 64 ^ k % 64 from by omega, h2] at h3
      cases h3
    · omega

/-- One level down. -/
theorem Found.down {ws : List Nat} {k a f v : Nat} {P : Nat → Prop} (s : Found P f (k + 1) a) (h : Level ws k P) (hv : ws[a]? = some v) : v ≠ 0 ∧ Found P f k (64 * a + Lib.ctz 64 v) := by
  obtain ⟨⟨x, hx, e⟩, h1, h2⟩ := s
  rw [div_up] at e
  have h0 : v ≠ 0 := by
    rintro rfl
    exact h.bare hv ⟨x, hx, e⟩
  refine ⟨h0, ?_⟩
  obtain ⟨hb, hlow, hc⟩ := ctz_bit h0 (h.lt hv)
  obtain ⟨hb64, z, hz, ez⟩ := (h _ _ hv _).1 hb
  refine ⟨⟨z, hz, ez⟩, fun y hy hf => ?_, fun y hy => h2 y (by rw [div_up]; omega)⟩
  have h3 := h1 y hy hf
  rw [div_up] at h3
  rcases Nat.lt_or_ge a (y / 64 ^ k / 64) with hlt | hge
  · omega
  · have h4 := (h a v hv (y / 64 ^ k % 64)).2 ⟨by omega, y, hy, by omega⟩
    rcases Nat.lt_or_ge (y / 64 ^ k % 64) (Lib.ctz 64 v) with hl | hg
    · rw [hlow _ hl] at h4; cases h4
    · omega

theorem Found.least {a f : Nat} {P : Nat → Prop} (s : Found P f 0 a) : Least P f a := by
  obtain ⟨⟨x, hx, e⟩, h1, h2⟩ := s
  simp at e
  subst e
  exact ⟨hx, h2 x (by simp), fun y hy hf => by simpa using h1 y hy hf⟩

theorem Found.lt {n k a f : Nat} {P : Nat → Prop} (s : Found P f k a) (hP : ∀ x, P x → x < n) : a < cd n k := by
  obtain ⟨⟨x, hx, e⟩, _⟩ := s
  rw [← e]
  exact div_lt_cd (hP x hx) k

/-- Nothing is marked. -/
theorem Level.zeros (m k : Nat) : Level (List.replicate m 0) k (fun _ => False) := by
  intro i v hv b
  rw [List.getElem?_replicate] at hv
  split at hv
  · cases hv; simp
  · cases hv

/-- The words of a level whose first m marks are all on. -/
def ones (m : Nat) : List Nat := List.replicate (m / 64) 18446744073709551615 ++ (if m % 64 = 0 then [] else [2 ^ (m % 64) - 1])

theorem ones_length (m : Nat) : (ones m).length = (m + 63) / 64 := by
  unfold ones
  split <;> simp <;> omega

theorem Level.ones (n k : Nat) : Level (ones (cd n k)) k (fun x => x < n) := by
  intro i v hv b
  have hex : (∃ x, x < n ∧ x / 64 ^ k = 64 * i + b) ↔ 64 * i + b < cd n k := by
    constructor
    · rintro ⟨x, hx, e⟩; rw [← e]; exact div_lt_cd hx k
    · intro h
      exact ⟨(64 * i + b) * 64 ^ k, cd_has k _ h, Nat.mul_div_cancel _ (Nat.pow_pos (by decide))⟩
  rw [hex]
  generalize cd n k = m at hv
  unfold Go.Proofs.YtboafgimjadboaaGreatDoor.Ar.ones at hv
  rw [List.getElem?_append] at hv
  simp only [List.length_replicate] at hv
  split at hv
  · rename_i hi
    rw [List.getElem?_replicate, if_pos hi] at hv
    cases hv
    rw [show (18446744073709551615 : Nat) = 2 ^ 64 - 1 from by decide, Nat.testBit_two_pow_sub_one, decide_eq_true_eq]
    omega
  · rename_i hi
    split at hv
    · simp at hv
    · rename_i h0
      rcases Nat.eq_zero_or_pos (i - m / 64) with e | e
      · rw [e] at hv
        cases hv
        rw [Nat.testBit_two_pow_sub_one, decide_eq_true_eq]
        omega
      · rw [List.getElem?_eq_none (by simp; omega)] at hv
        cases hv

/-- All levels. -/
structure Good (ls : List (List Nat)) (n : Nat) (P : Nat → Prop) : Prop where
  pos : 1 ≤ n
  le : n ≤ 1048576
  ne : 1 ≤ ls.length
  few : ls.length ≤ 1048576
  top : cd n ls.length ≤ 1
  size : ∀ k ws, ls[k]? = some ws → ws.length = cd n (k + 1)
  lt : ∀ x, P x → x < n
  level : ∀ k ws, ls[k]? = some ws → Level ws k P

theorem Good.congr {ls : List (List Nat)} {n : Nat} {P Q : Nat → Prop} (h : Good ls n P) (e : ∀ x, P x ↔ Q x) : Good ls n Q := by
  have : P = Q := funext fun x => propext (e x)
  exact this ▸ h

end Go.Proofs.YtboafgimjadboaaGreatDoor.Ar

namespace Go.Proofs.YtboafgimjadboaaGreatDoor.Ar
open Go.RowKit

/-- Outside the blocks lo .. hi - 1 all is as it was; new blocks may have come. -/
structure Within (lo hi : Nat) (w w' : World) : Prop where
  os : w'.os = w.os
  tape : w'.tape = w.tape
  output : w'.output = w.output
  size : w.heap.size ≤ w'.heap.size
  block : ∀ k, k < w.heap.size → (k < lo ∨ hi ≤ k) → w'.heap[k]? = w.heap[k]?

theorem Within.refl (lo hi : Nat) (w : World) : Within lo hi w w := ⟨rfl, rfl, rfl, Nat.le_refl _, fun _ _ _ => rfl⟩

theorem Within.trans {lo hi : Nat} {a b c : World} (h : Within lo hi a b) (k : Within lo hi b c) : Within lo hi a c :=
  ⟨k.os.trans h.os, k.tape.trans h.tape, k.output.trans h.output, Nat.le_trans h.size k.size, fun i hi h1 => (k.block i (Nat.lt_of_lt_of_le hi h.size) h1).trans (h.block i hi h1)⟩

theorem Within.mono {lo hi lo' hi' : Nat} {w w' : World} (h : Within lo hi w w') (h1 : lo' ≤ lo) (h2 : hi ≤ hi') : Within lo' hi' w w' :=
  ⟨h.os, h.tape, h.output, h.size, fun k hk ho => h.block k hk (by omega)⟩

theorem Within.drew {lo hi : Nat} {a w : World} (h : Within lo hi a w) : Within lo hi a w.drew := ⟨h.os, h.tape, h.output, h.size, h.block⟩

theorem Within.setCell {lo hi : Nat} {a w : World} (h : Within lo hi a w) {p : Addr} (h1 : lo ≤ p.block) (h2 : p.block < hi) (u : Value) : Within lo hi a (w.setCell p u) :=
  h.trans ⟨rfl, rfl, rfl, by simp [World.setCell], fun k hk ho => Below.heap_setCell _ _ _ _ (by omega)⟩

theorem Within.alloc {lo hi : Nat} {a w : World} (h : Within lo hi a w) (o : Obj) : Within lo hi a (w.alloc o) :=
  h.trans ⟨rfl, rfl, rfl, by simp, fun k hk _ => Below.heap_alloc _ _ _ hk⟩

theorem Within.ofBelow {w w' : World} (h : Below w.heap.size w w') (lo hi : Nat) : Within lo hi w w' := ⟨h.os, h.tape, h.output, h.size, fun k hk _ => h.block k hk⟩

theorem Within.below {lo hi B : Nat} {w w' : World} (h : Within lo hi w w') (h1 : B ≤ lo) (h2 : B ≤ w.heap.size) : Below B w w' :=
  ⟨h.os, h.tape, h.output, h.size, fun k hk => h.block k (by omega) (by omega)⟩

theorem Within.cell {lo hi : Nat} {w w' : World} (h : Within lo hi w w') {p : Addr} {v : Value} (hc : w.cell? p = some v) (ho : p.block < lo ∨ hi ≤ p.block) : w'.cell? p = some v :=
  (World.cell?_of_block (h.block p.block (World.block_lt_of_cell? w p hc) ho)).trans hc

/-- A word as a cell. -/
def wc (n : Nat) : Value := .int .u64 (n : Int)

/-- The block b holds these words. -/
def Words (w : World) (b : Nat) (ws : List Nat) : Prop := w.heap[b]? = some (.cells (ws.map wc).toArray 90 (0, 0))

theorem Words.lt {w : World} {b : Nat} {ws : List Nat} (h : Words w b ws) : b < w.heap.size := by
  rcases Nat.lt_or_ge b w.heap.size with h1 | h1
  · exact h1
  · rw [Words, Array.getElem?_eq_none h1] at h; cases h

theorem Words.cell {w : World} {b i v : Nat} {ws : List Nat} (h : Words w b ws) (hv : ws[i]? = some v) : w.cell? ⟨b, i, none⟩ = some (.int .u64 (v : Int)) := by
  unfold World.cell?
  rw [h]
  simp [hv, wc]

theorem Words.frozen {w : World} {b i : Nat} {ws : List Nat} (h : Words w b ws) : w.frozen? ⟨b, i, none⟩ = false := by
  unfold World.frozen?
  rw [h]
  simp

theorem Words.set {w : World} {b : Nat} {ws : List Nat} (h : Words w b ws) (i v : Nat) : Words (w.setCell ⟨b, i, none⟩ (.int .u64 (v : Int))) b (ws.set i v) := by
  unfold Words World.setCell
  rw [Array.getElem?_modify, if_pos rfl, h]
  simp [wc, List.map_set]

theorem Words.of {w w' : World} {b : Nat} {ws : List Nat} (h : Words w b ws) (e : w'.heap[b]? = w.heap[b]?) : Words w' b ws := e.trans h

/-- The levels as they lie in memory, in the blocks lo .. hi - 1: the row of levels in block lb, each level's words in a block of their own. -/
structure Rep (w : World) (lo hi lb : Nat) (lv : List (Nat × List Nat)) : Prop where
  words : ∀ (k b : Nat) (ws : List Nat), lv[k]? = some (b, ws) → Words w b ws
  row : ∀ (k b : Nat) (ws : List Nat), lv[k]? = some (b, ws) → w.cell? ⟨lb, k, none⟩ = some (.slice (some ⟨b, 0, none⟩) ws.length ws.length)
  apart : ∀ (j k b b' : Nat) (ws ws' : List Nat), lv[j]? = some (b, ws) → lv[k]? = some (b', ws') → j ≠ k → b ≠ b'
  inner : ∀ (k b : Nat) (ws : List Nat), lv[k]? = some (b, ws) → lo ≤ b ∧ b < hi ∧ b ≠ lb
  lbIn : lo ≤ lb ∧ lb < hi
  hiIn : hi ≤ w.heap.size

theorem Rep.of {w w' : World} {lo hi lb lo' hi' : Nat} {lv : List (Nat × List Nat)} (h : Rep w lo hi lb lv) (hw : Within lo' hi' w w') (ho : hi ≤ lo' ∨ hi' ≤ lo) : Rep w' lo hi lb lv := by
  refine ⟨fun k b ws e => ?_, fun k b ws e => ?_, h.apart, h.inner, h.lbIn, Nat.le_trans h.hiIn hw.size⟩
  · have := h.inner k b ws e
    exact (h.words k b ws e).of (hw.block b (h.words k b ws e).lt (by omega))
  · have := h.lbIn
    exact hw.cell (h.row k b ws e) (by simp; omega)

theorem Rep.drew {w : World} {lo hi lb : Nat} {lv : List (Nat × List Nat)} (h : Rep w lo hi lb lv) : Rep w.drew lo hi lb lv := ⟨h.words, h.row, h.apart, h.inner, h.lbIn, h.hiIn⟩

theorem Rep.set {w : World} {lo hi lb k b i v : Nat} {ws : List Nat} {lv : List (Nat × List Nat)} (h : Rep w lo hi lb lv) (e : lv[k]? = some (b, ws)) :
    Rep (w.setCell ⟨b, i, none⟩ (.int .u64 (v : Int))) lo hi lb (lv.set k (b, ws.set i v)) := by
  have hget : ∀ (j b' : Nat) (ws' : List Nat), (lv.set k (b, ws.set i v))[j]? = some (b', ws') → (j = k ∧ b' = b ∧ ws' = ws.set i v) ∨ (j ≠ k ∧ lv[j]? = some (b', ws')) := by
    intro j b' ws' he
    rw [List.getElem?_set] at he
    split at he
    · rename_i hjk
      split at he
      · cases he; exact Or.inl ⟨hjk.symm, rfl, rfl⟩
      · cases he
    · rename_i hjk
      exact Or.inr ⟨fun x => hjk x.symm, he⟩
  refine ⟨fun j b' ws' he => ?_, fun j b' ws' he => ?_, fun j j' b1 b2 ws1 ws2 h1 h2 hne => ?_, fun j b' ws' he => ?_, h.lbIn, by simpa using h.hiIn⟩
  · rcases hget j b' ws' he with ⟨rfl, rfl, rfl⟩ | ⟨hne, he⟩
    · exact (h.words _ _ _ e).set i v
    · exact (h.words _ _ _ he).of (Below.heap_setCell _ _ _ _ (h.apart _ _ _ _ _ _ he e hne))
  · have hlb : ∀ k', (w.setCell ⟨b, i, none⟩ (.int .u64 (v : Int))).cell? ⟨lb, k', none⟩ = w.cell? ⟨lb, k', none⟩ := fun k' =>
      World.cell?_of_block (Below.heap_setCell _ _ _ _ (fun e' => (h.inner _ _ _ e).2.2 e'.symm))
    rw [hlb]
    rcases hget j b' ws' he with ⟨rfl, rfl, rfl⟩ | ⟨hne, he⟩
    · rw [h.row _ _ _ e]; simp
    · exact h.row _ _ _ he
  · rcases hget j b1 ws1 h1 with ⟨rfl, rfl, rfl⟩ | ⟨hn1, g1⟩ <;> rcases hget j' b2 ws2 h2 with ⟨rfl, rfl, rfl⟩ | ⟨hn2, g2⟩
    · exact absurd rfl hne
    · exact h.apart _ _ _ _ _ _ e g2 hne
    · exact h.apart _ _ _ _ _ _ g1 e hne
    · exact h.apart _ _ _ _ _ _ g1 g2 hne
  · rcases hget j b' ws' he with ⟨rfl, rfl, rfl⟩ | ⟨hne, he⟩
    · exact h.inner _ _ _ e
    · exact h.inner _ _ _ he

/-- The marks behind the address ⟨sb, so⟩: of n places those of P are marked. -/
structure Marks (w : World) (lo hi sb so n : Nat) (P : Nat → Prop) (lb cap : Nat) (lv : List (Nat × List Nat)) : Prop where
  size : w.cell? ⟨sb, so, none⟩ = some (.int .i64 (n : Int))
  levels : w.cell? ⟨sb, so + 1, none⟩ = some (.slice (some ⟨lb, 0, none⟩) lv.length cap)
  out : sb < lo ∨ hi ≤ sb
  rep : Rep w lo hi lb lv
  good : Good (lv.map (·.2)) n P

theorem Marks.drew {w : World} {lo hi sb so n lb cap : Nat} {P : Nat → Prop} {lv : List (Nat × List Nat)} (h : Marks w lo hi sb so n P lb cap lv) : Marks w.drew lo hi sb so n P lb cap lv :=
  ⟨h.size, h.levels, h.out, h.rep.drew, h.good⟩

theorem Marks.of {w w' : World} {lo hi sb so n lb cap lo' hi' : Nat} {P : Nat → Prop} {lv : List (Nat × List Nat)} (h : Marks w lo hi sb so n P lb cap lv) (hw : Within lo' hi' w w') (ho : hi ≤ lo' ∨ hi' ≤ lo) (hs : sb < lo' ∨ hi' ≤ sb) :
    Marks w' lo hi sb so n P lb cap lv :=
  ⟨hw.cell h.size hs, hw.cell h.levels hs, h.out, h.rep.of hw ho, h.good⟩

theorem Marks.get {w : World} {lo hi sb so n lb cap : Nat} {P : Nat → Prop} {lv : List (Nat × List Nat)} (h : Marks w lo hi sb so n P lb cap lv) {k : Nat} (hk : k < lv.length) :
    ∃ b ws, lv[k]? = some (b, ws) ∧ w.cell? ⟨lb, k, none⟩ = some (.slice (some ⟨b, 0, none⟩) ws.length ws.length) ∧ ws.length = cd n (k + 1) ∧ Level ws k P ∧ Words w b ws := by
  obtain ⟨x, hx⟩ : ∃ x, lv[k]? = some x := ⟨_, List.getElem?_eq_getElem hk⟩
  obtain ⟨b, ws⟩ := x
  have e : (lv.map (·.2))[k]? = some ws := by simp [hx]
  exact ⟨b, ws, hx, h.rep.row _ _ _ hx, h.good.size _ _ e, h.good.level _ _ e, h.rep.words _ _ _ hx⟩

end Go.Proofs.YtboafgimjadboaaGreatDoor.Ar

namespace Go.Proofs.YtboafgimjadboaaGreatDoor.Ar
open Go.RowKit

/-- The table in its variable. -/
def Tab (w : World) : Prop := ∀ j, j < 64 → w.cell? ⟨1, j, none⟩ = some (.int .u8 (Lib.deBruijn64tab.getD j 0))

theorem Tab.of {w w' : World} {lo hi : Nat} (h : Tab w) (hw : Within lo hi w w') (ho : 1 < lo) : Tab w' := fun j hj => hw.cell (h j hj) (Or.inl ho)
theorem Tab.drew {w : World} (h : Tab w) : Tab w.drew := h

set_option maxHeartbeats 1000000 in
theorem tz_core (x k idx : Nat) (w : World) (hx0 : ((x : Int) == 0) = false)
    (key : IntKind.u64.wrap (bits BinOp.and IntKind.u64 (x : Int) (IntKind.u64.wrap (-(x : Int))) * 285870213051353865) / 288230376151711744 = (idx : Int))
    (hi : idx < 64) (hk : k < 64) (hcell : w.cell? ⟨1, idx, none⟩ = some (.int .u8 k)) :
    Calls Tryz.prog 117 #[.int .u64 x] w fun e w' => e = .returned (.int .i64 k) ∧ w = w' := by
  go_enter Tryz.func117, Tryz.ntmps117
  go_wp2_with (simp only [key])
  go_ret
  exact ⟨rfl, rfl⟩

/-- Of a number that is not 0. -/
theorem tz (X : Int) (x : Nat) (e : X = x) (hx : x < 18446744073709551616) (hx0 : x ≠ 0) (w : World) (hT : Tab w) :
    Calls Tryz.prog 117 #[.int .u64 X] w fun e w' => e = .returned (.int .i64 (Lib.ctz 64 x : Nat)) ∧ w = w' := by
  subst e
  obtain ⟨hlow, hk⟩ := Lib.lowest_bit 64 x hx0 hx
  obtain ⟨hi, htab⟩ := Lib.deBruijn64_at _ hk
  have hcell := hT _ hi
  rw [htab] at hcell
  exact tz_core x _ _ w (by simp; omega) (tz64_key x _ hx hx0 hlow) hi hk hcell

end Go.Proofs.YtboafgimjadboaaGreatDoor.Ar

namespace Go.Proofs.YtboafgimjadboaaGreatDoor.Ar
open Go.RowKit

set_option maxHeartbeats 400000 in
theorem covers_yes (sb so n x : Nat) (w : World) (hs : w.cell? ⟨sb, so, none⟩ = some (.int .i64 (n : Int))) (hx : x < n) :
    Calls Tryz.prog 78 #[.pointer (some ⟨sb, so, none⟩), .int .i64 (x : Int)] w fun e w' => e = .returned (.bool true) ∧ w = w' := by
  have t0 : decide ((x : Int) < (n : Int)) = true := decide_eq_true (by omega)
  go_enter Tryz.func78, Tryz.ntmps78
  go_wp2
  go_ret
  exact ⟨rfl, rfl⟩

set_option maxHeartbeats 1000000 in
theorem lowest (lo hi sb so n lb cap f k a : Nat) (P : Nat → Prop) (lv : List (Nat × List Nat)) (w : World) (hm : Marks w lo hi sb so n P lb cap lv) (hT : Tab w) (hk : k < lv.length) (hf : Found P f k a) :
    Calls Tryz.prog 116 #[.pointer (some ⟨sb, so, none⟩), .int .i64 (k : Int), .int .i64 (a : Int)] w fun e w' => ∃ x : Nat, e = .returned (.int .i64 (x : Int)) ∧ Least P f x ∧ w = w' := by
  have hn := hm.good.le
  have hlv := hm.levels
  have hfew : lv.length ≤ 1048576 := by simpa using hm.good.few
  go_enter Tryz.func116, Tryz.ntmps116
  go_wp2
  go_loopw [1, 2] (fun u v wr => ∃ j c : Nat, j ≤ k ∧ u = .int .i64 (j : Int) ∧ v = .int .i64 (c : Int) ∧ Hid (Found P f j c) ∧ wr = w)
    (fun u _ _ => (intOf u).toNat)
  case atStart => exact ⟨k, a, Nat.le_refl _, rfl, rfl, hf, rfl⟩
  case round =>
    obtain ⟨j, c, hj, rfl, rfl, hfj, rfl⟩ := hrel
    rcases Nat.eq_zero_or_pos j with rfl | hj0
    · go_wp2
      go_ret
      exact ⟨c, rfl, hfj.out.least, rfl⟩
    · obtain ⟨i, rfl⟩ : ∃ i, j = i + 1 := ⟨j - 1, by omega⟩
      obtain ⟨b, ws, e1, hrow, hlen, hlev, hws⟩ := hm.get (k := i) (by omega)
      have hc : c < ws.length := by rw [hlen]; exact hfj.out.lt hm.good.lt
      obtain ⟨v, hv⟩ : ∃ v, ws[c]? = some v := ⟨_, List.getElem?_eq_getElem hc⟩
      obtain ⟨hv0, hdown⟩ := hfj.out.down hlev hv
      have hvlt := hlev.lt hv
      have hcell := hws.cell hv
      have hdn := hid hdown
      have hctz := (ctz_bit hv0 hvlt).2.2
      have hcb : c ≤ 1048576 := by have := cd_le n (i + 1); omega
      clear hdown hv hlev hws hlen e1
      go_wp2_with (go_at_call 117; refine (tz _ v rfl hvlt hv0 _ hT).mono ?_; rintro e w' ⟨rfl, rfl⟩)
      go_roundw
      case rel => exact ⟨i, 64 * c + Lib.ctz 64 v, by omega, by go_num, by go_num, hdn, trivial⟩
      case measure => simp [intOf]

end Go.Proofs.YtboafgimjadboaaGreatDoor.Ar

namespace Go.Proofs.YtboafgimjadboaaGreatDoor.Ar
open Go.RowKit

/-- What 'next' answers. -/
def Nexts (P : Nat → Prop) (f : Nat) (e : Ending) : Prop :=
  (∃ x : Nat, e = .returned (.tuple #[.int .i64 (x : Int), .bool true]) ∧ Least P f x) ∨ (e = .returned (.tuple #[.int .i64 0, .bool false]) ∧ ∀ x, P x → ¬ f ≤ x)

theorem and63 (a : Nat) (h : a < 9223372036854775808) : bits .and .i64 (a : Int) 63 = ((a % 64 : Nat) : Int) := by
  have e : bits .and .i64 (a : Int) (63 : Int) = IntKind.i64.wrap ((BitVec.ofInt 64 (a : Int) &&& BitVec.ofInt 64 (63 : Int)).toNat : Int) := rfl
  rw [e, BitVec.toNat_and, show (BitVec.ofInt 64 (63 : Int)).toNat = 2 ^ 6 - 1 from by decide, BitVec.ofInt_natCast, BitVec.toNat_ofNat, Nat.mod_eq_of_lt (show a < 2 ^ 64 by omega), Nat.and_two_pow_sub_one_eq_mod]
  simp [IntKind.wrap, IntKind.signed, IntKind.bits]
  omega

theorem shr_nat (v s : Nat) : (v : Int) / 2 ^ s = ((v >>> s : Nat) : Int) := by
  rw [Nat.shiftRight_eq_div_pow]
  simp

theorem Seek.up0 {k a f n : Nat} {P : Nat → Prop} (s : Seek P f k a) (hP : ∀ x, P x → x < n) (h : cd n (k + 1) ≤ a / 64) : ∀ x, P x → ¬ f ≤ x := by
  intro x hx hf
  have h1 := s.1 x hx hf
  have h2 := div_lt_cd (hP x hx) (k + 1)
  rw [div_up] at h2
  omega

theorem Seek.past {ls : List (List Nat)} {k a f n : Nat} {P : Nat → Prop} (s : Seek P f k a) (g : Good ls n P) (h : ls.length ≤ k) (hk : k ≤ ls.length) (h1 : 1 ≤ k → 1 ≤ a) : ∀ x, P x → ¬ f ≤ x := by
  obtain rfl : k = ls.length := by omega
  have := h1 g.ne
  have := g.top
  exact s.out g.lt (by omega)

set_option maxHeartbeats 2000000 in
theorem next_nat (lo hi sb so n lb cap : Nat) (f : Nat) (P : Nat → Prop) (lv : List (Nat × List Nat)) (w : World) (hm : Marks w lo hi sb so n P lb cap lv) (hT : Tab w) (hfb : f < 9223372036854775808) :
    Calls Tryz.prog 86 #[.pointer (some ⟨sb, so, none⟩), .int .i64 (f : Int)] w fun e w' => Nexts P f e ∧ w = w' := by
  have hn := hm.good.le
  have hlv := hm.levels
  have hfew : lv.length ≤ 1048576 := by simpa using hm.good.few
  go_enter Tryz.func86, Tryz.ntmps86
  go_wp2
  go_loopw [6, 17] (fun u v wr => ∃ k a : Nat, k ≤ lv.length ∧ (1 ≤ k → 1 ≤ a) ∧ a < 9223372036854775808 ∧ u = .int .i64 (a : Int) ∧ v = .int .i64 (k : Int) ∧ Hid (Seek P f k a) ∧ wr = w)
    (fun _ v _ => lv.length - (intOf v).toNat)
  case atStart => exact ⟨0, f, Nat.zero_le _, by omega, by omega, by go_num, by go_num, Seek.start P f, rfl⟩
  case round =>
    obtain ⟨k, a, hk, ha1, ha, rfl, rfl, hs, rfl⟩ := hrel
    rcases Nat.lt_or_ge k lv.length with hlt | hge
    · obtain ⟨b, ws, e1, hrow, hlen, hlev, hws⟩ := hm.get (k := k) hlt
      have hl2 := hid hlen
      clear hlen
      rcases Nat.lt_or_ge (a / 64) ws.length with hin | hout
      · obtain ⟨v, hv⟩ : ∃ v, ws[a / 64]? = some v := ⟨_, List.getElem?_eq_getElem hin⟩
        have hcell := hws.cell hv
        have hand := and63 a ha
        have hv1 := hid hv
        have hw2 : a ≤ 1048576 * 64 := by have := hl2.out; have := cd_le n (k + 1); omega
        obtain ⟨u, hu⟩ : ∃ u, v >>> (a % 64) = u := ⟨_, rfl⟩
        have hu1 := hid hu
        have hshr : (v : Int) / 2 ^ (a % 64) = (u : Int) := by rw [shr_nat, hu]
        clear hv hu
        by_cases hu0 : u = 0
        · subst hu0
          go_wp2_with fail
          go_roundw
          case rel => exact ⟨k + 1, a / 64 + 1, by omega, by omega, by omega, by go_num, by go_num, hs.out.up hlev hv1.out hu1.out, trivial⟩
          case measure => simp [intOf]; omega
        · have hd : decide ((u : Int) = 0) = false := decide_eq_false (by omega)
          have hne : v >>> (a % 64) ≠ 0 := by rw [hu1.out]; exact hu0
          have hfd := hid (hu1.out ▸ hs.out.found hlev hv1.out hne)
          have hult : u < 18446744073709551616 := by
            have h1 := hlev.lt hv1.out
            have h2 : v >>> (a % 64) ≤ v := by rw [Nat.shiftRight_eq_div_pow]; exact Nat.div_le_self _ _
            have h3 := hu1.out
            omega
          have hctz := (ctz_bit hu0 hult).2.2
          clear hne
          go_wp2_with (first
            | (go_at_call 117; refine (tz _ u rfl hult hu0 _ hT).mono ?_; rintro e w' ⟨rfl, rfl⟩)
            | (go_at_call 116; refine (lowest lo hi sb so n lb cap f k (a + Lib.ctz 64 u) P lv _ hm hT hlt hfd.out).mono ?_; rintro e w' ⟨x, rfl, hx, rfl⟩))
          go_ret2
          exact ⟨Or.inl ⟨x, rfl, hx⟩, rfl⟩
      · have ho := hid (hs.out.up0 hm.good.lt (by rw [← hl2.out]; exact hout))
        go_wp2
        go_ret2
        exact ⟨Or.inr ⟨rfl, ho.out⟩, rfl⟩
    · have ho := hid (hs.out.past hm.good (by simpa using hge) (by simpa using hk) ha1)
      go_wp2
      go_ret2
      exact ⟨Or.inr ⟨rfl, ho.out⟩, rfl⟩

end Go.Proofs.YtboafgimjadboaaGreatDoor.Ar

namespace Go.Proofs.YtboafgimjadboaaGreatDoor.Ar
open Go.RowKit

theorem wrap_pow (m : Nat) (hm : m < 64) : IntKind.u64.wrap (2 ^ m) = ((2 ^ m : Nat) : Int) := by
  have h : 2 ^ m < 2 ^ 64 := Nat.pow_lt_pow_right (by decide) hm
  have e : (2 : Int) ^ m = ((2 ^ m : Nat) : Int) := by rw [Int.natCast_pow]; rfl
  rw [IntKind.wrap_u64, e]
  generalize 2 ^ m = q at h
  omega

theorem or_nat (v m : Nat) (hv : v < 18446744073709551616) (hm : m < 64) : ∃ V : Nat, bits .or .u64 (v : Int) (IntKind.u64.wrap (2 ^ m)) = (V : Int) ∧ ∀ b, V.testBit b = (v.testBit b || decide (m = b)) := by
  have h : 2 ^ m < 2 ^ 64 := Nat.pow_lt_pow_right (by decide) hm
  refine ⟨v ||| 2 ^ m, ?_, fun b => ?_⟩
  · rw [wrap_pow m hm, bits_or_u64_nat v _ hv (by omega)]
  · rw [Nat.testBit_or, Nat.testBit_two_pow]

theorem andNot_nat (v m : Nat) (hv : v < 18446744073709551616) (hm : m < 64) : ∃ V : Nat, bits .andNot .u64 (v : Int) (IntKind.u64.wrap (2 ^ m)) = (V : Int) ∧ ∀ b, V.testBit b = (v.testBit b && !decide (m = b)) := by
  have h : 2 ^ m < 2 ^ 64 := Nat.pow_lt_pow_right (by decide) hm
  rw [wrap_pow m hm]
  have e : bits .andNot .u64 (v : Int) ((2 ^ m : Nat) : Int) = IntKind.u64.wrap ((BitVec.ofInt 64 (v : Int) &&& ~~~ BitVec.ofInt 64 ((2 ^ m : Nat) : Int)).toNat : Int) := rfl
  rw [e, BitVec.ofInt_natCast, BitVec.ofInt_natCast]
  refine ⟨(BitVec.ofNat 64 v &&& ~~~ BitVec.ofNat 64 (2 ^ m)).toNat, ?_, fun b => ?_⟩
  · rw [IntKind.wrap_u64]
    have := (BitVec.ofNat 64 v &&& ~~~ BitVec.ofNat 64 (2 ^ m)).isLt
    omega
  · rw [BitVec.testBit_toNat, BitVec.getLsbD_and, BitVec.getLsbD_not, BitVec.getLsbD_ofNat, BitVec.getLsbD_ofNat, Nat.testBit_two_pow]
    rcases Nat.lt_or_ge b 64 with hb | hb
    · simp [hb]
    · have : v.testBit b = false := Nat.testBit_lt_two_pow (Nat.lt_of_lt_of_le (show v < 2 ^ 64 by omega) (Nat.pow_le_pow_right (by decide) hb))
      simp [this]

theorem and1_nat (u : Nat) (hu : u < 18446744073709551616) : bits .and .u64 (u : Int) 1 = ((u % 2 : Nat) : Int) := by
  rw [show (1 : Int) = ((1 : Nat) : Int) from rfl, bits_and_u64_nat u 1 hu (by decide), show (1 : Nat) = 2 ^ 1 - 1 from rfl, Nat.and_two_pow_sub_one_eq_mod]

theorem Good.of {ls ls' : List (Nat × List Nat)} {n : Nat} {P Q : Nat → Prop} (g : Good (ls.map (·.2)) n P) (hl : ls'.length = ls.length)
    (h : ∀ (j b : Nat) (ws : List Nat), ls'[j]? = some (b, ws) → ws.length = cd n (j + 1) ∧ Level ws j Q) (hQ : ∀ x, Q x → x < n) : Good (ls'.map (·.2)) n Q := by
  have hget : ∀ (k : Nat) (ws : List Nat), (ls'.map (·.2))[k]? = some ws → ∃ b, ls'[k]? = some (b, ws) := by
    intro k ws e
    rw [List.getElem?_map] at e
    cases e2 : ls'[k]? with
    | none => rw [e2] at e; cases e
    | some y => rw [e2] at e; cases e; exact ⟨y.1, rfl⟩
  refine ⟨g.pos, g.le, by simpa [hl] using g.ne, by simpa [hl] using g.few, by simpa [hl] using g.top, fun k ws e => ?_, hQ, fun k ws e => ?_⟩
  · obtain ⟨b, e⟩ := hget k ws e; exact (h _ _ _ e).1
  · obtain ⟨b, e⟩ := hget k ws e; exact (h _ _ _ e).2

theorem Good.each {ls : List (Nat × List Nat)} {n : Nat} {P : Nat → Prop} (g : Good (ls.map (·.2)) n P) (j b : Nat) (ws : List Nat) (e : ls[j]? = some (b, ws)) : ws.length = cd n (j + 1) ∧ Level ws j P := by
  have e' : (ls.map (·.2))[j]? = some ws := by simp [e]
  exact ⟨g.size _ _ e', g.level _ _ e'⟩

set_option maxHeartbeats 1000000 in
theorem has_in (lo hi sb so n lb cap x : Nat) (P : Nat → Prop) (lv : List (Nat × List Nat)) (w : World) (hm : Marks w lo hi sb so n P lb cap lv) (hx : x < n) :
    Calls Tryz.prog 79 #[.pointer (some ⟨sb, so, none⟩), .int .i64 (x : Int)] w fun e w' => ∃ d : Bool, e = .returned (.bool d) ∧ (d = true ↔ P x) ∧ w = w' := by
  have hn := hm.good.le
  have hlv := hm.levels
  have hne : 1 ≤ lv.length := by simpa using hm.good.ne
  have hfew : lv.length ≤ 1048576 := by simpa using hm.good.few
  obtain ⟨b, ws, e1, hrow, hlen, hlev, hws⟩ := hm.get (k := 0) (by omega)
  have hin : x / 64 < ws.length := by rw [hlen]; have := div_lt_cd hx 1; simpa using this
  obtain ⟨v, hv⟩ : ∃ v, ws[x / 64]? = some v := ⟨_, List.getElem?_eq_getElem hin⟩
  have hcell := hws.cell hv
  have hand := and63 x (by omega)
  obtain ⟨u, hu⟩ : ∃ u, v >>> (x % 64) = u := ⟨_, rfl⟩
  have hshr : (v : Int) / 2 ^ (x % 64) = (u : Int) := by rw [shr_nat, hu]
  have hult : u < 18446744073709551616 := by
    have h1 := hlev.lt hv
    have h2 : v >>> (x % 64) ≤ v := by rw [Nat.shiftRight_eq_div_pow]; exact Nat.div_le_self _ _
    omega
  have hand1 := and1_nat u hult
  have hP : Hid (u % 2 = 1 ↔ P x) := by
    have h1 := hlev _ _ hv (x % 64)
    rw [Nat.testBit_eq_decide_div_mod_eq, decide_eq_true_eq, ← Nat.shiftRight_eq_div_pow, hu] at h1
    refine h1.trans ⟨?_, fun h => ⟨by omega, x, h, by simp; omega⟩⟩
    rintro ⟨_, y, hy, e⟩
    simp at e
    obtain rfl : y = x := by omega
    exact hy
  have hs := hm.size
  clear hu hv hlen hws hlev e1
  go_enter Tryz.func79, Tryz.ntmps79
  go_wp2_with (go_at_call 78; refine (covers_yes sb so n x _ hs hx).mono ?_; rintro e w' ⟨rfl, rfl⟩)
  go_ret
  exact ⟨_, rfl, (show ((u : Int) % 2 == 1) = true ↔ u % 2 = 1 by rw [beq_iff_eq]; omega).trans hP.out, rfl⟩

theorem set_step {wr : World} {lo hi lb n k b i x v V : Nat} {ws : List Nat} {P : Nat → Prop} {lv : List (Nat × List Nat)} (hrep : Rep wr lo hi lb lv)
    (hlev : ∀ (j b : Nat) (ws : List Nat), lv[j]? = some (b, ws) → ws.length = cd n (j + 1) ∧ Level ws j (fun y => P y ∨ (j < k ∧ y = x))) (e1 : lv[k]? = some (b, ws)) (hix : i = x / 64 ^ k / 64) (hv : ws[i]? = some v)
    (hV : ∀ c, V.testBit c = (v.testBit c || decide (x / 64 ^ k % 64 = c))) :
    Rep (wr.setCell ⟨b, i, none⟩ (.int .u64 (V : Int))).drew lo hi lb (lv.set k (b, ws.set i V)) ∧
    ∀ (j b' : Nat) (ws' : List Nat), (lv.set k (b, ws.set i V))[j]? = some (b', ws') → ws'.length = cd n (j + 1) ∧ Level ws' j (fun y => P y ∨ (j < k + 1 ∧ y = x)) := by
  subst hix
  refine ⟨(hrep.set e1).drew, fun j b' ws' he => ?_⟩
  rw [List.getElem?_set] at he
  split at he
  · rename_i hj
    subst hj
    split at he
    · cases he
      obtain ⟨h1, h2⟩ := hlev _ _ _ e1
      refine ⟨by simpa using h1, (Level.set h2 hv hV).congr fun m => ?_⟩
      constructor
      · rintro ⟨y, ((hy | ⟨hy, _⟩) | hy), e⟩
        · exact ⟨y, Or.inl hy, e⟩
        · omega
        · exact ⟨y, Or.inr ⟨by omega, hy⟩, e⟩
      · rintro ⟨y, (hy | ⟨_, hy⟩), e⟩
        · exact ⟨y, Or.inl (Or.inl hy), e⟩
        · exact ⟨y, Or.inr hy, e⟩
    · cases he
  · rename_i hj
    obtain ⟨h1, h2⟩ := hlev _ _ _ he
    have : (fun y => P y ∨ (j < k + 1 ∧ y = x)) = (fun y => P y ∨ (j < k ∧ y = x)) := by
      funext y
      have : (j < k + 1) = (j < k) := propext (by omega)
      rw [this]
    exact ⟨h1, this ▸ h2⟩

set_option maxHeartbeats 2000000 in
theorem set_ (lo hi sb so n lb cap x : Nat) (P : Nat → Prop) (lv : List (Nat × List Nat)) (w : World) (hm : Marks w lo hi sb so n P lb cap lv) (hx : x < n) :
    Calls Tryz.prog 98 #[.pointer (some ⟨sb, so, none⟩), .int .i64 (x : Int)] w fun e w' => e = .returned (.tuple #[]) ∧ (∃ lv', Marks w' lo hi sb so n (fun y => P y ∨ y = x) lb cap lv') ∧ Within lo hi w w' := by
  have hn := hm.good.le
  have hlv := hm.levels
  have hfew : lv.length ≤ 1048576 := by simpa using hm.good.few
  go_enter Tryz.func98, Tryz.ntmps98
  go_wp2
  go_loopw [1, 11] (fun u v wr => ∃ k a : Nat, k ≤ lv.length ∧ a ≤ 1048576 ∧ u = .int .i64 (a : Int) ∧ v = .int .i64 (k : Int) ∧ Hid (a = x / 64 ^ k) ∧ Within lo hi w wr ∧ ∃ lv', lv'.length = lv.length ∧ Rep wr lo hi lb lv' ∧
      (∀ (j b : Nat) (ws : List Nat), lv'[j]? = some (b, ws) → ws.length = cd n (j + 1) ∧ Level ws j (fun y => P y ∨ (j < k ∧ y = x))))
    (fun _ v _ => lv.length - (intOf v).toNat)
  case atStart => exact ⟨0, x, Nat.zero_le _, by omega, by go_num, by go_num, hid (by simp), Within.refl _ _ _, lv, rfl, hm.rep, fun j b ws e => by have := hm.good.each j b ws e; simpa using this⟩
  case round =>
    obtain ⟨k, a, hk, ha, rfl, rfl, hax, hwi, lv', hll, hrep, hlev⟩ := hrel
    rcases Nat.lt_or_ge k lv.length with hlt | hge
    · obtain ⟨⟨b, ws⟩, e1⟩ : ∃ y, lv'[k]? = some y := ⟨_, List.getElem?_eq_getElem (by omega)⟩
      have hrow := hrep.row _ _ _ e1
      have hws := hrep.words _ _ _ e1
      have hl2 := hid (hlev _ _ _ e1)
      have hin : a / 64 < ws.length := by rw [hl2.out.1, hax.out, ← div_up]; exact div_lt_cd hx _
      obtain ⟨v, hv⟩ : ∃ v, ws[a / 64]? = some v := ⟨_, List.getElem?_eq_getElem hin⟩
      have hcell := hws.cell hv
      have hfro := hws.frozen (i := a / 64)
      have hand := and63 a (by omega)
      obtain ⟨V, hor, hV⟩ := or_nat v (a % 64) (hl2.out.2.lt hv) (by omega)
      have hst := hid (set_step (x := x) (n := n) (P := P) hrep hlev e1 (by rw [hax.out]) hv (fun c => by rw [hV, hax.out]))
      have hbi := hid (hrep.inner _ _ _ e1)
      have hwi2 := hid ((hwi.setCell (p := ⟨b, a / 64, none⟩) hbi.out.1 hbi.out.2.1 (.int .u64 (V : Int))).drew)
      clear hv hV hlev hws hrep e1
      go_wp2_with fail
      go_region
      go_wp2_with fail
      go_roundw
      case rel => exact ⟨k + 1, a / 64, by omega, by omega, by go_num, by go_num, hid (by rw [div_up, ← hax.out]), hwi2.out, _, by simpa using hll, hst.out.1, hst.out.2⟩
      case measure => simp [intOf]; omega
    · go_wp2
      go_end0
      have ho := hm.out
      refine ⟨rfl, ⟨lv', hwi.cell hm.size ho, ?_, ho, hrep, hm.good.of hll (fun j b ws e => ?_) ?_⟩, hwi⟩
      · rw [hll]; exact hwi.cell hm.levels ho
      · obtain ⟨h1, h2⟩ := hlev j b ws e
        have hj : j < lv'.length := (List.getElem?_eq_some_iff.1 e).1
        refine ⟨h1, h2.congr fun m => ?_⟩
        have hjk : j < k := by omega
        simp [hjk]
      · rintro y (hy | rfl)
        · exact hm.good.lt y hy
        · exact hx

end Go.Proofs.YtboafgimjadboaaGreatDoor.Ar

namespace Go.Proofs.YtboafgimjadboaaGreatDoor.Ar
open Go.RowKit

theorem unset_step {wr : World} {lo hi lb n k b i x v V : Nat} {ws : List Nat} {P : Nat → Prop} {lv : List (Nat × List Nat)} (hrep : Rep wr lo hi lb lv)
    (hlev : ∀ (j b : Nat) (ws : List Nat), lv[j]? = some (b, ws) → ws.length = cd n (j + 1) ∧ Level ws j (fun y => P y ∧ (j < k → y ≠ x))) (hno : ¬ ∃ y, (P y ∧ y ≠ x) ∧ y / 64 ^ k = x / 64 ^ k)
    (e1 : lv[k]? = some (b, ws)) (hix : i = x / 64 ^ k / 64) (hv : ws[i]? = some v) (hV : ∀ c, V.testBit c = (v.testBit c && !decide (x / 64 ^ k % 64 = c))) :
    Rep (wr.setCell ⟨b, i, none⟩ (.int .u64 (V : Int))).drew lo hi lb (lv.set k (b, ws.set i V)) ∧
    (∀ (j b' : Nat) (ws' : List Nat), (lv.set k (b, ws.set i V))[j]? = some (b', ws') → ws'.length = cd n (j + 1) ∧ Level ws' j (fun y => P y ∧ (j < k + 1 → y ≠ x))) ∧
    (V = 0 → ¬ ∃ y, (P y ∧ y ≠ x) ∧ y / 64 ^ (k + 1) = x / 64 ^ (k + 1)) ∧
    (V ≠ 0 → ∃ y, (P y ∧ y ≠ x) ∧ y / 64 ^ (k + 1) = x / 64 ^ (k + 1)) := by
  subst hix
  obtain ⟨h1, h2⟩ := hlev _ _ _ e1
  have h2' : Level ws k P := h2.congr fun m => by simp
  have h3 := Level.unset h2' hv hV hno
  have hlen : x / 64 ^ k / 64 < ws.length := (List.getElem?_eq_some_iff.1 hv).1
  have hVg : (ws.set (x / 64 ^ k / 64) V)[x / 64 ^ k / 64]? = some V := by simp [hlen]
  refine ⟨(hrep.set e1).drew, fun j b' ws' he => ?_, fun h0 => ?_, fun h0 => ?_⟩
  · rw [List.getElem?_set] at he
    split at he
    · rename_i hj
      subst hj
      split at he
      · cases he
        exact ⟨by simpa using h1, h3.congr fun m => by simp⟩
      · cases he
    · rename_i hj
      obtain ⟨h1, h2⟩ := hlev _ _ _ he
      have : (fun y => P y ∧ (j < k + 1 → y ≠ x)) = (fun y => P y ∧ (j < k → y ≠ x)) := by
        funext y
        have : (j < k + 1) = (j < k) := propext (by omega)
        rw [this]
      exact ⟨h1, this ▸ h2⟩
  · subst h0
    rw [div_up]
    have := h3.bare hVg
    rintro ⟨y, hy, e⟩
    rw [div_up] at e
    exact this ⟨y, hy, e⟩
  · obtain ⟨y, hy, e⟩ := h3.marked hVg h0
    exact ⟨y, hy, by rw [div_up, div_up]; exact e⟩

theorem unset_rest {k x : Nat} {P : Nat → Prop} (hy : ∃ y, (P y ∧ y ≠ x) ∧ y / 64 ^ (k + 1) = x / 64 ^ (k + 1)) {j : Nat} {ws : List Nat} (h : Level ws j (fun y => P y ∧ (j < k + 1 → y ≠ x))) : Level ws j (fun y => P y ∧ y ≠ x) := by
  refine h.congr fun m => ⟨?_, ?_⟩
  · rintro ⟨z, ⟨hz, hz2⟩, e⟩
    by_cases hzx : z = x
    · subst hzx
      obtain ⟨y, hy, e2⟩ := hy
      refine ⟨y, hy, ?_⟩
      have hj : k + 1 ≤ j := by
        rcases Nat.lt_or_ge j (k + 1) with h | h
        · exact absurd rfl (hz2 h)
        · exact h
      rw [← e, show j = k + 1 + (j - (k + 1)) from by omega, Nat.pow_add, ← Nat.div_div_eq_div_mul, ← Nat.div_div_eq_div_mul, e2]
    · exact ⟨z, ⟨hz, hzx⟩, e⟩
  · rintro ⟨z, ⟨hz, hz2⟩, e⟩
    exact ⟨z, ⟨hz, fun _ => hz2⟩, e⟩

set_option maxHeartbeats 2000000 in
theorem unset (lo hi sb so n lb cap x : Nat) (P : Nat → Prop) (lv : List (Nat × List Nat)) (w : World) (hm : Marks w lo hi sb so n P lb cap lv) (hx : x < n) :
    Calls Tryz.prog 97 #[.pointer (some ⟨sb, so, none⟩), .int .i64 (x : Int)] w fun e w' => e = .returned (.tuple #[]) ∧ (∃ lv', Marks w' lo hi sb so n (fun y => P y ∧ y ≠ x) lb cap lv') ∧ Within lo hi w w' := by
  have hn := hm.good.le
  have hlv := hm.levels
  have hfew : lv.length ≤ 1048576 := by simpa using hm.good.few
  have fin : ∀ (wr : World) (lv' : List (Nat × List Nat)), Within lo hi w wr → lv'.length = lv.length → Rep wr lo hi lb lv' →
      (∀ (j b : Nat) (ws : List Nat), lv'[j]? = some (b, ws) → ws.length = cd n (j + 1) ∧ Level ws j (fun y => P y ∧ y ≠ x)) → ∃ lv', Marks wr lo hi sb so n (fun y => P y ∧ y ≠ x) lb cap lv' := by
    intro wr lv' hwi hll hrep hl
    have ho := hm.out
    refine ⟨lv', hwi.cell hm.size ho, ?_, ho, hrep, hm.good.of hll hl (fun y hy => hm.good.lt y hy.1)⟩
    rw [hll]; exact hwi.cell hm.levels ho
  have hfin := hid fin
  clear fin
  go_enter Tryz.func97, Tryz.ntmps97
  go_wp2
  go_loopw [1, 11] (fun u v wr => ∃ k a : Nat, k ≤ lv.length ∧ a ≤ 1048576 ∧ u = .int .i64 (a : Int) ∧ v = .int .i64 (k : Int) ∧ Hid (a = x / 64 ^ k) ∧ Within lo hi w wr ∧ Hid (¬ ∃ y, (P y ∧ y ≠ x) ∧ y / 64 ^ k = x / 64 ^ k) ∧ ∃ lv', lv'.length = lv.length ∧ Rep wr lo hi lb lv' ∧
      (∀ (j b : Nat) (ws : List Nat), lv'[j]? = some (b, ws) → ws.length = cd n (j + 1) ∧ Level ws j (fun y => P y ∧ (j < k → y ≠ x))))
    (fun _ v _ => lv.length - (intOf v).toNat)
  case atStart => exact ⟨0, x, Nat.zero_le _, by omega, by go_num, by go_num, hid (by simp), Within.refl _ _ _, hid (by rintro ⟨y, ⟨_, hy⟩, e⟩; simp at e; exact hy e), lv, rfl, hm.rep, fun j b ws e => by have := hm.good.each j b ws e; simpa using this⟩
  case round =>
    obtain ⟨k, a, hk, ha, rfl, rfl, hax, hwi, hno, lv', hll, hrep, hlev⟩ := hrel
    rcases Nat.lt_or_ge k lv.length with hlt | hge
    · obtain ⟨⟨b, ws⟩, e1⟩ : ∃ y, lv'[k]? = some y := ⟨_, List.getElem?_eq_getElem (by omega)⟩
      have hrow := hrep.row _ _ _ e1
      have hws := hrep.words _ _ _ e1
      have hl2 := hid (hlev _ _ _ e1)
      have hin : a / 64 < ws.length := by rw [hl2.out.1, hax.out, ← div_up]; exact div_lt_cd hx _
      obtain ⟨v, hv⟩ : ∃ v, ws[a / 64]? = some v := ⟨_, List.getElem?_eq_getElem hin⟩
      have hcell := hws.cell hv
      have hfro := hws.frozen (i := a / 64)
      have hand := and63 a (by omega)
      obtain ⟨V, hor, hV⟩ := andNot_nat v (a % 64) (hl2.out.2.lt hv) (by omega)
      have hst := hid (unset_step (x := x) (n := n) (P := P) hrep hlev hno.out e1 (by rw [hax.out]) hv (fun c => by rw [hV, hax.out]))
      have hbi := hid (hrep.inner _ _ _ e1)
      have hwi2 := hid ((hwi.setCell (p := ⟨b, a / 64, none⟩) hbi.out.1 hbi.out.2.1 (.int .u64 (V : Int))).drew)
      clear hv hV hlev hws hrep e1
      by_cases hV0 : V = 0
      · subst hV0
        go_wp2_with fail
        go_region
        go_wp2_with fail
        go_roundw
        case rel => exact ⟨k + 1, a / 64, by omega, by omega, by go_num, by go_num, hid (by rw [div_up, ← hax.out]), hwi2.out, hid (hst.out.2.2.1 (by first | rfl | trivial)), _, by simpa using hll, hst.out.1, hst.out.2.1⟩
        case measure => simp [intOf]; omega
      · have hd : decide ((V : Int) = 0) = false := decide_eq_false (by omega)
        go_wp2_with fail
        go_region
        go_wp2_with fail
        first | go_end0 | refine bodyPost_ret (results_none rfl _ _ _) rfl ?_
        exact ⟨rfl, hfin.out _ _ hwi2.out (by simpa using hll) hst.out.1 (fun j b ws e => ⟨(hst.out.2.1 j b ws e).1, unset_rest (hst.out.2.2.2 hV0) (hst.out.2.1 j b ws e).2⟩), hwi2.out⟩
    · go_wp2
      go_end0
      refine ⟨rfl, hfin.out _ _ hwi hll hrep (fun j b ws e => ?_), hwi⟩
      obtain ⟨h1, h2⟩ := hlev j b ws e
      have hj : j < lv'.length := (List.getElem?_eq_some_iff.1 e).1
      refine ⟨h1, h2.congr fun m => ?_⟩
      have hjk : j < k := by omega
      simp [hjk]

end Go.Proofs.YtboafgimjadboaaGreatDoor.Ar
