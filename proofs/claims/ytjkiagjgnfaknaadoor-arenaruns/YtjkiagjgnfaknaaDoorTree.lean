/- Marks in words of 64, level over level: plain facts on numbers and lists, of no program. -/
import Derived.WalkKit
import Derived.WalkSpells
import Derived.WalkLawsBesides
import Derived.Lib.TrailingZeros
namespace Go.Proofs.YtjkiagjgnfaknaaDoor
open Go.RowKit

theorem hid {p : Prop} (h : p) : Hid p := h

/-- How many marks level k has; level 0 has n. -/
def cd (n : Nat) : Nat → Nat
  | 0 => n
  | k + 1 => (cd n k + 63) / 64

theorem div_up (x k : Nat) : x / 64 ^ (k + 1) = x / 64 ^ k / 64 := by rw [Nat.pow_succ, ← Nat.div_div_eq_div_mul]

theorem div_lt_cd {n x : Nat} (h : x < n) (k : Nat) : x / 64 ^ k < cd n k := by
  induction k with
  | zero => simpa [cd] using h
  | succ k ih => rw [div_up]; unfold cd; omega

theorem cd_has {n : Nat} (k j : Nat) (h : j < cd n k) : j * 64 ^ k < n := by
  induction k generalizing j with
  | zero => simpa [cd] using h
  | succ k ih =>
    have := ih (64 * j) (by unfold cd at h; omega)
    rw [Nat.pow_succ]
    rw [show j * (64 ^ k * 64) = 64 * j * 64 ^ k from by rw [Nat.mul_comm (64 ^ k) 64, ← Nat.mul_assoc, Nat.mul_comm j 64]]
    exact this

theorem cd_pos {n : Nat} (h : 1 ≤ n) (k : Nat) : 1 ≤ cd n k := by
  have := div_lt_cd (n := n) (x := 0) (by omega) k
  rw [Nat.zero_div] at this
  omega

theorem cd_le (n k : Nat) : cd n k ≤ n := by
  induction k with
  | zero => exact Nat.le_refl _
  | succ k ih => unfold cd; omega

/-- One level: its words, and which places below it are marked. -/
def Level (ws : List Nat) (k : Nat) (P : Nat → Prop) : Prop :=
  ∀ i v, ws[i]? = some v → ∀ b, v.testBit b = true ↔ b < 64 ∧ ∃ x, P x ∧ x / 64 ^ k = 64 * i + b

theorem Level.lt {ws : List Nat} {k i v : Nat} {P : Nat → Prop} (h : Level ws k P) (hv : ws[i]? = some v) : v < 18446744073709551616 := by
  have : v < 2 ^ 64 := Nat.lt_pow_two_of_testBit v (fun b hb => by
    cases e : v.testBit b with
    | false => rfl
    | true => have := (h i v hv b).1 e; omega)
  simpa using this

theorem Level.congr {ws : List Nat} {k : Nat} {P Q : Nat → Prop} (h : Level ws k P) (e : ∀ j, (∃ x, P x ∧ x / 64 ^ k = j) ↔ (∃ x, Q x ∧ x / 64 ^ k = j)) : Level ws k Q := by
  intro i v hv b
  rw [h i v hv b, e]

theorem Level.set {ws : List Nat} {k at_ v v' : Nat} {P : Nat → Prop} (h : Level ws k P) (hv : ws[at_ / 64 ^ k / 64]? = some v)
    (hv' : ∀ b, v'.testBit b = (v.testBit b || decide (at_ / 64 ^ k % 64 = b))) : Level (ws.set (at_ / 64 ^ k / 64) v') k (fun x => P x ∨ x = at_) := by
  intro i u hu b
  rw [List.getElem?_set] at hu
  have hex : (∃ x, (P x ∨ x = at_) ∧ x / 64 ^ k = 64 * i + b) ↔ (∃ x, P x ∧ x / 64 ^ k = 64 * i + b) ∨ at_ / 64 ^ k = 64 * i + b := by
    constructor
    · rintro ⟨x, hx | rfl, e⟩
      · exact Or.inl ⟨x, hx, e⟩
      · exact Or.inr e
    · rintro (⟨x, hx, e⟩ | e)
      · exact ⟨x, Or.inl hx, e⟩
      · exact ⟨at_, Or.inr rfl, e⟩
  rw [hex]
  split at hu
  · rename_i hi
    subst hi
    split at hu
    · cases hu
      rw [hv', Bool.or_eq_true, h _ _ hv b, decide_eq_true_eq]
      constructor
      · rintro (⟨hb, hx⟩ | e)
        · exact ⟨hb, Or.inl hx⟩
        · exact ⟨by omega, Or.inr (by omega)⟩
      · rintro ⟨hb, hx | e⟩
        · exact Or.inl ⟨hb, hx⟩
        · exact Or.inr (by omega)
    · cases hu
  · rename_i hi
    rw [h i u hu b]
    constructor
    · rintro ⟨hb, hx⟩; exact ⟨hb, Or.inl hx⟩
    · rintro ⟨hb, hx | e⟩
      · exact ⟨hb, hx⟩
      · exact absurd (show at_ / 64 ^ k / 64 = i by omega) hi

theorem Level.unset {ws : List Nat} {k at_ v v' : Nat} {P : Nat → Prop} (h : Level ws k P) (hv : ws[at_ / 64 ^ k / 64]? = some v)
    (hv' : ∀ b, v'.testBit b = (v.testBit b && !decide (at_ / 64 ^ k % 64 = b))) (hn : ¬ ∃ x, (P x ∧ x ≠ at_) ∧ x / 64 ^ k = at_ / 64 ^ k) :
    Level (ws.set (at_ / 64 ^ k / 64) v') k (fun x => P x ∧ x ≠ at_) := by
  intro i u hu b
  rw [List.getElem?_set] at hu
  have hex : at_ / 64 ^ k ≠ 64 * i + b → ((∃ x, (P x ∧ x ≠ at_) ∧ x / 64 ^ k = 64 * i + b) ↔ (∃ x, P x ∧ x / 64 ^ k = 64 * i + b)) := by
    intro hne
    constructor
    · rintro ⟨x, ⟨hx, _⟩, e⟩; exact ⟨x, hx, e⟩
    · rintro ⟨x, hx, e⟩; exact ⟨x, ⟨hx, fun e' => hne (by rw [← e', e])⟩, e⟩
  split at hu
  · rename_i hi
    subst hi
    split at hu
    · cases hu
      rw [hv', Bool.and_eq_true, h _ _ hv b]
      by_cases hm : at_ / 64 ^ k % 64 = b
      · constructor
        · rintro ⟨_, hx⟩; simp [hm] at hx
        · rintro ⟨_, x, hx, e⟩; exact absurd ⟨x, hx, by omega⟩ hn
      · rw [hex (by omega)]
        simp [hm]
    · cases hu
  · rename_i hi
    rw [h i u hu b]
    by_cases hb : b < 64
    · rw [hex (fun e => hi (by omega))]
    · simp [hb]

/-- A word that is not 0 has a mark. -/
theorem Level.marked {ws : List Nat} {k i v : Nat} {P : Nat → Prop} (h : Level ws k P) (hv : ws[i]? = some v) (h0 : v ≠ 0) : ∃ x, P x ∧ x / 64 ^ k / 64 = i := by
  obtain ⟨b, hb⟩ := Nat.exists_testBit_of_ne_zero h0
  obtain ⟨hb, x, hx, e⟩ := (h i v hv b).1 hb
  exact ⟨x, hx, by omega⟩

theorem Level.bare {ws : List Nat} {k i : Nat} {P : Nat → Prop} (h : Level ws k P) (hv : ws[i]? = some 0) : ¬ ∃ x, P x ∧ x / 64 ^ k / 64 = i := by
  rintro ⟨x, hx, e⟩
  have := (h i 0 hv (x / 64 ^ k % 64)).2 ⟨by omega, x, hx, by omega⟩
  simp at this

/-- The lowest bit of a number that is not 0. -/
theorem ctz_bit {x : Nat} (h0 : x ≠ 0) (h : x < 18446744073709551616) : x.testBit (Lib.ctz 64 x) = true ∧ (∀ j, j < Lib.ctz 64 x → x.testBit j = false) ∧ Lib.ctz 64 x < 64 := by
  obtain ⟨m, hm, hlt⟩ := Lib.ctzFrom_spec 64 x (by omega) (by simpa using h)
  have e : Lib.ctz 64 x = Lib.ctzFrom 64 x := by simp [Lib.ctz, h0]
  rw [e]
  generalize Lib.ctzFrom 64 x = c at hm hlt
  subst hm
  refine ⟨?_, fun j hj => ?_, hlt⟩
  · rw [Nat.testBit_two_pow_mul]; simp
  · rw [Nat.testBit_two_pow_mul]; simp; omega

/-- x is the least marked place from f on. -/
def Least (P : Nat → Prop) (f x : Nat) : Prop := P x ∧ f ≤ x ∧ ∀ y, P y → f ≤ y → x ≤ y

/-- Where the search for the least place from f on stands at level k. -/
def Seek (P : Nat → Prop) (f k a : Nat) : Prop := (∀ x, P x → f ≤ x → a ≤ x / 64 ^ k) ∧ (∀ x, a ≤ x / 64 ^ k → f ≤ x)

theorem Seek.start (P : Nat → Prop) (f : Nat) : Seek P f 0 f := ⟨fun x _ h => by simpa using h, fun x h => by simpa using h⟩

theorem Seek.up {ws : List Nat} {k a f v : Nat} {P : Nat → Prop} (s : Seek P f k a) (h : Level ws k P) (hv : ws[a / 64]? = some v) (h0 : v >>> (a % 64) = 0) : Seek P f (k + 1) (a / 64 + 1) := by
  refine ⟨fun x hx hf => ?_, fun x hx => ?_⟩
  · have h1 := s.1 x hx hf
    rw [div_up]
    rcases Nat.lt_or_ge (a / 64) (x / 64 ^ k / 64) with hlt | hge
    · exact hlt
    · have h2 := (h (a / 64) v hv (x / 64 ^ k % 64)).2 ⟨by omega, x, hx, by omega⟩
      have h3 : (v >>> (a % 64)).testBit (x / 64 ^ k % 64 - a % 64) = true := by
        rw [Nat.testBit_shiftRight, show a % 64 + (x / 64 ^ k % 64 - a % 64) = x / 64 ^ k % 64 from by omega]
        exact h2
      rw [h0] at h3
      simp at h3
  · rw [div_up] at hx
    exact s.2 x (by omega)

/-- Nothing is left. -/
theorem Seek.out {k a f n : Nat} {P : Nat → Prop} (s : Seek P f k a) (hP : ∀ x, P x → x < n) (h : cd n k ≤ a) : ∀ x, P x → ¬ f ≤ x := by
  intro x hx hf
  have h1 := s.1 x hx hf
  have h2 := div_lt_cd (hP x hx) k
  omega

/-- A mark a of level k under which lies the least place from f on. -/
def Found (P : Nat → Prop) (f k a : Nat) : Prop := (∃ x, P x ∧ x / 64 ^ k = a) ∧ (∀ x, P x → f ≤ x → a ≤ x / 64 ^ k) ∧ (∀ x, x / 64 ^ k = a → f ≤ x)

theorem Seek.found {ws : List Nat} {k a f v : Nat} {P : Nat → Prop} (s : Seek P f k a) (h : Level ws k P) (hv : ws[a / 64]? = some v) (h0 : v >>> (a % 64) ≠ 0) : Found P f k (a + Lib.ctz 64 (v >>> (a % 64))) := by
  have hlt : v >>> (a % 64) < 18446744073709551616 := Nat.lt_of_le_of_lt (by rw [Nat.shiftRight_eq_div_pow]; exact Nat.div_le_self _ _) (h.lt hv)
  obtain ⟨hb, hlow, hc⟩ := ctz_bit h0 hlt
  rw [Nat.testBit_shiftRight] at hb
  obtain ⟨hb64, x, hx, e⟩ := (h _ _ hv _).1 hb
  refine ⟨⟨x, hx, by omega⟩, fun y hy hf => ?_, fun y hy => s.2 y (by omega)⟩
  have h1 := s.1 y hy hf
  rcases Nat.lt_or_ge (a / 64) (y / 64 ^ k / 64) with hlt | hge
  · omega
  · have h2 := (h (a / 64) v hv (y / 64 ^ k % 64)).2 ⟨by omega, y, hy, by omega⟩
    rcases Nat.lt_or_ge (y / 64 ^ k % 64 - a % 64) (Lib.ctz 64 (v >>> (a % 64))) with hl | hg
    · have h3 := hlow _ hl
      rw [Nat.testBit_shiftRight, show a % 64 + (y / 64 ^ k % 64 - a % 64) = y / 64 ^ k % 64 from by omega, h2] at h3
      cases h3
    · omega

/-- One level down. -/
theorem Found.down {ws : List Nat} {k a f v : Nat} {P : Nat → Prop} (s : Found P f (k + 1) a) (h : Level ws k P) (hv : ws[a]? = some v) : v ≠ 0 ∧ Found P f k (64 * a + Lib.ctz 64 v) := by
  obtain ⟨⟨x, hx, e⟩, h1, h2⟩ := s
  rw [div_up] at e
  have h0 : v ≠ 0 := by
    rintro rfl
    exact h.bare hv ⟨x, hx, e⟩
  refine ⟨h0, ?_⟩
  obtain ⟨hb, hlow, hc⟩ := ctz_bit h0 (h.lt hv)
  obtain ⟨hb64, z, hz, ez⟩ := (h _ _ hv _).1 hb
  refine ⟨⟨z, hz, ez⟩, fun y hy hf => ?_, fun y hy => h2 y (by rw [div_up]; omega)⟩
  have h3 := h1 y hy hf
  rw [div_up] at h3
  rcases Nat.lt_or_ge a (y / 64 ^ k / 64) with hlt | hge
  · omega
  · have h4 := (h a v hv (y / 64 ^ k % 64)).2 ⟨by omega, y, hy, by omega⟩
    rcases Nat.lt_or_ge (y / 64 ^ k % 64) (Lib.ctz 64 v) with hl | hg
    · rw [hlow _ hl] at h4; cases h4
    · omega

theorem Found.least {a f : Nat} {P : Nat → Prop} (s : Found P f 0 a) : Least P f a := by
  obtain ⟨⟨x, hx, e⟩, h1, h2⟩ := s
  simp at e
  subst e
  exact ⟨hx, h2 x (by simp), fun y hy hf => by simpa using h1 y hy hf⟩

theorem Found.lt {n k a f : Nat} {P : Nat → Prop} (s : Found P f k a) (hP : ∀ x, P x → x < n) : a < cd n k := by
  obtain ⟨⟨x, hx, e⟩, _⟩ := s
  rw [← e]
  exact div_lt_cd (hP x hx) k

/-- Nothing is marked. -/
theorem Level.zeros (m k : Nat) : Level (List.replicate m 0) k (fun _ => False) := by
  intro i v hv b
  rw [List.getElem?_replicate] at hv
  split at hv
  · cases hv; simp
  · cases hv

/-- The words of a level whose first m marks are all on. -/
def ones (m : Nat) : List Nat := List.replicate (m / 64) 18446744073709551615 ++ (if m % 64 = 0 then [] else [2 ^ (m % 64) - 1])

theorem ones_length (m : Nat) : (ones m).length = (m + 63) / 64 := by
  unfold ones
  split <;> simp <;> omega

theorem Level.ones (n k : Nat) : Level (ones (cd n k)) k (fun x => x < n) := by
  intro i v hv b
  have hex : (∃ x, x < n ∧ x / 64 ^ k = 64 * i + b) ↔ 64 * i + b < cd n k := by
    constructor
    · rintro ⟨x, hx, e⟩; rw [← e]; exact div_lt_cd hx k
    · intro h
      exact ⟨(64 * i + b) * 64 ^ k, cd_has k _ h, Nat.mul_div_cancel _ (Nat.pow_pos (by decide))⟩
  rw [hex]
  generalize cd n k = m at hv
  unfold Go.Proofs.YtjkiagjgnfaknaaDoor.ones at hv
  rw [List.getElem?_append] at hv
  simp only [List.length_replicate] at hv
  split at hv
  · rename_i hi
    rw [List.getElem?_replicate, if_pos hi] at hv
    cases hv
    rw [show (18446744073709551615 : Nat) = 2 ^ 64 - 1 from by decide, Nat.testBit_two_pow_sub_one, decide_eq_true_eq]
    omega
  · rename_i hi
    split at hv
    · simp at hv
    · rename_i h0
      rcases Nat.eq_zero_or_pos (i - m / 64) with e | e
      · rw [e] at hv
        cases hv
        rw [Nat.testBit_two_pow_sub_one, decide_eq_true_eq]
        omega
      · rw [List.getElem?_eq_none (by simp; omega)] at hv
        cases hv

/-- All levels. -/
structure Good (ls : List (List Nat)) (n : Nat) (P : Nat → Prop) : Prop where
  pos : 1 ≤ n
  le : n ≤ 1048576
  ne : 1 ≤ ls.length
  few : ls.length ≤ 1048576
  top : cd n ls.length ≤ 1
  size : ∀ k ws, ls[k]? = some ws → ws.length = cd n (k + 1)
  lt : ∀ x, P x → x < n
  level : ∀ k ws, ls[k]? = some ws → Level ws k P

theorem Good.congr {ls : List (List Nat)} {n : Nat} {P Q : Nat → Prop} (h : Good ls n P) (e : ∀ x, P x ↔ Q x) : Good ls n Q := by
  have : P = Q := funext fun x => propext (e x)
  exact this ▸ h

end Go.Proofs.YtjkiagjgnfaknaaDoor
