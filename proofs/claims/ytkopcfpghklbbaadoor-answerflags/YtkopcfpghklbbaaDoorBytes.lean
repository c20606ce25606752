/- What a slice of bytes holds in a world, and a number's bytes, the highest first: plain facts, of no program. -/
import Derived.WalkKit
import Derived.WalkSpells
import Derived.WalkLawsBesides
import Derived.Laws.CopyOwn
import Derived.Laws.BytesArg
import Derived.Laws.IdiomStrings
namespace Go.Proofs.YtkopcfpghklbbaaDoor
open Go.RowKit

theorem hid {p : Prop} (h : p) : Hid p := h

/-- A byte as a cell. -/
def bc (b : UInt8) : Value := .int .u8 (b.toNat : Int)

/-- The slice at 'ad', of capacity 'cap', holds the bytes l. -/
structure Bytes (w : World) (ad : Option Addr) (cap : Nat) (l : List UInt8) : Prop where
  le : l.length ≤ cap
  bound : l.length ≤ 140737488355328
  nil : ad = none → cap = 0
  cell : ∀ a, ad = some a → ∀ j u, (l.map bc)[j]? = some u → w.cell? (a.add j) = some u

theorem Bytes.none (w : World) : Bytes w .none 0 [] := ⟨by simp, by simp, by simp, by simp⟩

theorem cell_lt {w : World} {a : Addr} {v : Value} (h : w.cell? a = some v) : a.block < w.heap.size := by
  unfold World.cell? at h
  rcases Nat.lt_or_ge a.block w.heap.size with h1 | h1
  · exact h1
  · simp [Array.getElem?_eq_none h1] at h

theorem add_block (a : Addr) (j : Nat) : (a.add j).block = a.block := by unfold Addr.add; split <;> rfl

theorem add_add (a : Addr) (n j : Nat) : (a.add n).add j = a.add (n + j) := by
  unfold Addr.add
  by_cases h1 : n = 0 <;> by_cases h2 : j = 0 <;> simp [h1, h2]
  omega

theorem Bytes.below {w w' : World} {ad : Option Addr} {cap : Nat} {l : List UInt8} (h : Bytes w ad cap l) (hb : Below w.heap.size w w') : Bytes w' ad cap l :=
  ⟨h.le, h.bound, h.nil, fun a ha j u hu => by
    have hc := h.cell a ha j u hu
    exact (hb.cell (cell_lt hc)).trans hc⟩

theorem bc_oneCell (l : List UInt8) : ∀ u ∈ l.map bc, u.oneCell' = true := by
  intro u hu
  obtain ⟨b, _, rfl⟩ := List.mem_map.1 hu
  rfl

/-- From a row that the call owns to the slice's bytes. -/
theorem Bytes.ofRow {w : World} {base e : Nat} {g n cap : Nat} {l : List UInt8} (h : w.ownsRow base e 1 (.slice (some ⟨g, 0, .none⟩) n cap) n (l.map bc)) (hc : n ≤ 140737488355328) : Bytes w (some ⟨g, 0, .none⟩) cap l := by
  have h1 := h.1
  simp at h1
  refine ⟨?_, ?_, by simp, ?_⟩
  · rcases h.2 with h2 | ⟨g', cap', cur, hv, _, _, hle, _⟩
    · simp at h2
    · simp at hv
      obtain ⟨rfl, rfl⟩ := hv
      omega
  · omega
  · intro a ha j u hu
    cases ha
    have hj : j < n := by
      have := (List.getElem?_eq_some_iff.1 hu).1
      simp at this
      omega
    have hp : (⟨g, 0, .none⟩ : Addr).add j = ⟨g, j, .none⟩ := by unfold Addr.add; split <;> simp_all
    rw [hp, h.cellAt j (by omega)]
    exact hu

theorem Bytes.ofOwns {w : World} {base e n : Nat} {v : Value} {l : List UInt8} (h : w.ownsRow base e 1 v n (l.map bc)) (hc : n ≤ 140737488355328) : ∃ ad cap, v = .slice ad n cap ∧ Bytes w ad cap l := by
  rcases h.2 with ⟨rfl, rfl⟩ | ⟨g, cap, cur, rfl, _⟩
  · have h1 := h.1
    simp at h1
    subst h1
    exact ⟨.none, 0, rfl, Bytes.none w⟩
  · exact ⟨some ⟨g, 0, .none⟩, cap, rfl, Bytes.ofRow h hc⟩

theorem Bytes.take {w : World} {ad : Option Addr} {cap : Nat} {l : List UInt8} (h : Bytes w ad cap l) (n : Nat) : Bytes w ad cap (l.take n) :=
  ⟨by have := h.le; simp; omega, by have := h.bound; simp; omega, h.nil, fun a ha j u hu => h.cell a ha j u (by
    rw [List.map_take] at hu
    rw [List.getElem?_take] at hu
    split at hu
    · exact hu
    · simp at hu)⟩

theorem Bytes.takeCap {w : World} {ad : Option Addr} {cap : Nat} {l : List UInt8} (h : Bytes w ad cap l) (n : Nat) (hn : n ≤ l.length) : Bytes w ad n (l.take n) :=
  ⟨by simp; omega, by have := h.le; have := h.bound; simp; omega, fun e => by have := h.nil e; have := h.le; omega, (h.take n).cell⟩

theorem Bytes.drop {w : World} {ad : Option Addr} {cap : Nat} {l : List UInt8} (h : Bytes w ad cap l) (n : Nat) : Bytes w (if cap = n then ad else ad.map (·.add n)) (cap - n) (l.drop n) := by
  refine ⟨by have := h.le; simp; omega, by have := h.bound; simp; omega, ?_, ?_⟩
  · intro e
    split at e
    · have := h.nil e; omega
    · have := h.nil (by simpa using e); omega
  · intro a ha j u hu
    rw [List.map_drop, List.getElem?_drop] at hu
    have hj := (List.getElem?_eq_some_iff.1 hu).1
    have := h.le
    simp at hj
    rw [if_neg (by omega)] at ha
    cases ad with
    | none => simp at ha
    | some a0 =>
      simp at ha
      subst ha
      rw [add_add]
      exact h.cell a0 rfl _ u hu

/-- From a block that is known whole. -/
theorem Bytes.ofBlock {w : World} {g cap : Nat} {l : List UInt8} {t : TypeId} {cs : List Value} (hg : w.heap[g]? = some (.cells cs.toArray t (0, 0))) (hl : cs.take l.length = l.map bc) (hle : l.length ≤ cap) (hc : cap ≤ 140737488355328) : Bytes w (some ⟨g, 0, .none⟩) cap l := by
  refine ⟨hle, by omega, by simp, ?_⟩
  intro a ha j u hu
  cases ha
  have hp : (⟨g, 0, .none⟩ : Addr).add j = ⟨g, j, .none⟩ := by unfold Addr.add; split <;> simp_all
  have hj := (List.getElem?_eq_some_iff.1 hu).1
  rw [hp, cell_of_row w g j cs.toArray t (0, 0) hg]
  rw [← hl, List.getElem?_take] at hu
  split at hu
  · simpa using hu
  · simp at hu

/-- The block of a row that 'make' laid whole. -/
theorem block_of_made {w : World} {base e g n : Nat} {xs : List Value} (h : w.ownsRow base e 1 (.slice (some ⟨g, 0, .none⟩) n n) n xs) : Hid (w.heap[g]? = some (.cells xs.toArray e (0, 0))) ∧ Hid (xs.length = n) := by
  have h1 := h.1
  simp at h1
  rcases h.2 with h2 | ⟨g', cap', cur, hv, _, hh, _, _, hsz, htk⟩
  · simp at h2
  · simp at hv
    obtain ⟨rfl, rfl⟩ := hv
    refine ⟨?_, h1⟩
    show w.heap[g]? = _
    have : cur.toList = xs := by rw [← htk, List.take_of_length_le (by simp; omega)]
    rw [hh, ← this]

theorem Bytes.src {w : World} {ad : Option Addr} {cap : Nat} {l : List UInt8} (h : Bytes w ad cap l) (h0 : 0 < (l.map bc).length) : ∃ a, ad = some a ∧ ∀ j v, (l.map bc)[j]? = some v → w.cell? (a.add j) = some v := by
  cases ad with
  | none => have := h.nil rfl; have := h.le; simp at h0; omega
  | some a => exact ⟨a, rfl, h.cell a rfl⟩

theorem ownsRow_below {w w' : World} {base e size n : Nat} {v : Value} {xs : List Value} (h : w.ownsRow base e size v n xs) (hb : Below w.heap.size w w') : w'.ownsRow base e size v n xs := by
  refine ⟨h.1, ?_⟩
  rcases h.2 with h2 | ⟨g, cap, cur, hv, hg, hh, r⟩
  · exact .inl h2
  · refine .inr ⟨g, cap, cur, hv, hg, ?_, r⟩
    rw [hb.block g (Array.getElem?_eq_some_iff.1 hh).1]
    exact hh

/-- A slice of some bytes leads to a plain place. -/
theorem Bytes.opened {w : World} {ad : Option Addr} {cap : Nat} {l : List UInt8} (h : Bytes w ad cap l) (h0 : 0 < l.length) : ∃ b off, ad = some ⟨b, off, .none⟩ ∧ ∀ k (hk : k < l.length), w.cell? ⟨b, off + k, .none⟩ = some (.int .u8 (l[k].toNat : Int)) := by
  obtain ⟨a, rfl, hc⟩ := h.src (by simpa using h0)
  obtain ⟨b, off, spot⟩ := a
  have hcell : ∀ k (hk : k < l.length), w.cell? ((⟨b, off, spot⟩ : Addr).add k) = some (.int .u8 (l[k].toNat : Int)) := fun k hk => hc k _ (by simp [bc, hk])
  have hs : spot = .none := by simpa [Addr.add] using World.cell?_spot (hcell 0 h0)
  subst hs
  refine ⟨b, off, rfl, fun k hk => ?_⟩
  have hp : (⟨b, off, .none⟩ : Addr).add k = ⟨b, off + k, .none⟩ := by unfold Addr.add; split <;> simp_all
  rw [← hp]
  exact hcell k hk

/-- v's lowest n bytes, the highest of them first. -/
def be : Nat → Nat → List UInt8
  | 0, _ => []
  | n + 1, v => UInt8.ofNat (v / 256 ^ n) :: be n v

theorem be_length (n v : Nat) : (be n v).length = n := by
  induction n with
  | zero => rfl
  | succ n ih => simp [be, ih]

attribute [local simp] be_length

theorem be_get (n v j : Nat) (h : j < n) : (be n v)[j]? = some (UInt8.ofNat (v / 256 ^ (n - 1 - j))) := by
  induction n generalizing j with
  | zero => omega
  | succ n ih =>
    cases j with
    | zero => simp [be]
    | succ j =>
      simp only [be, List.getElem?_cons_succ]
      rw [ih j (by omega), show n + 1 - 1 - (j + 1) = n - 1 - j from by omega]

theorem be_take (n v k : Nat) (h : k < n) : (be n v).take (k + 1) = (be n v).take k ++ [UInt8.ofNat (v / 256 ^ (n - 1 - k))] := by
  rw [List.take_add_one, be_get n v k h]
  rfl

theorem bc_shift (V m : Nat) : Value.int .u8 ((V : Int) / 2 ^ (8 * m) % 256) = bc (UInt8.ofNat (V / 256 ^ m)) := by
  have e : (2 : Int) ^ (8 * m) = ((256 ^ m : Nat) : Int) := by
    rw [Int.natCast_pow, show ((256 : Nat) : Int) = 2 ^ 8 from by decide, ← Int.pow_mul]
  have f : (UInt8.ofNat (V / 256 ^ m)).toNat = V / 256 ^ m % 256 := by simp
  unfold bc
  rw [e, f]
  congr 1

/-- The number of these bytes, the highest first. -/
def num (l : List UInt8) : Nat := l.foldl (fun a b => 256 * a + b.toNat) 0

theorem num_snoc (l : List UInt8) (b : UInt8) : num (l ++ [b]) = 256 * num l + b.toNat := by simp [num]

theorem num_acc (l : List UInt8) (a : Nat) : l.foldl (fun a b => 256 * a + b.toNat) a = a * 256 ^ l.length + num l := by
  induction l generalizing a with
  | nil => simp [num]
  | cons b l ih =>
    have e : num (b :: l) = b.toNat * 256 ^ l.length + num l := by
      unfold num
      rw [List.foldl_cons, ih]
      simp [num]
    rw [List.foldl_cons, ih, e, List.length_cons, Nat.pow_succ, Nat.add_mul]
    rw [show 256 * a * 256 ^ l.length = a * (256 ^ l.length * 256) from by rw [Nat.mul_comm 256 a, Nat.mul_assoc, Nat.mul_comm 256]]
    omega

theorem num_cons (b : UInt8) (l : List UInt8) : num (b :: l) = b.toNat * 256 ^ l.length + num l := by
  have := num_acc l b.toNat
  simpa [num] using this

theorem num_lt (l : List UInt8) : num l < 256 ^ l.length := by
  induction l with
  | nil => simp [num]
  | cons b l ih =>
    rw [num_cons, List.length_cons, Nat.pow_succ]
    have h := b.toNat_lt
    have : b.toNat * 256 ^ l.length ≤ 255 * 256 ^ l.length := Nat.mul_le_mul_right _ (by omega)
    omega

theorem mod_succ (v n : Nat) : v % 256 ^ (n + 1) = (v / 256 ^ n % 256) * 256 ^ n + v % 256 ^ n := by
  rw [Nat.pow_succ, Nat.mod_mul, Nat.mul_comm (256 ^ n), Nat.add_comm]

theorem num_be (n v : Nat) : num (be n v) = v % 256 ^ n := by
  induction n with
  | zero => simp [be, num, Nat.mod_one]
  | succ n ih =>
    rw [be, num_cons, ih, be_length, mod_succ]
    simp

end Go.Proofs.YtkopcfpghklbbaaDoor
