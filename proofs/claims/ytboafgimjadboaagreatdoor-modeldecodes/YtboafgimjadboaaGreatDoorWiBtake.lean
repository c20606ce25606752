/- What a slice of bytes holds in a world, and a number's bytes, the highest first: plain facts, of no program. What 'wire.isWidth' and 'wire.copied' answer. What 'wire.Put' answers. Plain facts on numbers, masks and the order of bytes: of no program's text. What 'wire.number' answers. What 'wire.Take' answers. 'append' of any bytes onto a slice that the call made: one law for the walk, of no program. -/
import Derived.WalkKit
import Derived.WalkSpells
import Derived.WalkLawsBesides
import Derived.Laws.CopyOwn
import Derived.Laws.BytesArg
import Derived.Laws.IdiomStrings
import Derived.Test.YtboafgimjadboaaGreatDoorRows
import Derived.OpenShut
import Derived.Deep.RegionHeld3
import Derived.Deep.DrawnRows
import Derived.Laws.AppendOwnNone
namespace Go.Proofs.YtboafgimjadboaaGreatDoor.Wi
open Go.RowKit

theorem hid {p : Prop} (h : p) : Hid p := h

/-- A byte as a cell. -/
def bc (b : UInt8) : Value := .int .u8 (b.toNat : Int)

/-- The slice at 'ad', of capacity 'cap', holds the bytes l. -/
structure Bytes (w : World) (ad : Option Addr) (cap : Nat) (l : List UInt8) : Prop where
  le : l.length ≤ cap
  bound : l.length ≤ 140737488355328
  nil : ad = none → cap = 0
  cell : ∀ a, ad = some a → ∀ j u, (l.map bc)[j]? = some u → w.cell? (a.add j) = some u

theorem Bytes.none (w : World) : Bytes w .none 0 [] := ⟨by simp, by simp, by simp, by simp⟩

theorem cell_lt {w : World} {a : Addr} {v : Value} (h : w.cell? a = some v) : a.block < w.heap.size := by
  unfold World.cell? at h
  rcases Nat.lt_or_ge a.block w.heap.size with h1 | h1
  · exact h1
  · simp [Array.getElem?_eq_none h1] at h

theorem add_block (a : Addr) (j : Nat) : (a.add j).block = a.block := by unfold Addr.add; split <;> rfl

theorem add_add (a : Addr) (n j : Nat) : (a.add n).add j = a.add (n + j) := by
  unfold Addr.add
  by_cases h1 : n = 0 <;> by_cases h2 : j = 0 <;> simp [h1, h2]
  omega

theorem Bytes.below {w w' : World} {ad : Option Addr} {cap : Nat} {l : List UInt8} (h : Bytes w ad cap l) (hb : Below w.heap.size w w') : Bytes w' ad cap l :=
  ⟨h.le, h.bound, h.nil, fun a ha j u hu => by
    have hc := h.cell a ha j u hu
    exact (hb.cell (cell_lt hc)).trans hc⟩

theorem bc_oneCell (l : List UInt8) : ∀ u ∈ l.map bc, u.oneCell' = true := by
  intro u hu
  obtain ⟨b, _, rfl⟩ := List.mem_map.1 hu
  rfl

/-- From a row that the call owns to the slice's bytes. -/
theorem Bytes.ofRow {w : World} {base e : Nat} {g n cap : Nat} {l : List UInt8} (h : w.ownsRow base e 1 (.slice (some ⟨g, 0, .none⟩) n cap) n (l.map bc)) (hc : n ≤ 140737488355328) : Bytes w (some ⟨g, 0, .none⟩) cap l := by
  have h1 := h.1
  simp at h1
  refine ⟨?_, ?_, by simp, ?_⟩
  · rcases h.2 with h2 | ⟨g', cap', cur, hv, _, _, hle, _⟩
    · simp at h2
    · simp at hv
      obtain ⟨rfl, rfl⟩ := hv
      omega
  · omega
  · intro a ha j u hu
    cases ha
    have hj : j < n := by
      have := (List.getElem?_eq_some_iff.1 hu).1
      simp at this
      omega
    have hp : (⟨g, 0, .none⟩ : Addr).add j = ⟨g, j, .none⟩ := by unfold Addr.add; split <;> simp_all
    rw [hp, h.cellAt j (by omega)]
    exact hu

theorem Bytes.ofOwns {w : World} {base e n : Nat} {v : Value} {l : List UInt8} (h : w.ownsRow base e 1 v n (l.map bc)) (hc : n ≤ 140737488355328) : ∃ ad cap, v = .slice ad n cap ∧ Bytes w ad cap l := by
  rcases h.2 with ⟨rfl, rfl⟩ | ⟨g, cap, cur, rfl, _⟩
  · have h1 := h.1
    simp at h1
    subst h1
    exact ⟨.none, 0, rfl, Bytes.none w⟩
  · exact ⟨some ⟨g, 0, .none⟩, cap, rfl, Bytes.ofRow h hc⟩

theorem Bytes.take {w : World} {ad : Option Addr} {cap : Nat} {l : List UInt8} (h : Bytes w ad cap l) (n : Nat) : Bytes w ad cap (l.take n) :=
  ⟨by have := h.le; simp; omega, by have := h.bound; simp; omega, h.nil, fun a ha j u hu => h.cell a ha j u (by
    rw [List.map_take] at hu
    rw [List.getElem?_take] at hu
    split at hu
    · exact hu
    · simp at hu)⟩

theorem Bytes.drop {w : World} {ad : Option Addr} {cap : Nat} {l : List UInt8} (h : Bytes w ad cap l) (n : Nat) : Bytes w (if cap = n then ad else ad.map (·.add n)) (cap - n) (l.drop n) := by
  refine ⟨by have := h.le; simp; omega, by have := h.bound; simp; omega, ?_, ?_⟩
  · intro e
    split at e
    · have := h.nil e; omega
    · have := h.nil (by simpa using e); omega
  · intro a ha j u hu
    rw [List.map_drop, List.getElem?_drop] at hu
    have hj := (List.getElem?_eq_some_iff.1 hu).1
    have := h.le
    simp at hj
    rw [if_neg (by omega)] at ha
    cases ad with
    | none => simp at ha
    | some a0 =>
      simp at ha
      subst ha
      rw [add_add]
      exact h.cell a0 rfl _ u hu

/-- From a block that is known whole. -/
theorem Bytes.ofBlock {w : World} {g cap : Nat} {l : List UInt8} {t : TypeId} {cs : List Value} (hg : w.heap[g]? = some (.cells cs.toArray t (0, 0))) (hl : cs.take l.length = l.map bc) (hle : l.length ≤ cap) (hc : cap ≤ 140737488355328) : Bytes w (some ⟨g, 0, .none⟩) cap l := by
  refine ⟨hle, by omega, by simp, ?_⟩
  intro a ha j u hu
  cases ha
  have hp : (⟨g, 0, .none⟩ : Addr).add j = ⟨g, j, .none⟩ := by unfold Addr.add; split <;> simp_all
  have hj := (List.getElem?_eq_some_iff.1 hu).1
  rw [hp, cell_of_row w g j cs.toArray t (0, 0) hg]
  rw [← hl, List.getElem?_take] at hu
  split at hu
  · simpa using hu
  · simp at hu

/-- The block of a row that 'make' laid whole. -/
theorem block_of_made {w : World} {base e g n : Nat} {xs : List Value} (h : w.ownsRow base e 1 (.slice (some ⟨g, 0, .none⟩) n n) n xs) : Hid (w.heap[g]? = some (.cells xs.toArray e (0, 0))) ∧ Hid (xs.length = n) := by
  have h1 := h.1
  simp at h1
  rcases h.2 with h2 | ⟨g', cap', cur, hv, _, hh, _, _, hsz, htk⟩
  · simp at h2
  · simp at hv
    obtain ⟨rfl, rfl⟩ := hv
    refine ⟨?_, h1⟩
    show w.heap[g]? = _
    have : cur.toList = xs := by rw [← htk, List.take_of_length_le (by simp; omega)]
    rw [hh, ← this]

theorem Bytes.src {w : World} {ad : Option Addr} {cap : Nat} {l : List UInt8} (h : Bytes w ad cap l) (h0 : 0 < (l.map bc).length) : ∃ a, ad = some a ∧ ∀ j v, (l.map bc)[j]? = some v → w.cell? (a.add j) = some v := by
  cases ad with
  | none => have := h.nil rfl; have := h.le; simp at h0; omega
  | some a => exact ⟨a, rfl, h.cell a rfl⟩

theorem ownsRow_below {w w' : World} {base e size n : Nat} {v : Value} {xs : List Value} (h : w.ownsRow base e size v n xs) (hb : Below w.heap.size w w') : w'.ownsRow base e size v n xs := by
  refine ⟨h.1, ?_⟩
  rcases h.2 with h2 | ⟨g, cap, cur, hv, hg, hh, r⟩
  · exact .inl h2
  · refine .inr ⟨g, cap, cur, hv, hg, ?_, r⟩
    rw [hb.block g (Array.getElem?_eq_some_iff.1 hh).1]
    exact hh

/-- A slice of some bytes leads to a plain place. -/
theorem Bytes.opened {w : World} {ad : Option Addr} {cap : Nat} {l : List UInt8} (h : Bytes w ad cap l) (h0 : 0 < l.length) : ∃ b off, ad = some ⟨b, off, .none⟩ ∧ ∀ k (hk : k < l.length), w.cell? ⟨b, off + k, .none⟩ = some (.int .u8 (l[k].toNat : Int)) := by
  obtain ⟨a, rfl, hc⟩ := h.src (by simpa using h0)
  obtain ⟨b, off, spot⟩ := a
  have hcell : ∀ k (hk : k < l.length), w.cell? ((⟨b, off, spot⟩ : Addr).add k) = some (.int .u8 (l[k].toNat : Int)) := fun k hk => hc k _ (by simp [bc, hk])
  have hs : spot = .none := by simpa [Addr.add] using World.cell?_spot (hcell 0 h0)
  subst hs
  refine ⟨b, off, rfl, fun k hk => ?_⟩
  have hp : (⟨b, off, .none⟩ : Addr).add k = ⟨b, off + k, .none⟩ := by unfold Addr.add; split <;> simp_all
  rw [← hp]
  exact hcell k hk

/-- v's lowest n bytes, the highest of them first. -/
def be : Nat → Nat → List UInt8
  | 0, _ => []
  | n + 1, v => UInt8.ofNat (v / 256 ^ n) :: be n v

theorem be_length (n v : Nat) : (be n v).length = n := by
  induction n with
  | zero => rfl
  | succ n ih => simp [be, ih]

attribute [local simp] be_length

theorem be_get (n v j : Nat) (h : j < n) : (be n v)[j]? = some (UInt8.ofNat (v / 256 ^ (n - 1 - j))) := by
  induction n generalizing j with
  | zero => omega
  | succ n ih =>
    cases j with
    | zero => simp [be]
    | succ j =>
      simp only [be, List.getElem?_cons_succ]
      rw [ih j (by omega), show n + 1 - 1 - (j + 1) = n - 1 - j from by omega]

theorem be_take (n v k : Nat) (h : k < n) : (be n v).take (k + 1) = (be n v).take k ++ [UInt8.ofNat (v / 256 ^ (n - 1 - k))] := by
  rw [List.take_add_one, be_get n v k h]
  rfl

theorem bc_shift (V m : Nat) : Value.int .u8 ((V : Int) / 2 ^ (8 * m) % 256) = bc (UInt8.ofNat (V / 256 ^ m)) := by
  have e : (2 : Int) ^ (8 * m) = ((256 ^ m : Nat) : Int) := by
    rw [Int.natCast_pow, show ((256 : Nat) : Int) = 2 ^ 8 from by decide, ← Int.pow_mul]
  have f : (UInt8.ofNat (V / 256 ^ m)).toNat = V / 256 ^ m % 256 := by simp
  unfold bc
  rw [e, f]
  congr 1

/-- The number of these bytes, the highest first. -/
def num (l : List UInt8) : Nat := l.foldl (fun a b => 256 * a + b.toNat) 0

theorem num_snoc (l : List UInt8) (b : UInt8) : num (l ++ [b]) = 256 * num l + b.toNat := by simp [num]

theorem num_acc (l : List UInt8) (a : Nat) : l.foldl (fun a b => 256 * a + b.toNat) a = a * 256 ^ l.length + num l := by
  induction l generalizing a with
  | nil => simp [num]
  | cons b l ih =>
    have e : num (b :: l) = b.toNat * 256 ^ l.length + num l := by
      unfold num
      rw [List.foldl_cons, ih]
      simp [num]
    rw [List.foldl_cons, ih, e, List.length_cons, Nat.pow_succ, Nat.add_mul]
    rw [show 256 * a * 256 ^ l.length = a * (256 ^ l.length * 256) from by rw [Nat.mul_comm 256 a, Nat.mul_assoc, Nat.mul_comm 256]]
    omega

theorem num_cons (b : UInt8) (l : List UInt8) : num (b :: l) = b.toNat * 256 ^ l.length + num l := by
  have := num_acc l b.toNat
  simpa [num] using this

theorem num_lt (l : List UInt8) : num l < 256 ^ l.length := by
  induction l with
  | nil => simp [num]
  | cons b l ih =>
    rw [num_cons, List.length_cons, Nat.pow_succ]
    have h := b.toNat_lt
    have : b.toNat * 256 ^ l.length ≤ 255 * 256 ^ l.length := Nat.mul_le_mul_right _ (by omega)
    omega

theorem mod_succ (v n : Nat) : v % 256 ^ (n + 1) = (v / 256 ^ n % 256) * 256 ^ n + v % 256 ^ n := by
  rw [Nat.pow_succ, Nat.mod_mul, Nat.mul_comm (256 ^ n), Nat.add_comm]

theorem num_be (n v : Nat) : num (be n v) = v % 256 ^ n := by
  induction n with
  | zero => simp [be, num, Nat.mod_one]
  | succ n ih =>
    rw [be, num_cons, ih, be_length, mod_succ]
    simp

end Go.Proofs.YtboafgimjadboaaGreatDoor.Wi

namespace Go.Proofs.YtboafgimjadboaaGreatDoor.Wi
open Go.RowKit
attribute [local simp] be_length

theorem isWidth_yes (n : Int) (w : World) (h1 : 1 ≤ n) (h8 : n ≤ 8) :
    Calls Tryz.prog 93 #[.int .i64 n] w fun e w' => e = .returned (.bool true) ∧ w = w' := by
  go_enter Tryz.func93, Tryz.ntmps93
  go_wp2
  go_ret
  exact ⟨rfl, rfl⟩

theorem Tryz.info5 : (Tryz.prog.info? 5).map (fun i => (i.zero, i.size, i.bytes)) = some (some (.int .u8 0), 1, 1) := by kernel_rfl
theorem Tryz.size5 : (Tryz.prog.info? 5).map (·.size) = some 1 := by kernel_rfl

set_option maxHeartbeats 400000 in
theorem copied_any (ad : Option Addr) (cap : Nat) (l : List UInt8) (w : World) (hb : Bytes w ad cap l) :
    Calls Tryz.prog 94 #[.slice ad l.length cap] w fun e w' => ∃ g, e = .returned (.slice (some ⟨g, 0, none⟩) l.length l.length) ∧ Bytes w' (some ⟨g, 0, none⟩) l.length l ∧ Below w.heap.size w w' := by
  have hle := hb.le
  have hbd := hb.bound
  obtain ⟨i0, hi, hz0, hz1, hz2⟩ := info_parts Tryz.info5
  go_enter Tryz.func94, Tryz.ntmps94
  go_wp2_with (first
    | (at_make; refine wpList_make_full _ rfl (.tmp 5) (.tmp 5) 43 rfl w.heap.size 5 i0 (.int .u8 0) 1 Tryz.underlying43 hi hz0 hz1 .i64 .i64 _ _ l.length rfl rfl rfl rfl (by rw [hz2]; omega) (by unfold maxLen; omega) (Nat.le_refl _) ?_; intro w1 hown hgrow; have hb1 := (Below.refl w.heap.size w).grown hgrow (Nat.le_refl _) (by simp); obtain ⟨HB, HX⟩ := block_of_made hown; clear hown hgrow)
    | (refine wpList_copy_splice rfl (.tmp 7) (.tmp 8) 43 43 rfl 5 Tryz.underlying43 Tryz.size5 _ ad l.length l.length l.length cap rfl rfl w.heap.size 0 _ 5 HB.out (l.map bc) (by simp) (fun h0 => ⟨rfl, (hb.below hb1).src h0⟩) (by rw [HX.out]; simp) (bc_oneCell l) w.heap.size w hb1 (Nat.le_refl _) ?_; intro w2 HB2 hb2)
    | go_in)
  go_ret
  exact ⟨w.heap.size, rfl, Bytes.ofBlock HB2.out (by simp [splice]) (Nat.le_refl _) (by omega), hb2⟩

/-- The same, whatever the slice is spelt like. -/
theorem copied_at (ad : Option Addr) (cap n : Nat) (l : List UInt8) (w : World) (hn : n = l.length) (hb : Bytes w ad cap l) :
    Calls Tryz.prog 94 #[.slice ad n cap] w fun e w' => ∃ g, e = .returned (.slice (some ⟨g, 0, none⟩) n n) ∧ Bytes w' (some ⟨g, 0, none⟩) n l ∧ Below w.heap.size w w' := by
  subst hn
  exact copied_any ad cap l w hb

end Go.Proofs.YtboafgimjadboaaGreatDoor.Wi

namespace Go.Proofs.YtboafgimjadboaaGreatDoor.Wi
open Go.RowKit
attribute [local simp] be_length

set_option maxRecDepth 100000 in
set_option maxHeartbeats 800000 in
theorem put_ok (ad : Option Addr) (cap : Nat) (l : List UInt8) (V N : Nat) (w : World) (hb : Bytes w ad cap l) (hl : l.length ≤ 140737488351232) (h1 : 1 ≤ N) (h8 : N ≤ 8) :
    Calls Tryz.prog 70 #[.slice ad l.length cap, .int .u64 V, .int .i64 N] w fun e w' => ∃ g, e = .returned (.slice (some ⟨g, 0, none⟩) (l.length + N) (l.length + N)) ∧ Bytes w' (some ⟨g, 0, none⟩) (l.length + N) (l ++ be N V) ∧ Below w.heap.size w w' := by
  have hle := hb.le
  obtain ⟨i0, hi, hz0, hz1, hz2⟩ := info_parts Tryz.info5
  go_enter Tryz.func70, Tryz.ntmps70
  go_wp2_with (first
    | (go_at_call 93; refine (isWidth_yes _ _ (by omega) (by omega)).mono ?_; rintro e w' ⟨rfl, rfl⟩)
    | (at_make; refine wpList_make_own _ rfl (.const (.int .i64 0)) (.tmp 17) 43 rfl w.heap.size 5 i0 (.int .u8 0) 1 Tryz.underlying43 hi hz0 hz1 .i64 .i64 _ (l.length + N) rfl rfl (by omega) (by rw [hz2]; omega) (by unfold maxLen; omega) (Nat.le_refl _) ?_; intro w1 hown hgrow; have hb1 := (Below.refl w.heap.size w).grown hgrow (Nat.le_refl _) (by simp); clear hgrow)
    | (at_builtin; refine wpList_append_fits_any _ rfl (.tmp 19) (.tmp 20) 43 rfl w.heap.size 5 i0 1 Tryz.underlying43 hi hz1 w.heap.size 0 (l.length + N) [] rfl hown ad l.length cap (l.map bc) rfl (by simp) (fun e => by have := hb.nil e; omega) (hb.below hb1).cell (bc_oneCell l) (by omega) ?_; intro w2 hown2 hgrow2; have hb2 := hb1.grown hgrow2 hb1.size (fun k hk => by cases hk; exact Nat.le_refl _); clear hgrow2 hown hb1))
  go_loopw [7, 8] (fun v i wr => ∃ k : Nat, k ≤ N ∧ i = .int .i64 ((N : Int) - 1 - k) ∧ v = .slice (some ⟨w.heap.size, 0, none⟩) (l.length + k) (l.length + N) ∧ wr.ownsRow w.heap.size 5 1 (.slice (some ⟨w.heap.size, 0, none⟩) (l.length + k) (l.length + N)) (l.length + k) ((l ++ (be N V).take k).map bc) ∧ Below w.heap.size w wr)
    (fun _ i _ => (intOf i + 1).toNat)
  case atStart => exact ⟨0, by omega, by go_num, rfl, by simpa using hown2, hb2⟩
  case round =>
    obtain ⟨k, hk, rfl, rfl, hownr, hbr⟩ := hrel
    clear hown2 hb2
    by_cases hlt : k < N
    · go_wp2_with (at_builtin; refine wpList_append_fits _ rfl (.tmp 28) (.tmp 34) 43 rfl w.heap.size 5 i0 1 Tryz.underlying43 hi hz1 w.heap.size (l.length + k) (l.length + N) _ rfl (hownr.alloc _) ⟨wr.heap.size, 0, none⟩ 1 1 [.int .u8 ((V : Int) / 2 ^ (8 * (N - 1 - k)) % 256)] rfl rfl (cell_one_new _ _ _) (by simp [Value.oneCell']) (by omega) ?_; intro w3 hown3 hgrow3)
      have hsz := hbr.size
      have e : (l ++ (be N V).take (k + 1)).map bc = (l ++ (be N V).take k).map bc ++ [.int .u8 ((V : Int) / 2 ^ (8 * (N - 1 - k)) % 256)] := by
        rw [be_take _ _ _ hlt, bc_shift]; simp
      have hb3 := (hbr.alloc hsz (.cells #[.int .u8 ((V : Int) / 2 ^ (8 * (N - 1 - k)) % 256)] 5)).grown hgrow3 (by simp; omega) (fun k hk => by cases hk; exact Nat.le_refl _)
      go_roundw
      case rel => exact ⟨k + 1, by omega, by go_num, rfl, by rw [e]; exact hown3, hb3⟩
      case measure => simp [intOf]; omega
    · go_wp2_with fail
      go_ret
      obtain rfl : k = N := by omega
      rw [List.take_of_length_le (by simp)] at hownr
      exact ⟨w.heap.size, rfl, Bytes.ofRow hownr (by omega), hbr⟩

/-- The same, whatever the arguments are spelt like. -/
theorem put_at (ad : Option Addr) (cap : Nat) (l : List UInt8) (v n : Int) (V N : Nat) (w : World) (hv : v = V) (hn : n = N) (hb : Bytes w ad cap l) (hl : l.length ≤ 140737488351232) (h1 : 1 ≤ N) (h8 : N ≤ 8) :
    Calls Tryz.prog 70 #[.slice ad l.length cap, .int .u64 v, .int .i64 n] w fun e w' => ∃ g, e = .returned (.slice (some ⟨g, 0, none⟩) (l.length + N) (l.length + N)) ∧ Bytes w' (some ⟨g, 0, none⟩) (l.length + N) (l ++ be N V) ∧ Below w.heap.size w w' := by
  subst hv hn
  exact put_ok ad cap l V N w hb hl h1 h8

/-- Onto nothing. -/
theorem put_nil (v n : Int) (V N : Nat) (w : World) (hv : v = V) (hn : n = N) (h1 : 1 ≤ N) (h8 : N ≤ 8) :
    Calls Tryz.prog 70 #[.slice none 0 0, .int .u64 v, .int .i64 n] w fun e w' => ∃ g, e = .returned (.slice (some ⟨g, 0, none⟩) N N) ∧ Bytes w' (some ⟨g, 0, none⟩) N (be N V) ∧ Below w.heap.size w w' := by
  have := put_at none 0 [] v n V N w hv hn (Bytes.none w) (by simp) h1 h8
  simpa using this

end Go.Proofs.YtboafgimjadboaaGreatDoor.Wi

namespace Go.Proofs.YtboafgimjadboaaGreatDoor.Wi
open Go.RowKit
attribute [local simp] be_length

theorem wrapU (n : Int) : IntKind.u64.wrap n = n % 18446744073709551616 := by
  simp [IntKind.wrap, IntKind.signed, IntKind.bits]

theorem num_inj_be (n a b : Nat) : be n a = be n b ↔ a % 256 ^ n = b % 256 ^ n := by
  constructor
  · intro h
    rw [← num_be, ← num_be, h]
  · intro h
    induction n with
    | zero => rfl
    | succ n ih =>
      rw [mod_succ, mod_succ] at h
      have hx : a % 256 ^ n < 256 ^ n := Nat.mod_lt _ (Nat.pos_of_ne_zero (by simp))
      have hy : b % 256 ^ n < 256 ^ n := Nat.mod_lt _ (Nat.pos_of_ne_zero (by simp))
      have hd : a % 256 ^ n = b % 256 ^ n := by
        have := congrArg (· % 256 ^ n) h
        simpa [Nat.mul_add_mod', Nat.mod_eq_of_lt hx, Nat.mod_eq_of_lt hy] using this
      have hpos : 0 < 256 ^ n := Nat.pos_of_ne_zero (by simp)
      have hq : a / 256 ^ n % 256 = b / 256 ^ n % 256 := by
        rw [hd] at h
        exact Nat.eq_of_mul_eq_mul_right hpos (by omega)
      rw [be, be, ih hd]
      congr 1
      rw [← UInt8.toNat_inj]
      simpa using hq

/-- 'v<<8 | x' where nothing is lost. -/
theorem or_byte (x : Nat) (b : UInt8) (hx : x < 72057594037927936) : bits .or .u64 (IntKind.u64.wrap ((x : Int) * 256)) (IntKind.u64.wrap (b.toNat : Int)) = ((256 * x + b.toNat : Nat) : Int) := by
  have hb := b.toNat_lt
  have e1 : IntKind.u64.wrap ((x : Int) * 256) = ((2 ^ 8 * x : Nat) : Int) := by rw [wrapU]; omega
  have e2 : IntKind.u64.wrap (b.toNat : Int) = (b.toNat : Int) := by rw [wrapU]; omega
  rw [e1, e2, bits_or_u64_nat _ _ (by omega) (by omega), ← Nat.two_pow_add_eq_or_of_lt (by omega)]

theorem num_lt7 (l : List UInt8) (h : l.length ≤ 7) : num l < 72057594037927936 := by
  have h1 := num_lt l
  have h2 : 256 ^ l.length ≤ 256 ^ 7 := Nat.pow_le_pow_right (by omega) h
  have h3 : 256 ^ 7 = 72057594037927936 := by decide
  omega

theorem wrapU32 (n : Int) : IntKind.u32.wrap n = n % 4294967296 := by
  simp [IntKind.wrap, IntKind.signed, IntKind.bits]

end Go.Proofs.YtboafgimjadboaaGreatDoor.Wi

namespace Go.Proofs.YtboafgimjadboaaGreatDoor.Wi
open Go.RowKit
attribute [local simp] be_length

set_option maxHeartbeats 400000 in
theorem number_nil (ad : Option Addr) (cap : Nat) (w : World) :
    Calls Tryz.prog 119 #[.slice ad 0 cap] w fun e w' => e = .returned (.int .u64 0) ∧ w = w' := by
  go_enter Tryz.func119, Tryz.ntmps119
  go_wp2
  refine wp_loop_rounds 1 ?_
  rw [rounds_succ]
  go_wp2
  go_ret
  exact ⟨rfl, rfl⟩

set_option maxHeartbeats 400000 in
theorem number_some (b off cap : Nat) (l : List UInt8) (w : World) (hc : ∀ k (hk : k < l.length), w.cell? ⟨b, off + k, none⟩ = some (.int .u8 (l[k].toNat : Int))) (h8 : l.length ≤ 8) :
    Calls Tryz.prog 119 #[.slice (some ⟨b, off, none⟩) l.length cap] w fun e w' => e = .returned (.int .u64 (num l)) ∧ w = w' := by
  go_enter Tryz.func119, Tryz.ntmps119
  go_wp2
  go_loop [3, 8] (fun v i => ∃ k : Nat, k ≤ l.length ∧ i = .int .i64 k ∧ v = .int .u64 (num (l.take k))) (fun _ i => l.length - (intOf i).toNat)
  case atStart => exact ⟨0, Nat.zero_le _, rfl, rfl⟩
  case round =>
    obtain ⟨k, hk, rfl, rfl⟩ := hrel
    by_cases hlt : k < l.length
    · have hck := hc k hlt
      have e1 : Hid (num (l.take (k + 1)) = 256 * num (l.take k) + l[k].toNat) := by
        show _ = _
        rw [List.take_succ_eq_append_getElem hlt, num_snoc]
      have e2 := or_byte (num (l.take k)) l[k] (num_lt7 _ (by simp; omega))
      have E2 : Hid _ := e2
      clear e2
      go_wp2
      go_round
      case rel => exact ⟨k + 1, by omega, by go_num, by rw [E2.out, e1.out]⟩
      case measure => simp [intOf]; omega
    · go_wp2
      go_ret
      exact ⟨by rw [List.take_of_length_le (by omega)]; rfl, rfl⟩

theorem number_any (ad : Option Addr) (cap n : Nat) (l : List UInt8) (w : World) (hn : n = l.length) (hb : Bytes w ad cap l) (h8 : l.length ≤ 8) :
    Calls Tryz.prog 119 #[.slice ad n cap] w fun e w' => e = .returned (.int .u64 (num l)) ∧ w = w' := by
  subst hn
  by_cases h0 : l = []
  · subst h0
    exact number_nil ad cap w
  · obtain ⟨b, off, rfl, hc⟩ := hb.opened (List.length_pos_iff.2 h0)
    exact number_some b off cap l w hc h8

end Go.Proofs.YtboafgimjadboaaGreatDoor.Wi

namespace Go.Proofs.YtboafgimjadboaaGreatDoor.Wi
open Go.RowKit
attribute [local simp] be_length
attribute [local go_sem ↓] Go.wp_at_zero Go.wp_at_succ

set_option maxHeartbeats 400000 in
theorem take_end (ad : Option Addr) (len cap : Nat) (n : Int) (w : World) (h1 : 1 ≤ n) (h8 : n ≤ 8) (hl : (len : Int) < n) :
    Calls Tryz.prog 95 #[.slice ad len cap, .int .i64 n] w fun e w' => e = .returned (.tuple #[.int .u64 0, .slice none 0 0, .iface 67 (.int .i64 4)]) ∧ w = w' := by
  go_enter Tryz.func95, Tryz.ntmps95
  go_wp2_with (go_at_call 93; refine (isWidth_yes n _ h1 h8).mono ?_; rintro e w' ⟨rfl, rfl⟩)
  go_ret3
  exact ⟨rfl, rfl⟩

theorem drop_lies {w : World} {ad : Option Addr} {cap : Nat} {l : List UInt8} (h : Bytes w ad cap l) (n : Nat) (hc : ¬ cap = n) : Bytes w (ad.map (·.add n)) (cap - n) (l.drop n) := by
  have := h.drop n
  rwa [if_neg hc] at this

theorem drop_all {w : World} {ad : Option Addr} {cap : Nat} {l : List UInt8} (h : Bytes w ad cap l) : Bytes w ad 0 (l.drop cap) := by
  have := h.drop cap
  simpa using this

set_option maxHeartbeats 400000 in
theorem take_ok (ad : Option Addr) (cap : Nat) (l : List UInt8) (N : Nat) (w : World) (hb : Bytes w ad cap l) (h1 : 1 ≤ N) (h8 : N ≤ 8) (hl : N ≤ l.length) :
    Calls Tryz.prog 95 #[.slice ad l.length cap, .int .i64 N] w fun e w' => ∃ g, e = .returned (.tuple #[.int .u64 (num (l.take N)), .slice (some ⟨g, 0, none⟩) (l.length - N) (l.length - N), .nilIface]) ∧ Bytes w' (some ⟨g, 0, none⟩) (l.length - N) (l.drop N) ∧ Below w.heap.size w w' := by
  have hle := hb.le
  have c1 : (0 : Int) ≤ (N : Int) := by omega
  have c2 : (N : Int) ≤ (l.length : Int) := by omega
  have c3 : (N : Int) ≤ (cap : Int) := by omega
  by_cases hcN : cap = N
  · subst hcN
    go_enter Tryz.func95, Tryz.ntmps95
    go_wp2_with (go_at_call 93; refine (isWidth_yes _ _ (by omega) (by omega)).mono ?_; rintro e w' ⟨rfl, rfl⟩)
    go_region_held3 (fun w' => Below w.heap.size w w') (first | exact (Below.refl _ _).drew | exact Below.refl _ _ | assumption | (exact Below.trans (by assumption) (Below.mono (by assumption) (Below.size (by assumption)))))
      (first
      | (go_at_call 119; refine (number_any _ _ _ (l.take cap) _ ?_ ?_ ?_).mono ?_; (simp; omega); exact (hb.below (by assumption)).take cap; (simp; omega); rintro e w1 ⟨rfl, rfl⟩)
      | (go_at_call 94; refine (copied_at _ _ _ (l.drop cap) _ ?_ ?_).mono ?_; (simp; omega); exact drop_all (hb.below (by assumption)); rintro e w2 ⟨g, rfl, hp, hbp⟩))
    go_wp2_with fail
    go_ret3
    have e0 : 0 = l.length - cap := by omega
    rw [← e0]
    exact ⟨g, rfl, hp, by assumption⟩
  · go_enter Tryz.func95, Tryz.ntmps95
    go_wp2_with (go_at_call 93; refine (isWidth_yes _ _ (by omega) (by omega)).mono ?_; rintro e w' ⟨rfl, rfl⟩)
    go_region_held3 (fun w' => Below w.heap.size w w') (first | exact (Below.refl _ _).drew | exact Below.refl _ _ | assumption | (exact Below.trans (by assumption) (Below.mono (by assumption) (Below.size (by assumption)))))
      (first
      | (go_at_call 119; refine (number_any _ _ _ (l.take N) _ ?_ ?_ ?_).mono ?_; (simp; omega); exact (hb.below (by assumption)).take N; (simp; omega); rintro e w1 ⟨rfl, rfl⟩)
      | (go_at_call 94; refine (copied_at _ _ _ (l.drop N) _ ?_ ?_).mono ?_; simp; exact drop_lies (hb.below (by assumption)) N hcN; rintro e w2 ⟨g, rfl, hp, hbp⟩))
    go_wp2_with fail
    go_ret3
    exact ⟨g, rfl, hp, by assumption⟩

/-- The same, whatever the arguments are spelt like. -/
theorem take_at (ad : Option Addr) (cap len : Nat) (l : List UInt8) (n : Int) (N : Nat) (w : World) (hlen : len = l.length) (hn : n = N) (hb : Bytes w ad cap l) (h1 : 1 ≤ N) (h8 : N ≤ 8) (hl : N ≤ l.length) :
    Calls Tryz.prog 95 #[.slice ad len cap, .int .i64 n] w fun e w' => ∃ g, e = .returned (.tuple #[.int .u64 (num (l.take N)), .slice (some ⟨g, 0, none⟩) (l.length - N) (l.length - N), .nilIface]) ∧ Bytes w' (some ⟨g, 0, none⟩) (l.length - N) (l.drop N) ∧ Below w.heap.size w w' := by
  subst hlen hn
  exact take_ok ad cap l N w hb h1 h8 hl

end Go.Proofs.YtboafgimjadboaaGreatDoor.Wi

namespace Go.Proofs.YtboafgimjadboaaGreatDoor.Wi
open Go.RowKit

theorem wpList_append_bytes {P : Program} (w : World) {ops : Array Oper} {rest : List Oper} {o : Oper} {a : Act} {Q : Exit → Act → World → Prop} (hgd : o.guard = none) (s x : Operand) (t : TypeId)
    (ho : o.op = .call { callee := .builtin .append, args := #[s, x], argTypes := #[t, t] })
    (base : Nat) (e : TypeId) (i : TypeInfo) (ht : P.underlying t = some (.slice e)) (hi : P.info? e = some i) (hz : i.zero = some (.int .u8 0)) (hsize : i.size = 1) (hby : i.bytes = 1)
    (v : Value) (l : List UInt8) (n : Nat) (hs : a.eval s = v) (hown : w.ownsRow base e 1 v n (l.map bc))
    (ao : Option Addr) (k c : Nat) (m : List UInt8) (hx : a.eval x = .slice ao k c) (hk : k = m.length) (hb : Bytes w ao c m)
    (hlen : n + k ≤ 140737488355328) (hbase : base ≤ w.heap.size)
    (h : ∀ v' w', w'.ownsRow base e 1 v' (n + k) ((l ++ m).map bc) → w.grownBy w' v.ownBlock → wpList P ops Q rest (a.put o.dst v') w') : wpList P ops Q (o :: rest) a w := by
  cases ao with
  | none =>
    have h1 := hb.nil rfl
    have h2 := hb.le
    have h3 : m = [] := List.eq_nil_of_length_eq_zero (by omega)
    subst h1 h3 hk
    exact wpList_append_own_none hgd s x t ho base e i 1 ht hi v n (l.map bc) hs hown hx (h v w (by simpa using hown) (World.grownBy.refl w _))
  | some ad =>
    refine wpList_append_own w hgd s x t ho base e i (.int .u8 0) 1 1 ht hi hz hsize hby rfl (by decide) v n (l.map bc) hs hown ad k c (m.map bc) hx (by simp [hk]) (hb.cell ad rfl) (bc_oneCell m) (by unfold maxLen; omega) (by omega) hbase ?_
    intro v' w' r1 r2 _
    exact h v' w' (by simpa using r1) r2

end Go.Proofs.YtboafgimjadboaaGreatDoor.Wi
