/- The document's word, walked. The document's way through a model's bytes: plain mathematics. -/
import Derived.Test.YtboafgimjadboaaGreatDoorBep
import Derived.Test.YtboafgimjadboaaGreatDoorBrd
import Derived.Test.YtboafgimjadboaaGreatDoorWiRTake
namespace Go.Proofs.YtboafgimjadboaaGreatDoor
open Go.RowKit
set_option linter.unusedVariables false

set_option maxRecDepth 100000 in
set_option maxHeartbeats 2000000 in
/-- The n bytes from k on, as a number; none where they are not there. -/
theorem rword_ok {w : World} {ad : Option Addr} {len cap : Nat} {b : List UInt8} (hb : Wi.Bytes w ad cap b) (hlen : len = b.length) (hbl : b.length ≤ 1500) {kk nn : Int} (k n : Nat) (hk1 : kk = (k : Int)) (hn1 : nn = (n : Int)) (h1 : 1 ≤ n) (h8 : n ≤ 8) (hk : k ≤ 100000) :
    Calls Tryz.prog 45 #[.slice ad len cap, .int .i64 kk, .int .i64 nn] w fun e w' => Below w.heap.size w w' ∧ ((k + n ≤ len ∧ e = .returned (.tuple #[.int .u64 (Wi.num ((b.drop k).take n) : Int), .bool true])) ∨ (len < k + n ∧ e = .returned (.tuple #[.int .u64 0, .bool false]))) := by
  subst hk1 hn1
  have hw := IntWalk.wrap64_in ((k : Int) + (n : Int)) ⟨by omega, by omega⟩
  by_cases h : k + n ≤ len
  · obtain ⟨bb, off, rfl, hc⟩ := hb.opened (by omega)
    have hle := hb.le
    have t1 : decide ((len : Int) < (k : Int) + (n : Int)) = false := decide_eq_false (by omega)
    have t2 : decide ((k : Int) + (n : Int) > (len : Int)) = false := decide_eq_false (by omega)
    have c1 : (0 : Int) ≤ (k : Int) := by omega
    have c2 : (k : Int) ≤ (len : Int) := by omega
    have c3 : (k : Int) ≤ (cap : Int) := by omega
    have c4 : (len : Int) ≤ (cap : Int) := by omega
    have c5 : ¬ (cap = k) := by omega
    have hb2 : Wi.Bytes w (some ⟨bb, off + k, none⟩) (cap - k) (b.drop k) := by
      refine ⟨by rw [List.length_drop]; omega, by rw [List.length_drop]; omega, fun e => (by cases e), fun a e j u hj => ?_⟩
      obtain rfl := Option.some.inj e
      rw [List.map_drop, List.getElem?_drop] at hj
      have := hb.cell ⟨bb, off, none⟩ rfl (k + j) u hj
      rw [show (⟨bb, off, none⟩ : Addr).add (k + j) = (⟨bb, off + k, none⟩ : Addr).add j by simp only [Addr.add]; split <;> split <;> simp_all] at this
      exact this
    have htk := hid (fun (y : World) (hy : Wi.Bytes y (some ⟨bb, off + k, none⟩) (cap - k) (b.drop k)) => Wi.rtake_ok (some ⟨bb, off + k, none⟩) (cap - k) (len - k) (b.drop k) n y (by rw [List.length_drop, hlen]) hy h1 h8 (by rw [List.length_drop]; omega))
    replace hb2 := hid hb2
    replace hle := hid hle
    replace hlen := hid hlen
    clear hb hc
    go_enter Tryz.func45, Tryz.ntmps45
    go_wp2_with fail
    refine (htk.out _ hb2.out).mono ?_
    rintro e w2 ⟨a', c', rfl, _, b2⟩
    replace b2 := hid b2
    go_wp2_with fail
    go_ret2
    exact ⟨b2.out, .inl ⟨h, rfl⟩⟩
  · have t1 : decide ((len : Int) < (k : Int) + (n : Int)) = true := decide_eq_true (by omega)
    have t2 : decide ((k : Int) + (n : Int) > (len : Int)) = true := decide_eq_true (by omega)
    clear hb
    go_enter Tryz.func45, Tryz.ntmps45
    go_wp2_with fail
    go_ret2
    exact ⟨Below.refl _ _, .inr ⟨by omega, rfl⟩⟩

end Go.Proofs.YtboafgimjadboaaGreatDoor

namespace Go.Proofs.YtboafgimjadboaaGreatDoor
set_option linter.unusedVariables false

/-- It stands at a place of the bytes. -/
def Cu (b : List UInt8) (at' : Nat) (l : List UInt8) : Prop := at' ≤ b.length ∧ b.drop at' = l
theorem Cu.len {b l : List UInt8} {k : Nat} (h : Cu b k l) : l.length + k = b.length := by
  obtain ⟨h1, rfl⟩ := h
  rw [List.length_drop]; omega
theorem Cu.next {b l : List UInt8} {k : Nat} (h : Cu b k l) (N : Nat) (hN : k + N ≤ b.length) : Cu b (k + N) (tkl N l) := by
  have hl := h.len
  refine ⟨hN, ?_⟩
  unfold tkl
  rw [if_pos (by omega), ← h.2, List.drop_drop]
theorem Cu.val {b l : List UInt8} {k : Nat} (h : Cu b k l) (N : Nat) (hN : k + N ≤ b.length) : Wi.num ((b.drop k).take N) = tkv N l := by
  have hl := h.len
  unfold tkv
  rw [if_pos (by omega), h.2]
theorem Cu.z {b l : List UInt8} {k : Nat} (h : Cu b k l) (N : Nat) (hN : k + N ≤ b.length) (z : Bool) : tkw N l z = z := by
  have hl := h.len
  unfold tkw
  rw [if_pos (by omega)]
theorem Cu.place {b l : List UInt8} {k : Nat} (h : Cu b k l) (hN : k + 5 ≤ b.length) : Cu b (k + 5) (pll l) ∧ ∀ z, plw l z = z := by
  have h1 := h.next 4 (by omega)
  have h2 := h1.next 1 (by omega)
  exact ⟨h2, fun z => by unfold plw; rw [h1.z 1 (by omega), h.z 4 (by omega)]⟩

theorem plZ_mono {l : List UInt8} {z : Bool} : ∀ k, plZ k l z = false → z = false
  | 0, h => h
  | k + 1, h => plZ_mono k (pl_mono h).1
theorem eqZ_mono {l : List UInt8} {z : Bool} {j : Nat} : ∀ k, j ≤ k → eqZ k l z = false → eqZ j l z = false
  | 0, hj, h => by obtain rfl : j = 0 := by omega
                   exact h
  | k + 1, hj, h => by
    by_cases e : j = k + 1
    · subst e; exact h
    · exact eqZ_mono k (by omega) (eq_mono h).1
theorem tkz_len {l : List UInt8} {z : Bool} : ∀ n, tkz n l z = false → ∀ k, k < n → 4 ≤ (tkn k l).length
  | 0, _, k, hk => by omega
  | n + 1, h, k, hk => by
    obtain ⟨h1, h2⟩ := tk_mono h
    by_cases e : k = n
    · subst e; exact h2
    · exact tkz_len n h1 k (by omega)
theorem pl_len {l : List UInt8} {z : Bool} (h : plw l z = false) : 5 ≤ l.length := by
  obtain ⟨h1, h2⟩ := tk_mono h
  obtain ⟨_, h4⟩ := tk_mono h1
  unfold tkl at h2
  rw [if_pos h4, List.length_drop] at h2
  omega
theorem eq_len {l : List UInt8} {z : Bool} (h : eqZ1 l z = false) : 5 ≤ l.length ∧ ((plv l).2 = 1 → ∀ k, k < 5 → 4 ≤ (tkn k (pll l)).length) := by
  unfold eqZ1 at h
  split at h
  · have h5 := tkz_len 5 h
    obtain ⟨h4, _⟩ := eg_mono h
    exact ⟨pl_len h4, fun _ => h5⟩
  · next q => exact ⟨pl_len h, fun e => absurd e q⟩

/-- What holds of a model's bytes. -/
structure Hd (b : List UInt8) : Prop where
  h8 : 8 ≤ b.length
  v : dV b = tkv 4 (tkl 4 b)
  v5 : 5 * dV b ≤ (tkl 4 (tkl 4 b)).length
  e4 : 4 ≤ (dl3 b).length
  e : dE b = tkv 4 (dl3 b)
  e5 : 5 * dE b ≤ (tkl 4 (dl3 b)).length
  z : eqZ (dE b) (tkl 4 (dl3 b)) false = false
  l : dl5 b = []
  may : May (dM b)

theorem Hd.of {b : List UInt8} {m : Mo} (h : Is b m) : Hd b := by
  obtain ⟨hz, hl, hm⟩ := (dec_is b).1 ⟨m, h⟩
  obtain ⟨z4, _⟩ := eqs_sound _ hz
  obtain ⟨t4, v4, _⟩ := mn_mono z4
  obtain ⟨z3, g4⟩ := tk_mono t4
  have z2 := plZ_mono _ z3
  obtain ⟨t2, v2, _⟩ := mn_mono z2
  obtain ⟨z1, g2⟩ := tk_mono t2
  obtain ⟨_, g1⟩ := tk_mono z1
  refine ⟨?_, v2, mnv_le _, g4, v4, mnv_le _, ?_, hl, hm⟩
  · unfold tkl at g2
    rw [if_pos g1, List.length_drop] at g2
    omega
  · have h1 : mnw (dl3 b) (dz3 b) = false := z4
    have h2 : eqZ (dE b) (tkl 4 (dl3 b)) (mnw (dl3 b) (dz3 b)) = false := hz
    rwa [h1] at h2

/-- The numbers that the document takes are those. -/
theorem mn_small {l : List UInt8} (h : 5 * tkv 4 l ≤ (tkl 4 l).length) (hl : (tkl 4 l).length ≤ 1500) : mnv l = tkv 4 l ∧ ∀ z, mnw l z = tkw 4 l z := by
  have hB : mnB l = true := by unfold mnB; exact decide_eq_true ⟨by omega, h⟩
  unfold mnv mnw
  rw [if_pos hB]
  exact ⟨rfl, fun z => by rw [if_pos hB]⟩

/-- All was read: it is a model's just where it may be, and nothing is left. -/
theorem dec_all {b : List UInt8} {at2 at5 : Nat} {l2 l3 l4 : List UInt8} (hb : b.length ≤ 1500) (h8 : 8 ≤ b.length) (e2 : tkl 4 (tkl 4 b) = l2) {V E : Nat} (eV : tkv 4 (tkl 4 b) = V) (e3 : plN V l2 = l3) (c3 : Cu b (8 + 5 * V) l3) (z3 : plZ V l2 false = false) (h4 : 8 + 5 * V + 4 ≤ b.length) (eE : tkv 4 l3 = E) (e4 : tkl 4 l3 = l4) (h5 : 12 + 5 * V + 5 * E ≤ at5) (c5 : Cu b at5 (eqN E l4)) (z5 : eqZ E l4 false = false) :
    dM b = ⟨(tkv 4 b : Int), pls V l2, (eqs E l4).map (·.1), (eqs E l4).map (·.2)⟩ ∧ ((∃ m, Is b m) ↔ at5 = b.length ∧ May (dM b)) ∧ (at5 = b.length → May (dM b) → Is b (dM b)) := by
  have c0 : Cu b 0 b := ⟨by omega, rfl⟩
  have c1 := c0.next 4 (by omega)
  have c2 := c1.next 4 (by omega)
  rw [e2] at c2
  have q2 := c2.len
  obtain ⟨v1, v2⟩ := mn_small (l := tkl 4 b) (by rw [eV, e2]; have := c5.1; omega) (by rw [e2]; omega)
  have dv : dV b = V := by unfold dV; rw [v1, eV]
  have d3 : dl3 b = l3 := by unfold dl3; rw [dv, e2, e3]
  have c4 := c3.next 4 h4
  rw [e4] at c4
  have q4 := c4.len
  obtain ⟨w1, w2⟩ := mn_small (l := l3) (by rw [eE, e4]; have := c5.1; omega) (by rw [e4]; omega)
  have de : dE b = E := by unfold dE; rw [d3, w1, eE]
  have hz : dz5 b = false := by
    unfold dz5
    rw [d3, de, e4, w2, c3.z 4 h4]
    unfold dz3 dz2
    rw [dv, e2, v2, c1.z 4 (by omega), c0.z 4 (by omega), z3]
    exact z5
  have hl : dl5 b = eqN E l4 := by unfold dl5; rw [d3, de, e4]
  have q5 := c5.len
  have hl0 : dl5 b = [] ↔ at5 = b.length := by
    rw [hl]
    constructor
    · intro q; rw [q] at q5; simpa using q5
    · intro q; exact List.eq_nil_of_length_eq_zero (by omega)
  refine ⟨by unfold dM; rw [dv, e2, d3, de, e4], ?_, fun h1 h2 => ?_⟩
  · rw [dec_is, hl0]
    exact ⟨fun h => h.2, fun h => ⟨hz, h⟩⟩
  · obtain ⟨a1, a2⟩ := dec_sound hz (hl0.2 h1)
    exact ⟨a2, h2, a1⟩

/-- Five numbers of an edge, so many of them taken. -/
def ar5 (k : Nat) (l : List UInt8) : Array Value := #[.int .u32 (if 0 < k then (tka 0 l : Int) else 0), .int .u32 (if 1 < k then (tka 1 l : Int) else 0), .int .u32 (if 2 < k then (tka 2 l : Int) else 0), .int .u32 (if 3 < k then (tka 3 l : Int) else 0), .int .u32 (if 4 < k then (tka 4 l : Int) else 0)]
theorem ar5_set (k : Nat) (hk : k < 5) (l : List UInt8) : (ar5 k l).setIfInBounds k (.int .u32 (tka k l : Int)) = ar5 (k + 1) l := by
  rcases (by omega : k = 0 ∨ k = 1 ∨ k = 2 ∨ k = 3 ∨ k = 4) with rfl | rfl | rfl | rfl | rfl <;> rfl
theorem ar5_lt (k : Nat) (hk : k < 5) (n : Nat) (l : List UInt8) : ∃ u, (ar5 n l)[k]? = some u := ⟨_, Array.getElem?_eq_getElem (by show k < 5; exact hk)⟩

end Go.Proofs.YtboafgimjadboaaGreatDoor
