/- What 'wire.Take' answers. -/
import Derived.Test.YtkopcfpghklbbaaDoorNumber
import Derived.Deep.RegionHeld3
import Derived.Deep.DrawnRows
namespace Go.Proofs.YtkopcfpghklbbaaDoor
open Go.RowKit
attribute [local simp] be_length
attribute [local go_sem ↓] Go.wp_at_zero Go.wp_at_succ

set_option maxHeartbeats 400000 in
theorem take_arg (ad : Option Addr) (len cap : Nat) (n : Int) (w : World) (hn : n < 1 ∨ 8 < n) :
    Calls Tryd.prog 69 #[.slice ad len cap, .int .i64 n] w fun e w' => e = .returned (.tuple #[.int .u64 0, .slice none 0 0, .iface 93 (.int .i64 1)]) ∧ w = w' := by
  go_enter Tryd.func69, Tryd.ntmps69
  go_wp2_with (go_at_call 72; refine (isWidth_no n _ hn).mono ?_; rintro e w' ⟨rfl, rfl⟩)
  go_ret3
  exact ⟨rfl, rfl⟩

set_option maxHeartbeats 400000 in
theorem take_end (ad : Option Addr) (len cap : Nat) (n : Int) (w : World) (h1 : 1 ≤ n) (h8 : n ≤ 8) (hl : (len : Int) < n) :
    Calls Tryd.prog 69 #[.slice ad len cap, .int .i64 n] w fun e w' => e = .returned (.tuple #[.int .u64 0, .slice none 0 0, .iface 93 (.int .i64 4)]) ∧ w = w' := by
  go_enter Tryd.func69, Tryd.ntmps69
  go_wp2_with (go_at_call 72; refine (isWidth_yes n _ h1 h8).mono ?_; rintro e w' ⟨rfl, rfl⟩)
  go_ret3
  exact ⟨rfl, rfl⟩

theorem drop_lies {w : World} {ad : Option Addr} {cap : Nat} {l : List UInt8} (h : Bytes w ad cap l) (n : Nat) (hc : ¬ cap = n) : Bytes w (ad.map (·.add n)) (cap - n) (l.drop n) := by
  have := h.drop n
  rwa [if_neg hc] at this

theorem drop_all {w : World} {ad : Option Addr} {cap : Nat} {l : List UInt8} (h : Bytes w ad cap l) : Bytes w ad 0 (l.drop cap) := by
  have := h.drop cap
  simpa using this

set_option maxHeartbeats 400000 in
theorem take_ok (ad : Option Addr) (cap : Nat) (l : List UInt8) (N : Nat) (w : World) (hb : Bytes w ad cap l) (h1 : 1 ≤ N) (h8 : N ≤ 8) (hl : N ≤ l.length) :
    Calls Tryd.prog 69 #[.slice ad l.length cap, .int .i64 N] w fun e w' => ∃ g, e = .returned (.tuple #[.int .u64 (num (l.take N)), .slice (some ⟨g, 0, none⟩) (l.length - N) (l.length - N), .nilIface]) ∧ Bytes w' (some ⟨g, 0, none⟩) (l.length - N) (l.drop N) ∧ Below w.heap.size w w' := by
  have hle := hb.le
  have c1 : (0 : Int) ≤ (N : Int) := by omega
  have c2 : (N : Int) ≤ (l.length : Int) := by omega
  have c3 : (N : Int) ≤ (cap : Int) := by omega
  by_cases hcN : cap = N
  · subst hcN
    go_enter Tryd.func69, Tryd.ntmps69
    go_wp2_with (go_at_call 72; refine (isWidth_yes _ _ (by omega) (by omega)).mono ?_; rintro e w' ⟨rfl, rfl⟩)
    go_region_held3 (fun w' => Below w.heap.size w w') (first | exact (Below.refl _ _).drew | exact Below.refl _ _ | assumption | (exact Below.trans (by assumption) (Below.mono (by assumption) (Below.size (by assumption)))))
      (first
      | (go_at_call 84; refine (number_any _ _ _ (l.take cap) _ ?_ ?_ ?_).mono ?_; (simp; omega); exact (hb.below (by assumption)).take cap; (simp; omega); rintro e w1 ⟨rfl, rfl⟩)
      | (go_at_call 73; refine (copied_at _ _ _ (l.drop cap) _ ?_ ?_).mono ?_; (simp; omega); exact drop_all (hb.below (by assumption)); rintro e w2 ⟨g, rfl, hp, hbp⟩))
    go_wp2_with fail
    go_ret3
    have e0 : 0 = l.length - cap := by omega
    rw [← e0]
    exact ⟨g, rfl, hp, by assumption⟩
  · go_enter Tryd.func69, Tryd.ntmps69
    go_wp2_with (go_at_call 72; refine (isWidth_yes _ _ (by omega) (by omega)).mono ?_; rintro e w' ⟨rfl, rfl⟩)
    go_region_held3 (fun w' => Below w.heap.size w w') (first | exact (Below.refl _ _).drew | exact Below.refl _ _ | assumption | (exact Below.trans (by assumption) (Below.mono (by assumption) (Below.size (by assumption)))))
      (first
      | (go_at_call 84; refine (number_any _ _ _ (l.take N) _ ?_ ?_ ?_).mono ?_; (simp; omega); exact (hb.below (by assumption)).take N; (simp; omega); rintro e w1 ⟨rfl, rfl⟩)
      | (go_at_call 73; refine (copied_at _ _ _ (l.drop N) _ ?_ ?_).mono ?_; simp; exact drop_lies (hb.below (by assumption)) N hcN; rintro e w2 ⟨g, rfl, hp, hbp⟩))
    go_wp2_with fail
    go_ret3
    exact ⟨g, rfl, hp, by assumption⟩

/-- The same, whatever the arguments are spelt like. -/
theorem take_at (ad : Option Addr) (cap len : Nat) (l : List UInt8) (n : Int) (N : Nat) (w : World) (hlen : len = l.length) (hn : n = N) (hb : Bytes w ad cap l) (h1 : 1 ≤ N) (h8 : N ≤ 8) (hl : N ≤ l.length) :
    Calls Tryd.prog 69 #[.slice ad len cap, .int .i64 n] w fun e w' => ∃ g, e = .returned (.tuple #[.int .u64 (num (l.take N)), .slice (some ⟨g, 0, none⟩) (l.length - N) (l.length - N), .nilIface]) ∧ Bytes w' (some ⟨g, 0, none⟩) (l.length - N) (l.drop N) ∧ Below w.heap.size w w' := by
  subst hlen hn
  exact take_ok ad cap l N w hb h1 h8 hl

/-- What was put alone is taken. -/
theorem take_be (ad : Option Addr) (cap len : Nat) (n : Int) (N V : Nat) (w : World) (hlen : len = N) (hn : n = N) (hb : Bytes w ad cap (be N V)) (h1 : 1 ≤ N) (h8 : N ≤ 8) :
    Calls Tryd.prog 69 #[.slice ad len cap, .int .i64 n] w fun e w' => ∃ g, e = .returned (.tuple #[.int .u64 ((V % 256 ^ N : Nat) : Int), .slice (some ⟨g, 0, none⟩) 0 0, .nilIface]) ∧ Below w.heap.size w w' := by
  refine (take_at ad cap len (be N V) n N w (by simp [hlen]) hn hb h1 h8 (by simp)).mono ?_
  rintro e w' ⟨g, rfl, _, hbel⟩
  refine ⟨g, ?_, hbel⟩
  rw [List.take_of_length_le (by simp), num_be]
  simp

/-- One byte is taken off. -/
theorem take_cons (ad : Option Addr) (cap len tl : Nat) (b : UInt8) (t : List UInt8) (w : World) (htl : tl = t.length) (hlen : len = tl + 1) (hb : Bytes w ad cap (b :: t)) :
    Calls Tryd.prog 69 #[.slice ad len cap, .int .i64 1] w fun e w' => ∃ g, e = .returned (.tuple #[.int .u64 (b.toNat : Int), .slice (some ⟨g, 0, none⟩) tl tl, .nilIface]) ∧ Bytes w' (some ⟨g, 0, none⟩) tl t ∧ Below w.heap.size w w' := by
  subst htl
  have := take_at ad cap len (b :: t) 1 1 w (by simpa using hlen) rfl hb (by omega) (by omega) (by simp)
  simpa [num] using this

end Go.Proofs.YtkopcfpghklbbaaDoor
