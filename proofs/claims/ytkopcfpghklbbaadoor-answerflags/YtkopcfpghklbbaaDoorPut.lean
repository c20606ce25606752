/- What 'wire.Put' answers. -/
import Derived.Test.YtkopcfpghklbbaaDoorCopied
namespace Go.Proofs.YtkopcfpghklbbaaDoor
open Go.RowKit
attribute [local simp] be_length

set_option maxRecDepth 100000 in
set_option maxHeartbeats 800000 in
theorem put_no (ad : Option Addr) (cap : Nat) (l : List UInt8) (v n : Int) (w : World) (hb : Bytes w ad cap l) (hn : n < 1 ∨ 8 < n) :
    Calls Tryd.prog 58 #[.slice ad l.length cap, .int .u64 v, .int .i64 n] w fun e w' => ∃ g, e = .returned (.slice (some ⟨g, 0, none⟩) l.length l.length) ∧ Bytes w' (some ⟨g, 0, none⟩) l.length l ∧ Below w.heap.size w w' := by
  go_enter Tryd.func58, Tryd.ntmps58
  go_wp2_with (first
    | (go_at_call 72; refine (isWidth_no n _ hn).mono ?_; rintro e w' ⟨rfl, rfl⟩)
    | (go_at_call 73; refine (copied_any ad cap l _ hb).mono ?_; rintro e w' ⟨g, rfl, hb1, hbel⟩))
  go_ret
  exact ⟨g, rfl, hb1, hbel⟩

set_option maxRecDepth 100000 in
set_option maxHeartbeats 800000 in
theorem put_ok (ad : Option Addr) (cap : Nat) (l : List UInt8) (V N : Nat) (w : World) (hb : Bytes w ad cap l) (hl : l.length ≤ 140737488351232) (h1 : 1 ≤ N) (h8 : N ≤ 8) :
    Calls Tryd.prog 58 #[.slice ad l.length cap, .int .u64 V, .int .i64 N] w fun e w' => ∃ g, e = .returned (.slice (some ⟨g, 0, none⟩) (l.length + N) (l.length + N)) ∧ Bytes w' (some ⟨g, 0, none⟩) (l.length + N) (l ++ be N V) ∧ Below w.heap.size w w' := by
  have hle := hb.le
  obtain ⟨i0, hi, hz0, hz1, hz2⟩ := info_parts Tryd.info5
  go_enter Tryd.func58, Tryd.ntmps58
  go_wp2_with (first
    | (go_at_call 72; refine (isWidth_yes _ _ (by omega) (by omega)).mono ?_; rintro e w' ⟨rfl, rfl⟩)
    | (at_make; refine wpList_make_own _ rfl (.const (.int .i64 0)) (.tmp 17) 25 rfl w.heap.size 5 i0 (.int .u8 0) 1 Tryd.underlying25 hi hz0 hz1 .i64 .i64 _ (l.length + N) rfl rfl (by omega) (by rw [hz2]; omega) (by unfold maxLen; omega) (Nat.le_refl _) ?_; intro w1 hown hgrow; have hb1 := (Below.refl w.heap.size w).grown hgrow (Nat.le_refl _) (by simp); clear hgrow)
    | (at_builtin; refine wpList_append_fits_any _ rfl (.tmp 19) (.tmp 20) 25 rfl w.heap.size 5 i0 1 Tryd.underlying25 hi hz1 w.heap.size 0 (l.length + N) [] rfl hown ad l.length cap (l.map bc) rfl (by simp) (fun e => by have := hb.nil e; omega) (hb.below hb1).cell (bc_oneCell l) (by omega) ?_; intro w2 hown2 hgrow2; have hb2 := hb1.grown hgrow2 hb1.size (fun k hk => by cases hk; exact Nat.le_refl _); clear hgrow2 hown hb1))
  go_loopw [7, 8] (fun v i wr => ∃ k : Nat, k ≤ N ∧ i = .int .i64 ((N : Int) - 1 - k) ∧ v = .slice (some ⟨w.heap.size, 0, none⟩) (l.length + k) (l.length + N) ∧ wr.ownsRow w.heap.size 5 1 (.slice (some ⟨w.heap.size, 0, none⟩) (l.length + k) (l.length + N)) (l.length + k) ((l ++ (be N V).take k).map bc) ∧ Below w.heap.size w wr)
    (fun _ i _ => (intOf i + 1).toNat)
  case atStart => exact ⟨0, by omega, by go_num, rfl, by simpa using hown2, hb2⟩
  case round =>
    obtain ⟨k, hk, rfl, rfl, hownr, hbr⟩ := hrel
    clear hown2 hb2
    by_cases hlt : k < N
    · go_wp2_with (at_builtin; refine wpList_append_fits _ rfl (.tmp 28) (.tmp 34) 25 rfl w.heap.size 5 i0 1 Tryd.underlying25 hi hz1 w.heap.size (l.length + k) (l.length + N) _ rfl (hownr.alloc _) ⟨wr.heap.size, 0, none⟩ 1 1 [.int .u8 ((V : Int) / 2 ^ (8 * (N - 1 - k)) % 256)] rfl rfl (cell_one_new _ _ _) (by simp [Value.oneCell']) (by omega) ?_; intro w3 hown3 hgrow3)
      have hsz := hbr.size
      have e : (l ++ (be N V).take (k + 1)).map bc = (l ++ (be N V).take k).map bc ++ [.int .u8 ((V : Int) / 2 ^ (8 * (N - 1 - k)) % 256)] := by
        rw [be_take _ _ _ hlt, bc_shift]; simp
      have hb3 := (hbr.alloc hsz (.cells #[.int .u8 ((V : Int) / 2 ^ (8 * (N - 1 - k)) % 256)] 5)).grown hgrow3 (by simp; omega) (fun k hk => by cases hk; exact Nat.le_refl _)
      go_roundw
      case rel => exact ⟨k + 1, by omega, by go_num, rfl, by rw [e]; exact hown3, hb3⟩
      case measure => simp [intOf]; omega
    · go_wp2_with fail
      go_ret
      obtain rfl : k = N := by omega
      rw [List.take_of_length_le (by simp)] at hownr
      exact ⟨w.heap.size, rfl, Bytes.ofRow hownr (by omega), hbr⟩

/-- The same, whatever the arguments are spelt like. -/
theorem put_at (ad : Option Addr) (cap : Nat) (l : List UInt8) (v n : Int) (V N : Nat) (w : World) (hv : v = V) (hn : n = N) (hb : Bytes w ad cap l) (hl : l.length ≤ 140737488351232) (h1 : 1 ≤ N) (h8 : N ≤ 8) :
    Calls Tryd.prog 58 #[.slice ad l.length cap, .int .u64 v, .int .i64 n] w fun e w' => ∃ g, e = .returned (.slice (some ⟨g, 0, none⟩) (l.length + N) (l.length + N)) ∧ Bytes w' (some ⟨g, 0, none⟩) (l.length + N) (l ++ be N V) ∧ Below w.heap.size w w' := by
  subst hv hn
  exact put_ok ad cap l V N w hb hl h1 h8

/-- Onto nothing. -/
theorem put_nil (v n : Int) (V N : Nat) (w : World) (hv : v = V) (hn : n = N) (h1 : 1 ≤ N) (h8 : N ≤ 8) :
    Calls Tryd.prog 58 #[.slice none 0 0, .int .u64 v, .int .i64 n] w fun e w' => ∃ g, e = .returned (.slice (some ⟨g, 0, none⟩) N N) ∧ Bytes w' (some ⟨g, 0, none⟩) N (be N V) ∧ Below w.heap.size w w' := by
  have := put_at none 0 [] v n V N w hv hn (Bytes.none w) (by simp) h1 h8
  simpa using this

end Go.Proofs.YtkopcfpghklbbaaDoor
