/- What 'wire.isWidth' and 'wire.copied' answer. -/
import Derived.Test.YtkopcfpghklbbaaDoorRows
import Derived.Test.YtkopcfpghklbbaaDoorBytes
namespace Go.Proofs.YtkopcfpghklbbaaDoor
open Go.RowKit
attribute [local simp] be_length

theorem isWidth_yes (n : Int) (w : World) (h1 : 1 ≤ n) (h8 : n ≤ 8) :
    Calls Tryd.prog 72 #[.int .i64 n] w fun e w' => e = .returned (.bool true) ∧ w = w' := by
  go_enter Tryd.func72, Tryd.ntmps72
  go_wp2
  go_ret
  exact ⟨rfl, rfl⟩

theorem isWidth_no (n : Int) (w : World) (h : n < 1 ∨ 8 < n) :
    Calls Tryd.prog 72 #[.int .i64 n] w fun e w' => e = .returned (.bool false) ∧ w = w' := by
  by_cases h1 : 1 ≤ n
  · have h8 : decide (n ≤ 8) = false := by simp; omega
    go_enter Tryd.func72, Tryd.ntmps72
    go_wp2
    go_ret
    exact ⟨rfl, rfl⟩
  · have h1' : decide (1 ≤ n) = false := by simpa using h1
    clear h
    go_enter Tryd.func72, Tryd.ntmps72
    go_wp2
    go_ret
    exact ⟨rfl, rfl⟩

theorem Tryd.info5 : (Tryd.prog.info? 5).map (fun i => (i.zero, i.size, i.bytes)) = some (some (.int .u8 0), 1, 1) := by kernel_rfl
theorem Tryd.size5 : (Tryd.prog.info? 5).map (·.size) = some 1 := by kernel_rfl

set_option maxHeartbeats 400000 in
theorem copied_any (ad : Option Addr) (cap : Nat) (l : List UInt8) (w : World) (hb : Bytes w ad cap l) :
    Calls Tryd.prog 73 #[.slice ad l.length cap] w fun e w' => ∃ g, e = .returned (.slice (some ⟨g, 0, none⟩) l.length l.length) ∧ Bytes w' (some ⟨g, 0, none⟩) l.length l ∧ Below w.heap.size w w' := by
  have hle := hb.le
  have hbd := hb.bound
  obtain ⟨i0, hi, hz0, hz1, hz2⟩ := info_parts Tryd.info5
  go_enter Tryd.func73, Tryd.ntmps73
  go_wp2_with (first
    | (at_make; refine wpList_make_full _ rfl (.tmp 5) (.tmp 5) 25 rfl w.heap.size 5 i0 (.int .u8 0) 1 Tryd.underlying25 hi hz0 hz1 .i64 .i64 _ _ l.length rfl rfl rfl rfl (by rw [hz2]; omega) (by unfold maxLen; omega) (Nat.le_refl _) ?_; intro w1 hown hgrow; have hb1 := (Below.refl w.heap.size w).grown hgrow (Nat.le_refl _) (by simp); obtain ⟨HB, HX⟩ := block_of_made hown; clear hown hgrow)
    | (refine wpList_copy_splice rfl (.tmp 7) (.tmp 8) 25 25 rfl 5 Tryd.underlying25 Tryd.size5 _ ad l.length l.length l.length cap rfl rfl w.heap.size 0 _ 5 HB.out (l.map bc) (by simp) (fun h0 => ⟨rfl, (hb.below hb1).src h0⟩) (by rw [HX.out]; simp) (bc_oneCell l) w.heap.size w hb1 (Nat.le_refl _) ?_; intro w2 HB2 hb2)
    | go_in)
  go_ret
  exact ⟨w.heap.size, rfl, Bytes.ofBlock HB2.out (by simp [splice]) (Nat.le_refl _) (by omega), hb2⟩

/-- The same, whatever the slice is spelt like. -/
theorem copied_at (ad : Option Addr) (cap n : Nat) (l : List UInt8) (w : World) (hn : n = l.length) (hb : Bytes w ad cap l) :
    Calls Tryd.prog 73 #[.slice ad n cap] w fun e w' => ∃ g, e = .returned (.slice (some ⟨g, 0, none⟩) n n) ∧ Bytes w' (some ⟨g, 0, none⟩) n l ∧ Below w.heap.size w w' := by
  subst hn
  exact copied_any ad cap l w hb

end Go.Proofs.YtkopcfpghklbbaaDoor
