/- What 'wire.number' answers. -/
import Derived.Test.YtkopcfpghklbbaaDoorPut
import Derived.Test.YtkopcfpghklbbaaDoorSums
namespace Go.Proofs.YtkopcfpghklbbaaDoor
open Go.RowKit
attribute [local simp] be_length

set_option maxHeartbeats 400000 in
theorem number_nil (ad : Option Addr) (cap : Nat) (w : World) :
    Calls Tryd.prog 84 #[.slice ad 0 cap] w fun e w' => e = .returned (.int .u64 0) ∧ w = w' := by
  go_enter Tryd.func84, Tryd.ntmps84
  go_wp2
  refine wp_loop_rounds 1 ?_
  rw [rounds_succ]
  go_wp2
  go_ret
  exact ⟨rfl, rfl⟩

set_option maxHeartbeats 400000 in
theorem number_some (b off cap : Nat) (l : List UInt8) (w : World) (hc : ∀ k (hk : k < l.length), w.cell? ⟨b, off + k, none⟩ = some (.int .u8 (l[k].toNat : Int))) (h8 : l.length ≤ 8) :
    Calls Tryd.prog 84 #[.slice (some ⟨b, off, none⟩) l.length cap] w fun e w' => e = .returned (.int .u64 (num l)) ∧ w = w' := by
  go_enter Tryd.func84, Tryd.ntmps84
  go_wp2
  go_loop [3, 8] (fun v i => ∃ k : Nat, k ≤ l.length ∧ i = .int .i64 k ∧ v = .int .u64 (num (l.take k))) (fun _ i => l.length - (intOf i).toNat)
  case atStart => exact ⟨0, Nat.zero_le _, rfl, rfl⟩
  case round =>
    obtain ⟨k, hk, rfl, rfl⟩ := hrel
    by_cases hlt : k < l.length
    · have hck := hc k hlt
      have e1 : Hid (num (l.take (k + 1)) = 256 * num (l.take k) + l[k].toNat) := by
        show _ = _
        rw [List.take_succ_eq_append_getElem hlt, num_snoc]
      have e2 := or_byte (num (l.take k)) l[k] (num_lt7 _ (by simp; omega))
      have E2 : Hid _ := e2
      clear e2
      go_wp2
      go_round
      case rel => exact ⟨k + 1, by omega, by go_num, by rw [E2.out, e1.out]⟩
      case measure => simp [intOf]; omega
    · go_wp2
      go_ret
      exact ⟨by rw [List.take_of_length_le (by omega)]; rfl, rfl⟩

theorem number_any (ad : Option Addr) (cap n : Nat) (l : List UInt8) (w : World) (hn : n = l.length) (hb : Bytes w ad cap l) (h8 : l.length ≤ 8) :
    Calls Tryd.prog 84 #[.slice ad n cap] w fun e w' => e = .returned (.int .u64 (num l)) ∧ w = w' := by
  subst hn
  by_cases h0 : l = []
  · subst h0
    exact number_nil ad cap w
  · obtain ⟨b, off, rfl, hc⟩ := hb.opened (List.length_pos_iff.2 h0)
    exact number_some b off cap l w hc h8

theorem number_is (ad : Option Addr) (cap n : Nat) (l : List UInt8) (S : Nat) (w : World) (hn : n = l.length) (hb : Bytes w ad cap l) (h8 : l.length ≤ 8) (hS : Hid (num l = S)) :
    Calls Tryd.prog 84 #[.slice ad n cap] w fun e w' => e = .returned (.int .u64 S) ∧ w = w' := by
  have := number_any ad cap n l w hn hb h8
  rwa [hS.out] at this

end Go.Proofs.YtkopcfpghklbbaaDoor
