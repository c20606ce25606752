/- What the document's answers 'plaitref01.Take' and 'plaitref01.Signed' give. -/
import Derived.Test.YtboafgimjadboaaGreatDoorWiBtake
import Derived.Deep.QuietTactic
import Derived.BigQuiet
namespace Go.Proofs.YtboafgimjadboaaGreatDoor.Wi
open Go.RowKit
set_option linter.unusedVariables false
attribute [local simp] be_length

theorem rstep_of (x : Nat) (b : UInt8) (hx : x < 72057594037927936) : IntKind.u64.wrap (IntKind.u64.wrap (256 * (x : Int)) + IntKind.u64.wrap (b.toNat : Int)) = ((256 * x + b.toNat : Nat) : Int) := by
  have hb := b.toNat_lt
  rw [wrapU, wrapU, wrapU]
  omega

set_option maxHeartbeats 400000 in
theorem rtake_far (b off cap : Nat) (l : List UInt8) (N : Nat) (w : World) (hc : ∀ k (hk : k < l.length), w.cell? ⟨b, off + k, none⟩ = some (.int .u8 (l[k].toNat : Int))) (h1 : 1 ≤ N) (h8 : N ≤ 8) (hl : N ≤ l.length) (hle : l.length ≤ cap) (hcN : ¬ cap = N) :
    Calls Tryz.prog 73 #[.slice (some ⟨b, off, none⟩) l.length cap, .int .i64 N] w fun e w' => e = .returned (.tuple #[.int .u64 (num (l.take N)), .slice (some ⟨b, off + N, none⟩) (l.length - N) (cap - N), .int .i64 0]) ∧ ∃ n, w' = w.drewN n := by
  have d1 : decide ((N : Int) < 1) = false := by simp; omega
  have d8 : decide ((8 : Int) < (N : Int)) = false := by simp; omega
  have dl : decide ((l.length : Int) < (N : Int)) = false := by simp; omega
  have c1 : (0 : Int) ≤ (N : Int) := by omega
  have c2 : (N : Int) ≤ (l.length : Int) := by omega
  have c3 : (N : Int) ≤ (cap : Int) := by omega
  go_enter Tryz.func73, Tryz.ntmps73
  go_wp2_with fail
  go_loop [7, 8] (fun v i => ∃ k : Nat, k ≤ N ∧ i = .int .i64 k ∧ v = .int .u64 (num (l.take k))) (fun _ i => N - (intOf i).toNat)
  case atStart => exact ⟨0, Nat.zero_le _, rfl, rfl⟩
  case round =>
    obtain ⟨k, hk, rfl, rfl⟩ := hrel
    by_cases hlt : k < N
    · have hkl : k < l.length := by omega
      have hck := hc k hkl
      have hki : (k : Int) < (l.length : Int) := by omega
      have e1 : Hid (num (l.take (k + 1)) = 256 * num (l.take k) + l[k].toNat) := by
        show _ = _
        rw [List.take_succ_eq_append_getElem hkl, num_snoc]
      have E2 := hid (rstep_of (num (l.take k)) l[k] (num_lt7 _ (by simp; omega)))
      go_wp2
      go_round
      case rel => exact ⟨k + 1, by omega, by go_num, by rw [E2.out, e1.out]⟩
      case measure => simp [intOf]; omega
    · obtain rfl : k = N := by omega
      go_wp2_with fail
      go_quiet (fail)
      go_wp2_with fail
      go_ret3
      exact ⟨rfl, nq, rfl⟩
set_option maxHeartbeats 400000 in
theorem rtake_all (b off : Nat) (l : List UInt8) (N : Nat) (w : World) (hc : ∀ k (hk : k < l.length), w.cell? ⟨b, off + k, none⟩ = some (.int .u8 (l[k].toNat : Int))) (h1 : 1 ≤ N) (h8 : N ≤ 8) (hl : N ≤ l.length) :
    Calls Tryz.prog 73 #[.slice (some ⟨b, off, none⟩) l.length N, .int .i64 N] w fun e w' => e = .returned (.tuple #[.int .u64 (num (l.take N)), .slice (some ⟨b, off, none⟩) (l.length - N) 0, .int .i64 0]) ∧ ∃ n, w' = w.drewN n := by
  have d1 : decide ((N : Int) < 1) = false := by simp; omega
  have d8 : decide ((8 : Int) < (N : Int)) = false := by simp; omega
  have dl : decide ((l.length : Int) < (N : Int)) = false := by simp; omega
  have c1 : (0 : Int) ≤ (N : Int) := by omega
  have c2 : (N : Int) ≤ (l.length : Int) := by omega
  have c3 : (N : Int) ≤ (N : Int) := by omega
  go_enter Tryz.func73, Tryz.ntmps73
  go_wp2_with fail
  go_loop [7, 8] (fun v i => ∃ k : Nat, k ≤ N ∧ i = .int .i64 k ∧ v = .int .u64 (num (l.take k))) (fun _ i => N - (intOf i).toNat)
  case atStart => exact ⟨0, Nat.zero_le _, rfl, rfl⟩
  case round =>
    obtain ⟨k, hk, rfl, rfl⟩ := hrel
    by_cases hlt : k < N
    · have hkl : k < l.length := by omega
      have hck := hc k hkl
      have hki : (k : Int) < (l.length : Int) := by omega
      have e1 : Hid (num (l.take (k + 1)) = 256 * num (l.take k) + l[k].toNat) := by
        show _ = _
        rw [List.take_succ_eq_append_getElem hkl, num_snoc]
      have E2 := hid (rstep_of (num (l.take k)) l[k] (num_lt7 _ (by simp; omega)))
      go_wp2
      go_round
      case rel => exact ⟨k + 1, by omega, by go_num, by rw [E2.out, e1.out]⟩
      case measure => simp [intOf]; omega
    · obtain rfl : k = N := by omega
      go_wp2_with fail
      go_quiet (fail)
      go_wp2_with fail
      go_ret3
      exact ⟨rfl, nq, rfl⟩

theorem below_drew_of {w w' : World} (h : ∃ n, w' = w.drewN n) : Below w.heap.size w w' := by
  obtain ⟨n, rfl⟩ := h
  exact below_drewN (Below.refl _ _) n

theorem rtake_ok (ad : Option Addr) (cap len : Nat) (l : List UInt8) (N : Nat) (w : World) (hlen : len = l.length) (hb : Bytes w ad cap l) (h1 : 1 ≤ N) (h8 : N ≤ 8) (hl : N ≤ l.length) :
    Calls Tryz.prog 73 #[.slice ad len cap, .int .i64 N] w fun e w' => ∃ ad' cap', e = .returned (.tuple #[.int .u64 (num (l.take N)), .slice ad' (l.length - N) cap', .int .i64 0]) ∧ Bytes w' ad' cap' (l.drop N) ∧ Below w.heap.size w w' := by
  subst hlen
  obtain ⟨b, off, rfl, hc⟩ := hb.opened (by omega)
  have hle := hb.le
  by_cases hcN : cap = N
  · subst hcN
    refine (rtake_all b off l cap w hc h1 h8 hl).mono ?_
    rintro e w' ⟨rfl, hw⟩
    have hbel := below_drew_of hw
    exact ⟨_, _, rfl, drop_all (hb.below hbel), hbel⟩
  · refine (rtake_far b off cap l N w hc h1 h8 hl hle hcN).mono ?_
    rintro e w' ⟨rfl, hw⟩
    have hbel := below_drew_of hw
    have hp : (⟨b, off, none⟩ : Addr).add N = ⟨b, off + N, none⟩ := by unfold Addr.add; split <;> simp_all
    have hd := drop_lies (hb.below hbel) N hcN
    simp only [Option.map_some, hp] at hd
    exact ⟨_, _, rfl, hd, hbel⟩

theorem rsign_of (V : Nat) : ∃ M X : Int, (V : Int) % 4294967296 = M ∧ wrap32 (IntKind.u32.wrap (V : Int)) = X ∧ ((0 ≤ M ∧ M < 2147483648 ∧ Hid (M = X)) ∨ (2147483648 ≤ M ∧ M ≤ 4294967295 ∧ Hid (M - 4294967296 = X))) := by
  refine ⟨_, _, rfl, rfl, ?_⟩
  rw [wrapU32]
  unfold wrap32 Hid
  omega

set_option maxHeartbeats 400000 in
theorem rsigned_any (V : Nat) (w : World) :
    Calls Tryz.prog 46 #[.int .u64 V] w fun e w' => e = .returned (.int .i32 (wrap32 (IntKind.u32.wrap (V : Int)))) ∧ w = w' := by
  obtain ⟨M, X, hm, hx, h | h⟩ := rsign_of V
  · obtain ⟨h0, h1, h2⟩ := h
    rw [hx]
    clear hx
    go_enter Tryz.func46, Tryz.ntmps46
    go_wp2_with fail
    go_ret
    exact ⟨congrArg (fun z => Ending.returned (.int .i32 z)) h2.out, rfl⟩
  · obtain ⟨h0, h1, h2⟩ := h
    rw [hx]
    clear hx
    go_enter Tryz.func46, Tryz.ntmps46
    go_wp2_with fail
    go_ret
    exact ⟨congrArg (fun z => Ending.returned (.int .i32 z)) h2.out, rfl⟩

end Go.Proofs.YtboafgimjadboaaGreatDoor.Wi
