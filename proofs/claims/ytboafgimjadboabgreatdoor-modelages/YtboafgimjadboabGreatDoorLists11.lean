/- The law's 'lists', walked. -/
import Derived.Test.YtboafgimjadboabGreatDoorBface
namespace Go.Proofs.YtboafgimjadboabGreatDoor
open Go.RowKit
set_option linter.unusedVariables false

set_option maxRecDepth 100000 in
set_option maxHeartbeats 1000000 in
theorem ints_ok (u v : Value) (zs : List Nat) (w : World) (hu : NL w u zs) (hv : NL w v zs) :
    Calls Tryz.prog 19 #[u, v] w fun e w' => e = .returned (.bool true) ∧ ∃ m, w' = w.drewN m := by
  obtain ⟨a, n, ca, rfl, hl, ⟨hn1, _, _⟩, hca, ha⟩ := hu
  obtain ⟨b, n', cb, rfl, hl2, ⟨hn2, _, _⟩, hcb, hb⟩ := hv
  obtain rfl : n' = n := by rw [← hl, ← hl2]
  replace ha := hid ha
  replace hb := hid hb
  replace hl := hid hl
  clear hl2
  unfold maxLen at hca
  go_enter Tryz.func19, Tryz.ntmps19
  go_wp2_with fail
  go_loopw [5] (fun u wr => ∃ j : Nat, j ≤ n' ∧ u = .int .i64 (j : Int) ∧ Hid (∃ m, wr = w.drewN m))
    (fun u _ => n' - (intOf u).toNat)
  case atStart => exact ⟨0, by omega, by go_num, ⟨0, rfl⟩⟩
  case round =>
    obtain ⟨j, hj, rfl, hw⟩ := hrel
    rcases Nat.lt_or_ge j n' with hlt | hge
    · obtain ⟨z, hz⟩ : ∃ z, zs[j]? = some z := ⟨_, List.getElem?_eq_getElem (by rw [hl.out]; exact hlt)⟩
      obtain ⟨b1, o1, rfl, c1⟩ := ha.out j z hz
      obtain ⟨b2, o2, rfl, c2⟩ := hb.out j z hz
      have c1' : wr.cell? ⟨b1, o1 + j, none⟩ = some (.int .i64 (z : Int)) := by
        obtain ⟨m, hm⟩ := hw.out
        rw [hm]; exact c1
      have c2' : wr.cell? ⟨b2, o2 + j, none⟩ = some (.int .i64 (z : Int)) := by
        obtain ⟨m, hm⟩ := hw.out
        rw [hm]; exact c2
      have hw2 : Hid (∃ m, wr.drew = w.drewN m) := by
        obtain ⟨m, hm⟩ := hw.out
        exact ⟨m + 1, by rw [hm]; rfl⟩
      clear hz c1 c2
      have i1 : (0 : Int) ≤ (j : Int) := by omega
      have i2 : (j : Int) < (n' : Int) := by omega
      go_wp2_with fail
      go_region_held3 (fun y => y.cell? ⟨b1, o1 + j, none⟩ = some (.int .i64 (z : Int)) ∧ y.cell? ⟨b2, o2 + j, none⟩ = some (.int .i64 (z : Int))) (go_keep) (fail)
      go_wp2_with fail
      go_roundw
      case rel => exact ⟨j + 1, by omega, by go_num, hw2⟩
      case measure => simp [intOf]; omega
    · obtain rfl : j = n' := by omega
      go_wp2_with fail
      go_ret
      exact ⟨rfl, hw.out⟩

set_option maxRecDepth 100000 in
set_option maxHeartbeats 2000000 in
theorem lists_ok (u v : Value) (ms : List (List Nat)) (w : World) (hu : RL w u ms) (hv : RL w v ms) :
    Calls Tryz.prog 9 #[u, v] w fun e w' => e = .returned (.bool true) ∧ ∃ m, w' = w.drewN m := by
  obtain ⟨a, ca, rfl, hca, ⟨hcb, _⟩, ha⟩ := hu
  obtain ⟨b, cb, rfl, hcc, ⟨hcd, _⟩, hb⟩ := hv
  generalize ms.length = n' at *
  generalize (fun i : Nat => (ms[i]?).getD []) = R at *
  unfold maxLen at hcb hcd
  replace ha := hid ha
  replace hb := hid hb
  go_enter Tryz.func9, Tryz.ntmps9
  go_wp2_with fail
  go_loopw [5] (fun u wr => ∃ j : Nat, j ≤ n' ∧ u = .int .i64 (j : Int) ∧ Hid (∃ m, wr = w.drewN m))
    (fun u _ => n' - (intOf u).toNat)
  case atStart => exact ⟨0, by omega, by go_num, ⟨0, rfl⟩⟩
  case round =>
    obtain ⟨j, hj, rfl, hw⟩ := hrel
    rcases Nat.lt_or_ge j n' with hlt | hge
    · obtain ⟨b1, o1, u1, rfl, c1, I1⟩ := ha.out j hlt
      obtain ⟨b2, o2, u2, rfl, c2, I2⟩ := hb.out j hlt
      have c1' : wr.cell? ⟨b1, o1 + j, none⟩ = some u1 := by
        obtain ⟨m, hm⟩ := hw.out
        rw [hm]; exact c1
      have c2' : wr.cell? ⟨b2, o2 + j, none⟩ = some u2 := by
        obtain ⟨m, hm⟩ := hw.out
        rw [hm]; exact c2
      have hbel : Below w.heap.size w wr := by
        obtain ⟨m, hm⟩ := hw.out
        rw [hm]; exact belowN (Below.refl _ _) m
      have hq : Hid (∀ m, Calls Tryz.prog 19 #[u1, u2] (wr.drewN m) fun e w' => e = .returned (.bool true) ∧ ∃ k, w' = (wr.drewN m).drewN k) := hid (fun m => ints_ok u1 u2 (R j) _ (I1.below (belowN hbel m)) (I2.below (belowN hbel m)))
      have hw2 : Hid (∀ k, ∃ m, wr.drewN k = w.drewN m) := by
        obtain ⟨m, hm⟩ := hw.out
        exact fun k => ⟨m + k, by rw [hm]; simp [World.drewN, Nat.add_assoc]⟩
      clear c1 c2 I1 I2 hbel
      have i1 : (0 : Int) ≤ (j : Int) := by omega
      have i2 : (j : Int) < (n' : Int) := by omega
      go_wp2_with fail
      go_quiet ((go_at_call 19; exact Calls.quiet_of (hq.out _)))
      go_wp2_with fail
      go_roundw
      case rel => exact ⟨j + 1, by omega, by go_num, hw2.out _⟩
      case measure => simp [intOf]; omega
    · obtain rfl : j = n' := by omega
      go_wp2_with fail
      go_ret
      exact ⟨rfl, hw.out⟩

end Go.Proofs.YtboafgimjadboabGreatDoor
