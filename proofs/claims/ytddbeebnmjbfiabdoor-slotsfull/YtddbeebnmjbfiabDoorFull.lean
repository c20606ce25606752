/- 'SlotsFull', walked. -/
import Derived.Test.YtddbeebnmjbfiabDoorSure
namespace Go.Proofs.YtddbeebnmjbfiabDoor
open Go.RowKit

set_option maxRecDepth 100000 in
set_option maxHeartbeats 4000000 in
theorem full (n : Int) (w : World) (hE : Env w) : Calls Tryd.prog 3 #[.int .i64 n] w fun e w' => e = .returned (.bool true) ∧ Below w.heap.size w w' := by
  obtain ⟨K, hK, hK1, hK2⟩ := mod_up n 300 (by decide) (by decide)
  have hsz := hE.lt
  have hEh := hid hE
  go_enter Tryd.func3, Tryd.ntmps3
  go_wp2_with fail
  rw [hK]
  refine (new_ok K _ (by omega) (by omega)).mono ?_
  rintro e w1 ⟨sb, rfl, s1, b1⟩
  rw [L_false] at s1
  have e1 := hid (hE.below b1)
  have hst := hid s1
  have hbs := b1.size
  have hp := s1.pos
  clear s1 hE hK hEh
  go_wp2_with fail
  go_loopw [6] (fun u wr => ∃ i : Nat, i ≤ K ∧ u = .int .i64 (i : Int) ∧ Hid (Slots wr w.heap.size w1.heap.size sb (L K (fun j => decide (j < i)))) ∧ Within w.heap.size w1.heap.size w1 wr)
    (fun u _ => K - (intOf u).toNat)
  case atStart => exact ⟨0, by omega, by go_num, hid (by have := hst.out; rw [L_ext (q := fun j => decide (j < 0)) (fun j _ => by simp)] at this; exact this), Within.refl _ _ _⟩
  case round =>
    obtain ⟨i, hi, rfl, hs, hwi⟩ := hrel
    have hEr := hid (e1.out.of hwi (by omega))
    rcases Nat.lt_or_ge i K with hlt | hge
    · go_wp2_with fail
      refine (take_hit w.heap.size w1.heap.size sb i _ _ hs.out hEr.out.2 (L_least hlt (by simp) (fun j hj => by simp [hj]))).mono ?_
      rintro e w2 ⟨rfl, s2, v2⟩
      rw [L_set (x := i) (b := true) (q := fun j => decide (j < i + 1)) hlt (by simp) (fun j _ h => by simp; omega)] at s2
      go_wp2_with fail
      go_roundw
      case rel => exact ⟨i + 1, by omega, by go_num, hid s2, hwi.trans v2⟩
      case measure => simp [intOf]; omega
    · obtain rfl : i = K := by omega
      have hall := hid ((L_ext (q := fun j => !(j % 2 == 1 && decide (i ≤ j))) (fun j hj => by simp [hj]) : L i (fun j => decide (j < i)) = _) ▸ hs.out)
      clear hs hst
      go_wp2_with fail
      go_loopw [9] (fun u wr => ∃ (a : Nat) (x : Int), a ≤ i ∧ u = .int .i64 x ∧ x = (a : Int) - 1 ∧ Hid (Slots wr w.heap.size w1.heap.size sb (L i (fun j => !(j % 2 == 1 && decide (a ≤ j))))) ∧ Within w.heap.size w1.heap.size w1 wr)
        (fun u _ => (intOf u + 1).toNat)
      case atStart => exact ⟨i, _, by omega, rfl, by go_num, hall, hwi⟩
      case round =>
        obtain ⟨a, x, ha, rfl, hx, hs, hwi⟩ := hrel
        clear hall
        rcases Nat.eq_zero_or_pos a with rfl | hpos
        · obtain rfl : x = -1 := by omega
          clear hx
          have hall := hid ((L_ext (q := fun j => !(j % 2 == 1 && decide (1 ≤ j))) (fun j hj => by
            rcases Nat.eq_zero_or_pos j with rfl | h
            · rfl
            · simp; omega) : L i (fun j => !(j % 2 == 1 && decide (0 ≤ j))) = _) ▸ hs.out)
          clear hs
          go_wp2_with fail
          go_loopw [10] (fun u wr => ∃ a : Nat, a % 2 = 1 ∧ a ≤ i + 1 ∧ u = .int .i64 (a : Int) ∧ Hid (Slots wr w.heap.size w1.heap.size sb (L i (fun j => !(j % 2 == 1 && decide (a ≤ j))))) ∧ Within w.heap.size w1.heap.size w1 wr)
            (fun u _ => i + 2 - (intOf u).toNat)
          case atStart => exact ⟨1, rfl, by omega, by go_num, hall, hwi⟩
          case round =>
            obtain ⟨a, hodd, ha, rfl, hs, hwi⟩ := hrel
            clear hall
            have hEr := hid (e1.out.of hwi (by omega))
            rcases Nat.lt_or_ge a i with hlt | hge
            · go_wp2_with fail
              refine (take_hit w.heap.size w1.heap.size sb a _ _ hs.out hEr.out.2 (L_least hlt (by simp [hodd]) (fun j hj => by simp; omega))).mono ?_
              rintro e w2 ⟨rfl, s2, v2⟩
              rw [L_set (x := a) (b := true) (q := fun j => !(j % 2 == 1 && decide (a + 2 ≤ j))) hlt (by simp) (fun j _ h => by
                have : (j % 2 == 1 && decide (a ≤ j)) = (j % 2 == 1 && decide (a + 2 ≤ j)) := by
                  rw [Bool.eq_iff_iff]; simp; omega
                rw [this])] at s2
              go_wp2_with fail
              go_roundw
              case rel => exact ⟨a + 2, by omega, by omega, by go_num, hid s2, hwi.trans v2⟩
              case measure => simp [intOf]; omega
            · have hall := hid ((L_ext (q := fun _ => true) (fun j hj => by simp; omega) : L i (fun j => !(j % 2 == 1 && decide (a ≤ j))) = _) ▸ hs.out)
              have hwz := hwi.size
              clear hs
              go_wp2_with fail
              refine (take_full w.heap.size w1.heap.size sb _ _ hall.out hEr.out.2 (fun x h => by rw [L_is] at h; cases h.2)).mono ?_
              rintro e w' ⟨rfl, rfl⟩
              go_wp2_with fail
              refine (num_err 16 _ hEr.out.1).mono ?_
              rintro e w3 ⟨rfl, b3⟩
              have hw3 := Within.ofBelow b3 wr.heap.size wr.heap.size
              have s3 := hall.out.of hw3 (Or.inl hwz)
              have hE3 := hEr.out.below b3
              have hlen := len_ok _ _ _ _ _ s3
              rw [L_true] at hlen
              go_wp2_with fail
              refine hlen.mono ?_
              rintro e w' ⟨rfl, rfl⟩
              clear hlen s3 hw3
              go_wp2_with fail
              refine (sure_ok _ hE3.2 hE3.lt).mono ?_
              rintro e w4 ⟨rfl, b4⟩
              have hz3 := b3.size
              have hfin : Below w.heap.size w w4 := b1.trans ((hwi.below (Nat.le_refl _) hbs).trans ((b3.mono (by omega)).trans (b4.mono (by omega))))
              clear hall hEr hE3 b3 b4
              go_wp2_with fail
              go_ret
              exact ⟨rfl, hfin⟩
        · obtain ⟨b, rfl⟩ : ∃ b, a = b + 1 := ⟨a - 1, by omega⟩
          obtain rfl : x = (b : Int) := by omega
          clear hx
          by_cases hodd : b % 2 = 1
          · have ho : (b : Int) % 2 = 1 := by omega
            go_wp2_with fail
            refine (free_hit w.heap.size w1.heap.size sb b _ _ hs.out ((L_is _ _ _ _).2 ⟨by omega, by simp⟩)).mono ?_
            rintro e w2 ⟨rfl, s2, v2⟩
            rw [L_set (x := b) (b := false) (q := fun j => !(j % 2 == 1 && decide (b ≤ j))) (by omega) (by simp [hodd]) (fun j _ h => by
              have : (j % 2 == 1 && decide (b + 1 ≤ j)) = (j % 2 == 1 && decide (b ≤ j)) := by
                rw [Bool.eq_iff_iff]; simp; omega
              rw [this])] at s2
            go_wp2_with fail
            go_roundw
            case rel => exact ⟨b, _, by omega, rfl, by go_num, hid s2, hwi.trans v2⟩
            case measure => simp [intOf]
          · have ho : (b : Int) % 2 = 0 := by omega
            have s2 := hid ((L_ext (q := fun j => !(j % 2 == 1 && decide (b ≤ j))) (fun j hj => by
              have : (j % 2 == 1 && decide (b + 1 ≤ j)) = (j % 2 == 1 && decide (b ≤ j)) := by
                rw [Bool.eq_iff_iff]; simp; omega
              rw [this]) : L i (fun j => !(j % 2 == 1 && decide (b + 1 ≤ j))) = _) ▸ hs.out)
            go_wp2_with fail
            go_roundw
            case rel => exact ⟨b, _, by omega, rfl, by go_num, s2, hwi⟩
            case measure => simp [intOf]

end Go.Proofs.YtddbeebnmjbfiabDoor
