/- 'SlotsOrder', walked. -/
import Derived.Test.YtddbeebnmjbfiaaDoorAll
import Derived.Test.YtddbeebnmjbfiaaDoorLowest
namespace Go.Proofs.YtddbeebnmjbfiaaDoor
open Go.RowKit

theorem Tab.lt {w : World} (h : Tab w) : 2 ≤ w.heap.size := World.block_lt_of_cell? w _ (h 0 (by decide))

theorem places_at (K : Nat) (p : Nat → Bool) (x : Nat) (hx : x < K) (hp : p x = true) : (places (L K p))[(bel (L K p) x).length]? = some (x : Int) := by
  unfold places
  rw [List.getElem?_map, bel_at (L K p) x ((L_is _ _ _ _).2 ⟨hx, hp⟩) _ (by simp [hx])]
  rfl

theorem bel_next (K : Nat) (p : Nat → Bool) (x : Nat) (hx : x < K) : (bel (L K p) (x + 1)).length = (bel (L K p) x).length + (if p x = true then 1 else 0) := by
  rw [bel_succ, List.length_append, L_get, if_pos hx]
  cases p x <;> rfl

set_option maxRecDepth 100000 in
set_option maxHeartbeats 4000000 in
theorem order_law (n : Int) (ad : Option Addr) (zs : List Int) (cap : Nat) (w : World) (hT : Tab w) (hz : Ints w ad zs) :
    Calls Tryd.prog 7 #[.int .i64 n, .slice ad zs.length cap] w fun e w' => e = .returned (.bool true) ∧ Below w.heap.size w w' := by
  obtain ⟨K, hK, hK1, hK2⟩ := mod_up n 400 (by decide) (by decide)
  have hsz := hT.lt
  have hzl := hz.bound
  go_enter Tryd.func7, Tryd.ntmps7
  go_wp2_with fail
  rw [hK]
  refine (new_ok K _ (by omega) (by omega)).mono ?_
  rintro e w1 ⟨sb, rfl, s1, b1⟩
  rw [L_false] at s1
  have t1 := hid (hT.of (Within.ofBelow b1 w.heap.size w.heap.size) (by omega))
  have hz1 := hid hz
  have hst := hid s1
  have hbs := b1.size
  have hp := s1.pos
  clear s1 hT hz hK
  go_wp2_with fail
  go_loopw [8] (fun u wr => ∃ (t : Nat) (p : Nat → Bool), t ≤ zs.length ∧ t ≤ 100 ∧ u = .int .i64 (t : Int) ∧ Hid (Slots wr w.heap.size w1.heap.size sb (L K p)) ∧ Within w.heap.size w1.heap.size w1 wr)
    (fun u _ => 100 - (intOf u).toNat)
  case atStart => exact ⟨0, _, by omega, by omega, by go_num, hst, Within.refl _ _ _⟩
  case round =>
    obtain ⟨t, p, ht1, ht2, rfl, hs, hwi⟩ := hrel
    by_cases hgo : t < zs.length ∧ t < 100
    · obtain ⟨hgo1, hgo2⟩ := hgo
      obtain ⟨z, hzt⟩ : ∃ z, zs[t]? = some z := ⟨_, List.getElem?_eq_getElem hgo1⟩
      cases ad with
      | none => have := hz1.out.nil rfl; subst this; simp at hgo1
      | some a0 =>
        have hcell := (hz1.out.below (b1.trans (hwi.below (Nat.le_refl _) hbs))).cell a0 rfl t z hzt
        obtain ⟨a, ham, haK⟩ := mod_in z K (by omega) (by omega)
        go_wp2_with fail
        rw [ham]
        clear ham hcell hzt hst
        cases hpa : p a with
        | false =>
          refine (claim_ok w.heap.size w1.heap.size sb a _ _ hs.out ((L_is _ _ _ _).2 ⟨haK, hpa⟩)).mono ?_
          rintro e w2 ⟨rfl, s2, v2⟩
          rw [L_set (x := a) (b := true) (q := fun j => if j = a then true else p j) haK (by simp) (fun j _ hj => by simp [hj])] at s2
          have s2h := hid s2
          clear s2 hs hpa
          go_wp2_with fail
          go_roundw
          case rel => exact ⟨t + 1, _, by omega, by omega, by go_num, s2h, hwi.trans v2⟩
          case measure => simp [intOf]; omega
        | true =>
          refine (claim_same w.heap.size w1.heap.size sb a _ _ hs.out ((L_is _ _ _ _).2 ⟨haK, hpa⟩)).mono ?_
          rintro e w2 ⟨rfl, rfl⟩
          clear hpa
          go_wp2_with fail
          go_roundw
          case rel => exact ⟨t + 1, p, by omega, by omega, by go_num, hs, hwi⟩
          case measure => simp [intOf]; omega
    · have hstop : zs.length ≤ t ∨ (t < zs.length ∧ 100 ≤ t) := by omega
      have hwz := hwi.size
      clear hgo hst
      rcases hstop with hstop | ⟨hstop1, hstop2⟩
      all_goals
        go_wp2_with fail
        have htr := t1.out.of hwi (by omega)
        refine (all_ok _ _ _ _ _ hs.out htr (by omega)).mono ?_
        rintro e w3 ⟨av, ac, rfl, hI, b3, _⟩
        have hI3 := hid hI
        have hw3 : Within w.heap.size w1.heap.size w1 w3 := hwi.trans (Within.ofBelow b3 _ _)
        have hs3 := hid (hs.out.of (Within.ofBelow b3 wr.heap.size wr.heap.size) (Or.inl hwz))
        have ht3 := hid (htr.of (Within.ofBelow b3 wr.heap.size wr.heap.size) (by omega))
        have hpl := places_length (L K p)
        have hcle : (L K p).count true ≤ K := by have := List.count_le_length (a := true) (l := L K p); simpa using this
        obtain ⟨C, hC⟩ : ∃ C, (places (L K p)).length = C := ⟨_, rfl⟩
        have hCK : C ≤ K := by omega
        have hCh := hid hC
        have hCc : Hid ((L K p).count true = C) := by rw [Hid, ← hpl]; exact hC
        rw [hC]
        clear hI b3 hs htr hwi hwz hpl hcle hC
        go_wp2_with fail
        go_loopw [10, 11] (fun v u wr => ∃ x m : Nat, x ≤ K ∧ m ≤ x ∧ v = .int .i64 (m : Int) ∧ u = .int .i64 (x : Int) ∧ Hid (m = (bel (L K p) x).length) ∧ wr = w3)
          (fun _ u _ => K - (intOf u).toNat)
        case atStart => exact ⟨0, 0, by omega, by omega, by go_num, by go_num, hid (by simp [bel]), rfl⟩
        case round =>
          obtain ⟨x, m, hx, hmx, rfl, rfl, hm, rfl⟩ := hrel
          rcases Nat.lt_or_ge x K with hlt | hge
          · have hhas := has_at _ _ _ x _ _ hs3.out (p x) ((L_is _ _ _ _).2 ⟨hlt, rfl⟩)
            have hbn := hid (bel_next K p x hlt)
            cases hpx : p x with
            | true =>
              rw [hpx] at hhas
              have hat := places_at K p x hlt hpx
              rw [← hm.out] at hat
              have hmC : m < C := by rw [← hCh.out]; exact (List.getElem?_eq_some_iff.1 hat).1
              cases av with
              | none => have := hI3.out.nil rfl; rw [this] at hat; simp at hat
              | some a2 =>
                have hcell := hI3.out.cell a2 rfl m _ hat
                have hbn2 := hid (by rw [hpx] at hbn; exact hbn.out)
                clear hat hpx hbn
                go_wp2_with fail
                refine hhas.mono ?_
                rintro e w' ⟨rfl, rfl⟩
                clear hhas
                go_wp2_with fail
                go_roundw
                case rel => exact ⟨x + 1, m + 1, by omega, by omega, by go_num, by go_num, hid (by rw [hbn2.out, ← hm.out]; rfl), trivial⟩
                case measure => simp [intOf]; omega
            | false =>
              rw [hpx] at hhas
              have hbn2 := hid (by rw [hpx] at hbn; exact hbn.out)
              clear hpx hbn
              go_wp2_with fail
              refine hhas.mono ?_
              rintro e w' ⟨rfl, rfl⟩
              clear hhas
              go_wp2_with fail
              go_roundw
              case rel => exact ⟨x + 1, m, by omega, by omega, by go_num, by go_num, hid (by rw [hbn2.out, ← hm.out]; rfl), trivial⟩
              case measure => simp [intOf]; omega
          · obtain rfl : x = K := by omega
            have hmC : m = C := by
              rw [hm.out, ← hCc.out, ← bel_all]; simp
            have hlen := len_ok _ _ _ _ _ hs3.out
            rw [hCc.out] at hlen
            subst hmC
            go_wp2_with fail
            refine hlen.mono ?_
            rintro e w' ⟨rfl, rfl⟩
            clear hlen
            go_wp2_with fail
            refine (sure_ok _ ht3.out ht3.out.lt).mono ?_
            rintro e w5 ⟨rfl, b5⟩
            have hz5 := hw3.size
            have hfin : Below w.heap.size w w5 := b1.trans ((hw3.below (Nat.le_refl _) hbs).trans (b5.mono (by omega)))
            clear b5
            go_wp2_with fail
            go_ret
            exact ⟨rfl, hfin⟩

end Go.Proofs.YtddbeebnmjbfiaaDoor
