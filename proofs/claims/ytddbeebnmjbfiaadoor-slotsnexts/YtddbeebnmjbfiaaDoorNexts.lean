/- 'SlotsNexts', walked. -/
import Derived.Test.YtddbeebnmjbfiaaDoorRef
namespace Go.Proofs.YtddbeebnmjbfiaaDoor
open Go.RowKit

theorem bel_prefix (l : List Bool) (x : Nat) : ∀ d, ∃ r, bel l (x + d) = bel l x ++ r
  | 0 => ⟨[], by simp⟩
  | d + 1 => by
    obtain ⟨r, hr⟩ := bel_prefix l x d
    exact ⟨r ++ (if l[x + d]? = some true then [x + d] else []), by rw [← Nat.add_assoc, bel_succ, hr, List.append_assoc]⟩

theorem bel_mem (l : List Bool) (x y : Nat) (h : y ∈ bel l x) : y < x ∧ l[y]? = some true := by
  obtain ⟨h1, h2⟩ := List.mem_filter.1 h
  exact ⟨List.mem_range.1 h1, by simpa using h2⟩

/-- The places ahead of the one that is told. -/
theorem places_ahead (l : List Bool) (x : Nat) (hx : x ≤ l.length) (i : Nat) (hi : i < (bel l x).length) : ∃ y : Nat, (places l)[i]? = some (y : Int) ∧ y < x ∧ l[y]? = some true := by
  obtain ⟨r, hr⟩ := bel_prefix l x (l.length - x)
  rw [show x + (l.length - x) = l.length from by omega] at hr
  refine ⟨(bel l x)[i], ?_, bel_mem l x _ (List.getElem_mem hi)⟩
  unfold places
  rw [hr, List.getElem?_map, List.getElem?_append_left hi, List.getElem?_eq_getElem hi]
  rfl

theorem places_bound (l : List Bool) : (places l).length ≤ l.length := by simp [places]; exact bel_le _ _

set_option maxRecDepth 100000 in
set_option maxHeartbeats 8000000 in
theorem nexts_law (n : Int) (ad : Option Addr) (zs : List Int) (cap : Nat) (F : Int) (w : World) (hT : Tab w) (hz : Ints w ad zs) (hF1 : -9223372036854775808 ≤ F) (hF2 : F < 9223372036854775808) :
    Calls Tryd.prog 5 #[.int .i64 n, .slice ad zs.length cap, .int .i64 F] w fun e w' => e = .returned (.bool true) ∧ Below w.heap.size w w' := by
  obtain ⟨K, hK, hK1, hK2⟩ := mod_up n 300 (by decide) (by decide)
  have hsz := hT.lt
  have hzl := hz.bound
  go_enter Tryd.func5, Tryd.ntmps5
  go_wp2_with fail
  rw [hK]
  refine (new_ok K _ (by omega) (by omega)).mono ?_
  rintro e w1 ⟨sb, rfl, s1, b1⟩
  rw [L_false] at s1
  have t1 := hid (hT.of (Within.ofBelow b1 w.heap.size w.heap.size) (by omega))
  have hz1 := hid hz
  have hbs := b1.size
  have hp := hid s1.pos
  have hmk := make_bools K (by omega) w1
  have hst := hid (s1.of ((Within.refl w1.heap.size w1.heap.size w1).alloc (.cells (Array.replicate K (.bool false)) 4)) (Or.inl (Nat.le_refl _)))
  have hbm := hid (Bools.made K w1)
  have hwa := hid ((Within.refl w.heap.size w1.heap.size w1).alloc (.cells (Array.replicate K (.bool false)) 4))
  clear s1 hT hz hK
  go_wp2_with fail
  clear hmk
  go_loopw [10, 11] (fun v u wr => ∃ (t : Nat) (p : Nat → Bool) (ta : Addr) (tc : Nat), t ≤ zs.length ∧ t ≤ 100 ∧ v = .slice (some ta) K tc ∧ u = .int .i64 (t : Int) ∧ Hid (Slots wr w.heap.size w1.heap.size sb (L K p)) ∧ Hid (Bools wr (some ta) tc (L K p)) ∧ Hid (w1.heap.size ≤ ta.block) ∧ Within w.heap.size w1.heap.size w1 wr)
    (fun _ u _ => 100 - (intOf u).toNat)
  case atStart => exact ⟨0, _, _, _, by omega, by omega, rfl, by go_num, hst, hbm, hid (Nat.le_refl _), hwa.out⟩
  case round =>
    obtain ⟨t, p, ta, tc, ht1, ht2, rfl, rfl, hs, hB, hta, hwi⟩ := hrel
    clear hst hbm hwa
    by_cases hgo : t < zs.length ∧ t < 100
    · obtain ⟨hgo1, hgo2⟩ := hgo
      obtain ⟨z, hzt⟩ : ∃ z, zs[t]? = some z := ⟨_, List.getElem?_eq_getElem hgo1⟩
      cases ad with
      | none => have := hz1.out.nil rfl; subst this; simp at hgo1
      | some a0 =>
        have hbel := b1.trans (hwi.below (Nat.le_refl _) hbs)
        have hcell := (hz1.out.below hbel).cell a0 rfl t z hzt
        by_cases hin : 0 ≤ z ∧ z < K
        · obtain ⟨a, rfl⟩ : ∃ a : Nat, z = (a : Int) := ⟨z.toNat, by omega⟩
          have haK : a < K := by omega
          clear hin
          cases hpa : p a with
          | false =>
            have hpah := hid hpa
            have hzth := hid hzt
            clear hpa hzt
            go_wp2_with fail
            refine (claim_ok w.heap.size w1.heap.size sb a _ _ hs.out ((L_is _ _ _ _).2 ⟨haK, hpah.out⟩)).mono ?_
            rintro e w2 ⟨rfl, s2, v2⟩
            rw [L_set (x := a) (b := true) (q := fun j => if j = a then true else p j) haK (by simp) (fun j _ hj => by simp [hj])] at s2
            have hcell2 := (hz1.out.below (hbel.trans (v2.below (Nat.le_refl _) (by have := hwi.size; omega)))).cell a0 rfl t _ hzth.out
            have hB2 := hid (hB.out.of v2 (fun a' e' => by cases e'; exact hta.out))
            have s2h := hid s2
            have hw2 := hid (hwi.trans v2)
            have hwz := v2.size
            have hwz1 := hwi.size
            clear s2 hs hB hcell v2 hwi hbel
            have hwc := with_ok (some ta) tc (L K p) a true w2 hB2.out (by simpa using haK) (by simp; omega)
            rw [L_length, L_set (x := a) (b := true) (q := fun j => if j = a then true else p j) haK (by simp) (fun j _ hj => by simp [hj])] at hwc
            go_wp2_with fail
            refine hwc.mono ?_
            rintro e w3 ⟨ta3, tc3, rfl, hB3, hta3, b3⟩
            have s3h := hid (s2h.out.of (Within.ofBelow b3 w2.heap.size w2.heap.size) (Or.inl (by omega)))
            have hB3h := hid hB3
            have hw3 := hw2.out.trans (Within.ofBelow b3 _ _)
            clear hwc hB3 b3 s2h hB2 hw2 hcell2
            go_wp2_with fail
            go_roundw
            case rel => exact ⟨t + 1, _, ta3, tc3, by omega, by omega, rfl, by go_num, s3h, hB3h, hid (by omega), hw3⟩
            case measure => simp [intOf]; omega
          | true =>
            have hpah := hid hpa
            clear hpa hzt
            go_wp2_with fail
            refine (claim_same w.heap.size w1.heap.size sb a _ _ hs.out ((L_is _ _ _ _).2 ⟨haK, hpah.out⟩)).mono ?_
            rintro e w2 ⟨rfl, rfl⟩
            go_wp2_with fail
            go_roundw
            case rel => exact ⟨t + 1, p, ta, tc, by omega, by omega, rfl, by go_num, hs, hB, hta, hwi⟩
            case measure => simp [intOf]; omega
        · have hout : z < 0 ∨ ((L K p).length : Int) ≤ z := by simp; omega
          clear hzt hin
          go_wp2_with fail
          refine (claim_out w.heap.size w1.heap.size sb z _ _ hs.out hout).mono ?_
          rintro e w2 ⟨rfl, rfl⟩
          clear hout
          go_wp2_with fail
          go_roundw
          case rel => exact ⟨t + 1, p, ta, tc, by omega, by omega, rfl, by go_num, hs, hB, hta, hwi⟩
          case measure => simp [intOf]; omega
    · have hstop : zs.length ≤ t ∨ (t < zs.length ∧ 100 ≤ t) := by omega
      have hwz := hwi.size
      have htr := hid (t1.out.of hwi (by omega))
      clear hgo
      have hall := rall_ok (some ta) tc (L K p) wr hB.out (by simp; omega)
      rw [L_length] at hall
      have hpb : (places (L K p)).length ≤ K := by simpa using places_bound (L K p)
      -- what Next answers
      have hnext : Hid (∃ (x : Nat) (d : Bool), (Calls Tryd.prog 25 #[.pointer (some ⟨sb, 0, none⟩), .int .i64 F] wr fun e w' => e = .returned (.tuple #[.int .i64 (x : Int), .bool d]) ∧ wr = w') ∧
          ((d = true ∧ Least (fun i => (L K p)[i]? = some true) F.toNat x) ∨ (d = false ∧ x = 0 ∧ ∀ y : Nat, (L K p)[y]? = some true → ¬ F.toNat ≤ y))) := by
        by_cases hn : ∃ x, Least (fun i => (L K p)[i]? = some true) F.toNat x
        · obtain ⟨x, hx⟩ := hn
          refine ⟨x, true, ?_, Or.inl ⟨rfl, hx⟩⟩
          rcases Int.lt_or_le F 0 with hneg | hpos
          · have e0 : F.toNat = 0 := by omega
            rw [e0] at hx
            exact nextS_neg _ _ _ F _ _ hs.out htr.out hneg _ (Or.inl ⟨x, rfl, hx⟩)
          · have := nextS_hit _ _ _ F.toNat x _ _ hs.out htr.out (by omega) hx
            rw [show ((F.toNat : Nat) : Int) = F from by omega] at this
            exact this
        · have hno : ∀ y : Nat, (L K p)[y]? = some true → ¬ F.toNat ≤ y := fun y hy hf => hn (least_is y hy hf)
          refine ⟨0, false, ?_, Or.inr ⟨rfl, rfl, hno⟩⟩
          rcases Int.lt_or_le F 0 with hneg | hpos
          · have e0 : F.toNat = 0 := by omega
            rw [e0] at hno
            exact nextS_neg _ _ _ F _ _ hs.out htr.out hneg _ (Or.inr ⟨rfl, hno⟩)
          · have := nextS_miss _ _ _ F.toNat _ _ hs.out htr.out (by omega) hno
            rw [show ((F.toNat : Nat) : Int) = F from by omega] at this
            exact this
      obtain ⟨x, d, hcall, hxd⟩ := hnext.out
      have hxdh := hid hxd
      clear hxd hnext
      obtain ⟨C, hC⟩ : ∃ C, (places (L K p)).length = C := ⟨_, rfl⟩
      have hCh := hid hC
      rw [hC] at hall hpb
      clear hC
      rcases hstop with hstop | ⟨hstop1, hstop2⟩
      all_goals
        go_wp2_with fail
        refine hcall.mono ?_
        rintro e w' ⟨rfl, rfl⟩
        go_wp2_with fail
        refine hall.mono ?_
        rintro e w3 ⟨av, ac, rfl, hI, b3, _⟩
        have hI3 := hid hI
        have ht3 := hid (htr.out.of (Within.ofBelow b3 wr.heap.size wr.heap.size) (by omega))
        have hB0 := hid (b1.trans ((hwi.below (Nat.le_refl _) hbs).trans (b3.mono (by omega))))
        have hb3z := b3.size
        clear hcall hall hI b3 hs hB hta htr hwi
        go_wp2_with fail
        cases d with
        | true =>
          have hx : Hid (Least (fun i => (L K p)[i]? = some true) F.toNat x) := by
            rcases hxdh.out with ⟨_, h⟩ | ⟨h, _⟩
            · exact h
            · cases h
          have hxK : x < K := by
            have h1 : (L K p)[x]? = some true := hx.out.1
            rw [L_is] at h1
            exact h1.1
          have hxF : F ≤ (x : Int) := by have := hx.out.2.1; omega
          obtain ⟨m, hm⟩ : ∃ m, (bel (L K p) x).length = m := ⟨_, rfl⟩
          have hat : Hid ((places (L K p))[m]? = some (x : Int)) := by
            rw [Hid, ← hm]
            exact places_at K p x hxK ((L_is _ _ _ _).1 hx.out.1).2
          have hmC : m < C := by rw [← hCh.out]; exact (List.getElem?_eq_some_iff.1 hat.out).1
          have hahead : Hid (∀ i, i < m → ∃ y : Int, (places (L K p))[i]? = some y ∧ y < F) := by
            intro i hi
            obtain ⟨y, h1, h2, h3⟩ := places_ahead (L K p) x (by simp; omega) i (by rw [hm]; exact hi)
            refine ⟨y, h1, ?_⟩
            rcases Int.lt_or_le (y : Int) F with h4 | h4
            · exact h4
            · have := hx.out.2.2 y h3 (by omega)
              omega
          clear hm hx
          go_loopw [15] (fun u wr => ∃ i : Nat, i ≤ m ∧ u = .int .i64 (i : Int) ∧ wr = w3)
            (fun u _ => C - (intOf u).toNat)
          case atStart => exact ⟨0, by omega, by go_num, rfl⟩
          case round =>
            obtain ⟨i, hi, rfl, rfl⟩ := hrel
            cases av with
            | none => have := hI3.out.nil rfl; have h5 := hat.out; rw [this] at h5; simp at h5
            | some a2 =>
              rcases Nat.lt_or_ge i m with hlt | hge
              · obtain ⟨y, hy, hyF⟩ := hahead.out i hlt
                have hcell := hI3.out.cell a2 rfl i y hy
                clear hy
                go_wp2_with fail
                go_roundw
                case rel => exact ⟨i + 1, by omega, by go_num, trivial⟩
                case measure => simp [intOf]; omega
              · obtain rfl : i = m := by omega
                have hcell := hI3.out.cell a2 rfl i _ hat.out
                go_wp2_with fail
                refine (sure_ok _ ht3.out ht3.out.lt).mono ?_
                rintro e w5 ⟨rfl, b5⟩
                have hfin := hid (hB0.out.trans (b5.mono (by omega)))
                clear b5
                go_wp2_with fail
                go_ret
                exact ⟨rfl, hfin.out⟩
        | false =>
          obtain ⟨hx0, hno⟩ : x = 0 ∧ Hid (∀ y : Nat, (L K p)[y]? = some true → ¬ F.toNat ≤ y) := by
            rcases hxdh.out with ⟨h, _⟩ | ⟨_, h1, h2⟩
            · cases h
            · exact ⟨h1, h2⟩
          subst hx0
          have hahead : Hid (∀ i, i < C → ∃ y : Int, (places (L K p))[i]? = some y ∧ y < F) := by
            intro i hi
            obtain ⟨y, h1, h2, h3⟩ := places_ahead (L K p) K (by simp) i (by
              have h5 := hCh.out
              simp [places] at h5
              omega)
            refine ⟨y, h1, ?_⟩
            have := hno.out y h3
            omega
          clear hno hxdh
          go_loopw [15] (fun u wr => ∃ i : Nat, i ≤ C ∧ u = .int .i64 (i : Int) ∧ wr = w3)
            (fun u _ => C - (intOf u).toNat)
          case atStart => exact ⟨0, by omega, by go_num, rfl⟩
          case round =>
            obtain ⟨i, hi, rfl, rfl⟩ := hrel
            rcases Nat.lt_or_ge i C with hlt | hge
            · cases av with
              | none =>
                have := hI3.out.nil rfl
                have h5 := hCh.out
                rw [this] at h5
                simp at h5
                omega
              | some a2 =>
                obtain ⟨y, hy, hyF⟩ := hahead.out i hlt
                have hcell := hI3.out.cell a2 rfl i y hy
                clear hy
                go_wp2_with fail
                go_roundw
                case rel => exact ⟨i + 1, by omega, by go_num, trivial⟩
                case measure => simp [intOf]; omega
            · go_wp2_with fail
              refine (sure_ok _ ht3.out ht3.out.lt).mono ?_
              rintro e w5 ⟨rfl, b5⟩
              have hfin := hid (hB0.out.trans (b5.mono (by omega)))
              clear b5
              go_wp2_with fail
              go_ret
              exact ⟨rfl, hfin.out⟩

end Go.Proofs.YtddbeebnmjbfiaaDoor
