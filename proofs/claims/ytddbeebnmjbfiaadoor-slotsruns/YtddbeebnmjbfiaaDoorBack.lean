/- 'SlotsBack', walked. -/
import Derived.Test.YtddbeebnmjbfiaaDoorOrder
namespace Go.Proofs.YtddbeebnmjbfiaaDoor
open Go.RowKit

/-- Where a law stands: its Slots, the program's variables, what has turned since its Slots was made. -/
structure St (lo hi sb : Nat) (w1 : World) (l : List Bool) (wr : World) : Prop where
  slots : Slots wr lo hi sb l
  env : Env wr
  within : Within lo hi w1 wr
  two : 2 ≤ lo

theorem St.set {lo hi sb : Nat} {w1 wr w' : World} {l l' : List Bool} (h : St lo hi sb w1 l wr) (hs : Slots w' lo hi sb l') (hw : Within lo hi wr w') : St lo hi sb w1 l' w' := ⟨hs, h.env.of hw h.two, h.within.trans hw, h.two⟩

theorem St.below {lo hi sb : Nat} {w1 wr w' : World} {l : List Bool} (h : St lo hi sb w1 l wr) (hb : Below wr.heap.size wr w') : St lo hi sb w1 l w' :=
  ⟨h.slots.of (Within.ofBelow hb wr.heap.size wr.heap.size) (Or.inl h.slots.pos.2.2.1), h.env.below hb, h.within.trans (Within.ofBelow hb _ _), h.two⟩

theorem St.end_ {lo hi sb : Nat} {w w1 wr w' : World} {l : List Bool} (h : St lo hi sb w1 l wr) (h1 : Below lo w w1) (hl : lo ≤ w.heap.size) (hb : Below wr.heap.size wr w') : Below lo w w' := by
  have h2 := h1.size
  have h3 := h.within.size
  exact h1.trans ((h.within.below (Nat.le_refl _) (by omega)).trans (hb.mono (by omega)))

set_option maxRecDepth 100000 in
set_option maxHeartbeats 8000000 in
theorem back_law (n : Int) (ad : Option Addr) (zs : List Int) (cap : Nat) (y : Int) (w : World) (hE : Env w) (hz : Ints w ad zs) :
    Calls Tryd.prog 8 #[.int .i64 n, .slice ad zs.length cap, .int .i64 y] w fun e w' => e = .returned (.bool true) ∧ Below w.heap.size w w' := by
  obtain ⟨K, hK, hK1, hK2⟩ := mod_up n 400 (by decide) (by decide)
  have hsz := hE.lt
  have hzl := hz.bound
  go_enter Tryd.func8, Tryd.ntmps8
  go_wp2_with fail
  rw [hK]
  refine (new_ok K _ (by omega) (by omega)).mono ?_
  rintro e w1 ⟨sb, rfl, s1, b1⟩
  rw [L_false] at s1
  have hz1 := hid hz
  have hst := hid (show St w.heap.size w1.heap.size sb w1 _ w1 from ⟨s1, hE.below b1, Within.refl _ _ _, hsz⟩)
  have hbs := b1.size
  clear s1 hE hz hK
  go_wp2_with fail
  go_loopw [10] (fun u wr => ∃ (t : Nat) (p : Nat → Bool), t ≤ zs.length ∧ t ≤ 60 ∧ u = .int .i64 (t : Int) ∧ Hid (St w.heap.size w1.heap.size sb w1 (L K p) wr))
    (fun u _ => 60 - (intOf u).toNat)
  case atStart => exact ⟨0, _, by omega, by omega, by go_num, hst⟩
  case round =>
    obtain ⟨t, p, ht1, ht2, rfl, hs⟩ := hrel
    by_cases hgo : t < zs.length ∧ t < 60
    · obtain ⟨hgo1, hgo2⟩ := hgo
      obtain ⟨z, hzt⟩ : ∃ z, zs[t]? = some z := ⟨_, List.getElem?_eq_getElem hgo1⟩
      cases ad with
      | none => have := hz1.out.nil rfl; subst this; simp at hgo1
      | some a0 =>
        have hcell := (hz1.out.below (b1.trans (hs.out.within.below (Nat.le_refl _) hbs))).cell a0 rfl t z hzt
        obtain ⟨a, ham, haK⟩ := mod_in z K (by omega) (by omega)
        go_wp2_with fail
        rw [ham]
        clear ham hcell hzt hst
        cases hpa : p a with
        | false =>
          refine (claim_ok w.heap.size w1.heap.size sb a _ _ hs.out.slots ((L_is _ _ _ _).2 ⟨haK, hpa⟩)).mono ?_
          rintro e w2 ⟨rfl, s2, v2⟩
          rw [L_set (x := a) (b := true) (q := fun j => if j = a then true else p j) haK (by simp) (fun j _ hj => by simp [hj])] at s2
          have s2h := hid (hs.out.set s2 v2)
          clear s2 hs hpa v2
          go_wp2_with fail
          go_roundw
          case rel => exact ⟨t + 1, _, by omega, by omega, by go_num, s2h⟩
          case measure => simp [intOf]; omega
        | true =>
          refine (claim_same w.heap.size w1.heap.size sb a _ _ hs.out.slots ((L_is _ _ _ _).2 ⟨haK, hpa⟩)).mono ?_
          rintro e w2 ⟨rfl, rfl⟩
          clear hpa
          go_wp2_with fail
          go_roundw
          case rel => exact ⟨t + 1, p, by omega, by omega, by go_num, hs⟩
          case measure => simp [intOf]; omega
    · have hstop : zs.length ≤ t ∨ (t < zs.length ∧ 60 ≤ t) := by omega
      obtain ⟨a, ham, haK⟩ := mod_in y K (by omega) (by omega)
      clear hgo hst
      rcases hstop with hstop | ⟨hstop1, hstop2⟩
      all_goals
        go_wp2_with fail
        rw [ham]
        refine (all_ok _ _ _ _ _ hs.out.slots hs.out.env.2 hs.out.env.lt).mono ?_
        rintro e w3 ⟨av, ac, rfl, hI, b3, hav⟩
        have hs3 := hid (hs.out.below b3)
        have hI3 := hid hI
        have hwz := hs.out.slots.pos.2.2.1
        have havh : Hid (∀ a', av = some a' → w1.heap.size ≤ a'.block) := fun a' e' => Nat.le_trans hwz (hav a' e')
        clear hs hI b3 hav ham hwz
        cases hpa : p a with
        | true =>
          have hpah := hid hpa
          clear hpa
          go_wp2_with fail
          refine (has_at _ _ _ a _ _ hs3.out.slots true ((L_is _ _ _ _).2 ⟨haK, hpah.out⟩)).mono ?_
          rintro e w' ⟨rfl, rfl⟩
          go_wp2_with fail
          refine (claim_same _ _ _ a _ _ hs3.out.slots ((L_is _ _ _ _).2 ⟨haK, hpah.out⟩)).mono ?_
          rintro e w' ⟨rfl, rfl⟩
          go_wp2_with fail
          refine (num_err 20 _ hs3.out.env.1).mono ?_
          rintro e w4 ⟨rfl, b4⟩
          have hs4 := hid (hs3.out.below b4)
          have hI4 := hid (hI3.out.below b4)
          clear hs3 hI3 b4
          go_wp2_with fail
          refine (free_hit _ _ _ a _ _ hs4.out.slots ((L_is _ _ _ _).2 ⟨haK, hpah.out⟩)).mono ?_
          rintro e w5 ⟨rfl, s5, v5⟩
          rw [L_set (x := a) (b := false) (q := fun j => if j = a then false else p j) haK (by simp) (fun j _ hj => by simp [hj])] at s5
          have hs5 := hid (hs4.out.set s5 v5)
          have hI5 := hid (hI4.out.of v5 havh.out)
          clear hs4 hI4 v5 s5
          go_wp2_with fail
          refine (free_apart _ _ _ a _ _ hs5.out.slots ((L_is _ _ _ _).2 ⟨haK, by simp⟩)).mono ?_
          rintro e w' ⟨rfl, rfl⟩
          go_wp2_with fail
          refine (num_err 21 _ hs5.out.env.1).mono ?_
          rintro e w6 ⟨rfl, b6⟩
          have hs6 := hid (hs5.out.below b6)
          have hI6 := hid (hI5.out.below b6)
          clear hs5 hI5 b6
          go_wp2_with fail
          refine (claim_ok _ _ _ a _ _ hs6.out.slots ((L_is _ _ _ _).2 ⟨haK, by simp⟩)).mono ?_
          rintro e w7 ⟨rfl, s7, v7⟩
          rw [L_set (x := a) (b := true) (q := p) haK hpah.out (fun j _ hj => by simp [hj])] at s7
          have hs7 := hid (hs6.out.set s7 v7)
          have hI7 := hid (hI6.out.of v7 havh.out)
          clear hs6 hI6 v7 s7
          go_wp2_with fail
          refine (all_ok _ _ _ _ _ hs7.out.slots hs7.out.env.2 hs7.out.env.lt).mono ?_
          rintro e w8 ⟨av8, ac8, rfl, hI, b8, _⟩
          have hs8 := hid (hs7.out.below b8)
          have hI8 := hid (hI7.out.below b8)
          have hJ8 := hid hI
          clear hs7 hI7 b8 hI
          go_wp2_with fail
          refine (ints_same _ _ _ _ _ _ hJ8.out hI8.out).mono ?_
          rintro e w9 ⟨rfl, b9⟩
          have hs9 := hid (hs8.out.below b9)
          clear hs8 hI8 hJ8 b9
          go_wp2_with fail
          refine (sure_ok _ hs9.out.env.2 hs9.out.env.lt).mono ?_
          rintro e w10 ⟨rfl, b10⟩
          have hfin := hid (hs9.out.end_ b1 (Nat.le_refl _) b10)
          clear hs9 b10
          go_wp2_with fail
          go_ret
          exact ⟨rfl, hfin.out⟩
        | false =>
          have hpah := hid hpa
          clear hpa
          go_wp2_with fail
          refine (has_at _ _ _ a _ _ hs3.out.slots false ((L_is _ _ _ _).2 ⟨haK, hpah.out⟩)).mono ?_
          rintro e w' ⟨rfl, rfl⟩
          go_wp2_with fail
          refine (free_apart _ _ _ a _ _ hs3.out.slots ((L_is _ _ _ _).2 ⟨haK, hpah.out⟩)).mono ?_
          rintro e w' ⟨rfl, rfl⟩
          go_wp2_with fail
          refine (num_err 21 _ hs3.out.env.1).mono ?_
          rintro e w4 ⟨rfl, b4⟩
          have hs4 := hid (hs3.out.below b4)
          have hI4 := hid (hI3.out.below b4)
          clear hs3 hI3 b4
          go_wp2_with fail
          refine (claim_ok _ _ _ a _ _ hs4.out.slots ((L_is _ _ _ _).2 ⟨haK, hpah.out⟩)).mono ?_
          rintro e w5 ⟨rfl, s5, v5⟩
          rw [L_set (x := a) (b := true) (q := fun j => if j = a then true else p j) haK (by simp) (fun j _ hj => by simp [hj])] at s5
          have hs5 := hid (hs4.out.set s5 v5)
          have hI5 := hid (hI4.out.of v5 havh.out)
          clear hs4 hI4 v5 s5
          go_wp2_with fail
          refine (claim_same _ _ _ a _ _ hs5.out.slots ((L_is _ _ _ _).2 ⟨haK, by simp⟩)).mono ?_
          rintro e w' ⟨rfl, rfl⟩
          go_wp2_with fail
          refine (num_err 20 _ hs5.out.env.1).mono ?_
          rintro e w6 ⟨rfl, b6⟩
          have hs6 := hid (hs5.out.below b6)
          have hI6 := hid (hI5.out.below b6)
          clear hs5 hI5 b6
          go_wp2_with fail
          refine (free_hit _ _ _ a _ _ hs6.out.slots ((L_is _ _ _ _).2 ⟨haK, by simp⟩)).mono ?_
          rintro e w7 ⟨rfl, s7, v7⟩
          rw [L_set (x := a) (b := false) (q := p) haK hpah.out (fun j _ hj => by simp [hj])] at s7
          have hs7 := hid (hs6.out.set s7 v7)
          have hI7 := hid (hI6.out.of v7 havh.out)
          clear hs6 hI6 v7 s7
          go_wp2_with fail
          refine (all_ok _ _ _ _ _ hs7.out.slots hs7.out.env.2 hs7.out.env.lt).mono ?_
          rintro e w8 ⟨av8, ac8, rfl, hI, b8, _⟩
          have hs8 := hid (hs7.out.below b8)
          have hI8 := hid (hI7.out.below b8)
          have hJ8 := hid hI
          clear hs7 hI7 b8 hI
          go_wp2_with fail
          refine (ints_same _ _ _ _ _ _ hJ8.out hI8.out).mono ?_
          rintro e w9 ⟨rfl, b9⟩
          have hs9 := hid (hs8.out.below b9)
          clear hs8 hI8 hJ8 b9
          go_wp2_with fail
          refine (sure_ok _ hs9.out.env.2 hs9.out.env.lt).mono ?_
          rintro e w10 ⟨rfl, b10⟩
          have hfin := hid (hs9.out.end_ b1 (Nat.le_refl _) b10)
          clear hs9 b10
          go_wp2_with fail
          go_ret
          exact ⟨rfl, hfin.out⟩

end Go.Proofs.YtddbeebnmjbfiaaDoor
