/- 'SlotsRuns', walked. -/
import Derived.Test.YtddbeebnmjbfiaaDoorRefC
import Derived.Deep.RegionHeld3
import Derived.Deep.CutBlock
import Derived.Test.YtddbeebnmjbfiaaDoorRegion
namespace Go.Proofs.YtddbeebnmjbfiaaDoor
open Go.RowKit

/-- '.. int(uint(z) % M)'. -/
theorem mod_nine (z : Int) : ∃ m : Nat, wrap64 ((IntKind.u64.wrap z).tmod 9) = (m : Int) ∧ m < 9 := by
  have e : (IntKind.u64.wrap z).tmod 9 = z % 18446744073709551616 % 9 := by
    rw [IntKind.wrap_u64, Int.tmod_eq_emod_of_nonneg (by omega)]
  rw [e]
  refine ⟨(z % 18446744073709551616 % 9).toNat, ?_, by omega⟩
  rw [IntWalk.wrap64_in _ ⟨by omega, by omega⟩]
  omega

theorem add_add (a : Addr) (i : Nat) : (a.add i).add 1 = a.add (i + 1) := by
  unfold Addr.add
  by_cases h : i = 0
  · subst h; simp
  · simp [h, Nat.add_assoc]

/-- Where a round stands: the Slots (by p), the document's list (by q), the act's place. -/
structure RS (lo hi sb : Nat) (w1 : World) (K : Nat) (p q : Nat → Bool) (ta : Addr) (tc ab : Nat) (z : Int) (wr : World) : Prop where
  st : St lo hi sb w1 (L K p) wr
  bools : Bools wr (some ta) tc (L K q)
  tb : hi ≤ ta.block
  cell : wr.cell? ⟨ab, 1, none⟩ = some (.int .i64 z)
  ab : hi ≤ ab

theorem RS.below {lo hi sb K tc ab : Nat} {w1 wr w' : World} {p q : Nat → Bool} {ta : Addr} {z : Int} (h : RS lo hi sb w1 K p q ta tc ab z wr) (hb : Below wr.heap.size wr w') : RS lo hi sb w1 K p q ta tc ab z w' :=
  ⟨h.st.below hb, h.bools.below hb, h.tb, (hb.cell (World.block_lt_of_cell? _ _ h.cell)).trans h.cell, h.ab⟩

theorem RS.set {lo hi sb K tc ab : Nat} {w1 wr w' : World} {p p' q : Nat → Bool} {ta : Addr} {z : Int} (h : RS lo hi sb w1 K p q ta tc ab z wr) (hs : Slots w' lo hi sb (L K p')) (hw : Within lo hi wr w') : RS lo hi sb w1 K p' q ta tc ab z w' :=
  ⟨h.st.set hs hw, h.bools.of hw (fun a e => by cases e; exact h.tb), h.tb, hw.cell h.cell (Or.inr h.ab), h.ab⟩

theorem RS.with {lo hi sb K tc tc' ab : Nat} {w1 wr w' : World} {p q q' : Nat → Bool} {ta ta' : Addr} {z : Int} (h : RS lo hi sb w1 K p q ta tc ab z wr) (hB : Bools w' (some ta') tc' (L K q')) (ht : wr.heap.size ≤ ta'.block) (hb : Below wr.heap.size wr w') :
    RS lo hi sb w1 K p q' ta' tc' ab z w' :=
  ⟨h.st.below hb, hB, Nat.le_trans h.st.slots.pos.2.2.1 ht, (hb.cell (World.block_lt_of_cell? _ _ h.cell)).trans h.cell, h.ab⟩

theorem RS.len {lo hi sb K tc ab : Nat} {w1 wr : World} {p q : Nat → Bool} {ta : Addr} {z : Int} (h : RS lo hi sb w1 K p q ta tc ab z wr) (C : Nat) (hC : (L K p).count true = C) (x : World) (hx : Below wr.heap.size wr x) :
    Calls Tryd.prog 18 #[.pointer (some ⟨sb, 0, none⟩)] x fun e w' => e = .returned (.int .i64 (C : Int)) ∧ x = w' := by
  have := len_ok _ _ _ _ _ (h.st.below hx).slots
  rw [hC] at this
  exact this

theorem RS.all {lo hi sb K tc ab : Nat} {w1 wr : World} {p q : Nat → Bool} {ta : Addr} {z : Int} (h : RS lo hi sb w1 K p q ta tc ab z wr) (hK : K ≤ 1048576) (C : Nat) (hC : (L K q).count true = C) (x : World) (hx : Below wr.heap.size wr x) :
    Calls Tryd.prog 19 #[.slice (some ta) K tc] x fun e w' => ∃ av ac, e = .returned (.slice av C ac) ∧ Below wr.heap.size wr w' := by
  have := rall_ok (some ta) tc (L K q) x (h.bools.below hx) (by simpa using hK)
  rw [L_length, places_length, hC] at this
  refine this.mono ?_
  rintro e w' ⟨av, ac, rfl, _, b, _⟩
  exact ⟨av, ac, rfl, hx.trans (b.mono hx.size)⟩

theorem RS.has {lo hi sb K tc ab : Nat} {w1 wr : World} {p q : Nat → Bool} {ta : Addr} {z : Int} (h : RS lo hi sb w1 K p q ta tc ab z wr) (a : Nat) (hz : z = (a : Int)) (ha : a < K) (b : Bool) (hb : p a = b) (x : World) (hx : Below wr.heap.size wr x) :
    Calls Tryd.prog 20 #[.pointer (some ⟨sb, 0, none⟩), .int .i64 z] x fun e w' => e = .returned (.bool b) ∧ x = w' := by
  subst hz
  exact has_at _ _ _ a _ _ (h.st.below hx).slots b ((L_is _ _ _ _).2 ⟨ha, hb⟩)

theorem RS.hasNot {lo hi sb K tc ab : Nat} {w1 wr : World} {p q : Nat → Bool} {ta : Addr} {z : Int} (h : RS lo hi sb w1 K p q ta tc ab z wr) (hz : z < 0 ∨ (K : Int) ≤ z) (x : World) (hx : Below wr.heap.size wr x) :
    Calls Tryd.prog 20 #[.pointer (some ⟨sb, 0, none⟩), .int .i64 z] x fun e w' => e = .returned (.bool false) ∧ x = w' :=
  has_far _ _ _ z _ _ (h.st.below hx).slots (by simpa using hz)

theorem RS.at_ {lo hi sb K tc ab : Nat} {w1 wr : World} {p q : Nat → Bool} {ta : Addr} {z : Int} (h : RS lo hi sb w1 K p q ta tc ab z wr) (x : World) (hx : Below wr.heap.size wr x) : x.cell? ⟨ab, 1, none⟩ = some (.int .i64 z) :=
  (h.below hx).cell

theorem RS.elem {lo hi sb K tc ab : Nat} {w1 wr : World} {p q : Nat → Bool} {ta : Addr} {z : Int} (h : RS lo hi sb w1 K p q ta tc ab z wr) (a : Nat) (ha : a < K) (b : Bool) (hb : q a = b) (x : World) (hx : Below wr.heap.size wr x) : x.cell? (ta.add a) = some (.bool b) :=
  (h.bools.below hx).cell ta rfl a b ((L_is _ _ _ _).2 ⟨ha, hb⟩)

set_option maxRecDepth 100000 in
set_option maxHeartbeats 8000000 in
theorem runs_law (n : Int) (ad : Option Addr) (zs : List (Int × Int)) (cap : Nat) (w : World) (hE : Env w) (hz : Acts w ad zs) :
    Calls Tryd.prog 3 #[.int .i64 n, .slice ad zs.length cap] w fun e w' => e = .returned (.bool true) ∧ Below w.heap.size w w' := by
  obtain ⟨K, hK, hK1, hK2⟩ := mod_up n 200 (by decide) (by decide)
  have hsz := hE.lt
  have hzl := hz.bound
  go_enter Tryd.func3, Tryd.ntmps3
  go_wp2_with fail
  rw [hK]
  refine (new_ok K _ (by omega) (by omega)).mono ?_
  rintro e w1 ⟨sb, rfl, s1, b1⟩
  rw [L_false] at s1
  have hz1 := hid hz
  have hbs := b1.size
  have hmk := make_bools K (by omega) w1
  have hst := hid ((show St w.heap.size w1.heap.size sb w1 _ w1 from ⟨s1, hE.below b1, Within.refl _ _ _, hsz⟩).below ((Below.refl w1.heap.size w1).alloc (Nat.le_refl _) (.cells (Array.replicate K (.bool false)) 4)))
  have hbm := hid (Bools.made K w1)
  clear s1 hE hz hK
  go_wp2_with fail
  clear hmk
  go_loopw [8, 9] (fun v u wr => ∃ (t : Nat) (p : Nat → Bool) (ta : Addr) (tc : Nat), t ≤ zs.length ∧ t ≤ 300 ∧ v = .slice (some ta) K tc ∧ u = .int .i64 (t : Int) ∧ Hid (St w.heap.size w1.heap.size sb w1 (L K p) wr) ∧ Hid (Bools wr (some ta) tc (L K p)) ∧ Hid (w1.heap.size ≤ ta.block))
    (fun _ u _ => 300 - (intOf u).toNat)
  case atStart => exact ⟨0, _, _, _, by omega, by omega, rfl, by go_num, hst, hbm, hid (Nat.le_refl _)⟩
  case round =>
    obtain ⟨t, p, ta, tc, ht1, ht2, rfl, rfl, hs, hB, hta⟩ := hrel
    clear hst hbm
    by_cases hgo : t < zs.length ∧ t < 300
    · obtain ⟨hgo1, hgo2⟩ := hgo
      obtain ⟨⟨kd, z⟩, hzt⟩ : ∃ y, zs[t]? = some y := ⟨_, List.getElem?_eq_getElem hgo1⟩
      cases ad with
      | none => have := hz1.out.nil rfl; subst this; simp at hgo1
      | some a0 =>
        obtain ⟨hc0, hc1⟩ := (hz1.out.below (b1.trans (hs.out.within.below (Nat.le_refl _) hbs))).cell a0 rfl t kd z hzt
        have hc2 : wr.cell? ⟨(a0.add (t * 2)).block, (a0.add (t * 2)).off + 1, none⟩ = some (.int .i64 z) := by
          show wr.cell? ((a0.add (t * 2)).add 1) = _
          rw [add_add]; exact hc1
        obtain ⟨m, hm, hm9⟩ := mod_nine kd
        have hA : Hid (RS w.heap.size w1.heap.size sb w1 K p p ta tc wr.heap.size z (wr.alloc (.cells #[.int .i64 kd, .int .i64 z] 31))) := by
          have hal := (Below.refl wr.heap.size wr).alloc (Nat.le_refl _) (.cells #[.int .i64 kd, .int .i64 z] 31)
          exact ⟨hs.out.below hal, hB.out.below hal, hta.out, by simp, hs.out.slots.pos.2.2.1⟩
        have hbk := hid hs.out.slots.pos.2.2.1
        go_upto_block 2 with fail
        rw [hm]
        clear hm
        generalize wr.alloc (.cells #[.int .i64 kd, .int .i64 z] 31) = wa at hA ⊢
        obtain ⟨ab, hab⟩ : ∃ ab, wr.heap.size = ab := ⟨_, rfl⟩
        rw [hab] at hA ⊢
        clear hc0 hc1 hc2 hzt hs hB hta hab hbk
        go_cut [8] from 36 to 158 (fun v wc => ∃ (q : Nat → Bool) (tx : Addr) (tcx : Nat), v = .slice (some tx) K tcx ∧ Hid (RS w.heap.size w1.heap.size sb w1 K q q tx tcx ab z wc))
        case first =>
          rcases Nat.lt_or_ge m 4 with hm4 | hm4
          · by_cases hfree : ∃ x, Least (fun i => (L K p)[i]? = some false) 0 x
            · obtain ⟨x, hx⟩ := hfree
              have hxh := hid hx
              have hxK : x < K := ((L_is _ _ _ _).1 (show (L K p)[x]? = some false from hx.1)).1
              clear hx
              go_wp2_with fail
              refine (take_hit _ _ _ x _ _ hA.out.st.slots hA.out.st.env.2 hxh.out).mono ?_
              rintro e w2 ⟨rfl, s2, v2⟩
              rw [L_set (x := x) (b := true) (q := fun j => if j = x then true else p j) hxK (by simp) (fun j _ hj => by simp [hj])] at s2
              have hA2 := hid (hA.out.set s2 v2)
              clear hA s2 v2
              have hrt := rtake_hit (some ta) tc (L K p) x w2 hA2.out.bools (by simp; omega) hxh.out
              rw [L_length] at hrt
              go_wp2_with fail
              refine hrt.mono ?_
              rintro e w' ⟨rfl, rfl⟩
              clear hrt
              have hwc := with_ok (some ta) tc (L K p) x true w2 hA2.out.bools (by simpa using hxK) (by simp; omega)
              rw [L_length, L_set (x := x) (b := true) (q := fun j => if j = x then true else p j) hxK (by simp) (fun j _ hj => by simp [hj])] at hwc
              go_wp2_with fail
              refine hwc.mono ?_
              rintro e w3 ⟨ta3, tc3, rfl, hB3, hta3, b3⟩
              have hA3 := hid (hA2.out.with hB3 hta3 b3)
              clear hwc hB3 hta3 b3 hA2 hxh
              go_wp2_with fail
              go_meet
              case rel => exact ⟨_, ta3, tc3, rfl, hA3⟩
            · have hno : ∀ x : Nat, ¬ (L K p)[x]? = some false := fun x hx => hfree (least_is x hx (Nat.zero_le _))
              have hnoh := hid hno
              clear hno hfree
              go_wp2_with fail
              refine (take_full _ _ _ _ _ hA.out.st.slots hA.out.st.env.2 hnoh.out).mono ?_
              rintro e w' ⟨rfl, rfl⟩
              have hrt := rtake_miss (some ta) tc (L K p) wa hA.out.bools (by simp; omega) hnoh.out
              rw [L_length] at hrt
              go_wp2_with fail
              refine hrt.mono ?_
              rintro e w' ⟨rfl, rfl⟩
              clear hrt
              go_wp2_with fail
              refine (num_err 16 _ hA.out.st.env.1).mono ?_
              rintro e w2 ⟨rfl, b2⟩
              have hA2 := hid (hA.out.below b2)
              clear hA b2 hnoh
              go_wp2_with fail
              go_meet
              case rel => exact ⟨_, ta, tc, rfl, hA2⟩
          · rcases Nat.lt_or_ge m 6 with hm6 | hm6
            · by_cases hin : 0 ≤ z ∧ z < K
              · obtain ⟨a, ha⟩ : ∃ a : Nat, z = (a : Int) := ⟨z.toNat, by omega⟩
                have haK : a < K := by omega
                clear hin
                subst ha
                have hcell := hA.out.cell
                have hr := rclaim_in (some ta) tc (L K p) a (p a) wa hA.out.bools (by simp; omega) ((L_is _ _ _ _).2 ⟨haK, rfl⟩)
                rw [L_length] at hr
                cases hpa : p a with
                | false =>
                  rw [hpa] at hr
                  have hpah := hid hpa
                  clear hpa
                  go_wp2_with fail
                  refine hr.mono ?_
                  rintro e w' ⟨rfl, rfl⟩
                  clear hr
                  go_wp2_with fail
                  refine (claim_ok _ _ _ a _ _ hA.out.st.slots ((L_is _ _ _ _).2 ⟨haK, hpah.out⟩)).mono ?_
                  rintro e w2 ⟨rfl, s2, v2⟩
                  rw [L_set (x := a) (b := true) (q := fun j => if j = a then true else p j) haK (by simp) (fun j _ hj => by simp [hj])] at s2
                  have hA2 := hid (hA.out.set s2 v2)
                  clear hA s2 v2 hcell
                  go_wp2_with fail
                  refine (num_nil _).mono ?_
                  rintro e w3 ⟨rfl, b3⟩
                  have hA3 := hid (hA2.out.below b3)
                  clear hA2 b3
                  have hcell := hA3.out.cell
                  have hwc := with_ok (some ta) tc (L K p) a true w3 hA3.out.bools (by simpa using haK) (by simp; omega)
                  rw [L_length, L_set (x := a) (b := true) (q := fun j => if j = a then true else p j) haK (by simp) (fun j _ hj => by simp [hj])] at hwc
                  go_wp2_with fail
                  refine hwc.mono ?_
                  rintro e w4 ⟨ta3, tc3, rfl, hB3, hta3, b3⟩
                  have hA4 := hid (hA3.out.with hB3 hta3 b3)
                  clear hwc hB3 hta3 b3 hA3 hcell
                  go_wp2_with fail
                  go_meet
                  case rel => exact ⟨_, ta3, tc3, rfl, hA4⟩
                | true =>
                  rw [hpa] at hr
                  have hpah := hid hpa
                  clear hpa
                  go_wp2_with fail
                  refine hr.mono ?_
                  rintro e w' ⟨rfl, rfl⟩
                  clear hr
                  go_wp2_with fail
                  refine (claim_same _ _ _ a _ _ hA.out.st.slots ((L_is _ _ _ _).2 ⟨haK, hpah.out⟩)).mono ?_
                  rintro e w' ⟨rfl, rfl⟩
                  go_wp2_with fail
                  refine (num_err 20 _ hA.out.st.env.1).mono ?_
                  rintro e w3 ⟨rfl, b3⟩
                  have hA3 := hid (hA.out.below b3)
                  clear hA b3 hcell
                  go_wp2_with fail
                  go_meet
                  case rel => exact ⟨_, ta, tc, rfl, hA3⟩
              · have hout : z < 0 ∨ (K : Int) ≤ z := by omega
                have houth := hid hout
                have hcell := hA.out.cell
                have hr := rclaim_out (some ta) tc (L K p) z wa (by simp; omega) (by simpa using hout)
                rw [L_length] at hr
                clear hin hout
                go_wp2_with fail
                refine hr.mono ?_
                rintro e w' ⟨rfl, rfl⟩
                clear hr
                go_wp2_with fail
                refine (claim_out _ _ _ z _ _ hA.out.st.slots (by simpa using houth.out)).mono ?_
                rintro e w' ⟨rfl, rfl⟩
                go_wp2_with fail
                refine (num_err 12 _ hA.out.st.env.1).mono ?_
                rintro e w3 ⟨rfl, b3⟩
                have hA3 := hid (hA.out.below b3)
                clear hA b3 hcell
                go_wp2_with fail
                go_meet
                case rel => exact ⟨_, ta, tc, rfl, hA3⟩
            · by_cases hin : 0 ≤ z ∧ z < K
              · obtain ⟨a, ha⟩ : ∃ a : Nat, z = (a : Int) := ⟨z.toNat, by omega⟩
                have haK : a < K := by omega
                clear hin
                subst ha
                have hcell := hA.out.cell
                have hr := rfree_in (some ta) tc (L K p) a (p a) wa hA.out.bools (by simp; omega) ((L_is _ _ _ _).2 ⟨haK, rfl⟩)
                rw [L_length] at hr
                cases hpa : p a with
                | true =>
                  rw [hpa] at hr
                  have hpah := hid hpa
                  clear hpa
                  go_wp2_with fail
                  refine hr.mono ?_
                  rintro e w' ⟨rfl, rfl⟩
                  clear hr
                  go_wp2_with fail
                  refine (free_hit _ _ _ a _ _ hA.out.st.slots ((L_is _ _ _ _).2 ⟨haK, hpah.out⟩)).mono ?_
                  rintro e w2 ⟨rfl, s2, v2⟩
                  rw [L_set (x := a) (b := false) (q := fun j => if j = a then false else p j) haK (by simp) (fun j _ hj => by simp [hj])] at s2
                  have hA2 := hid (hA.out.set s2 v2)
                  clear hA s2 v2 hcell
                  go_wp2_with fail
                  refine (num_nil _).mono ?_
                  rintro e w3 ⟨rfl, b3⟩
                  have hA3 := hid (hA2.out.below b3)
                  clear hA2 b3
                  have hcell := hA3.out.cell
                  have hwc := with_ok (some ta) tc (L K p) a false w3 hA3.out.bools (by simpa using haK) (by simp; omega)
                  rw [L_length, L_set (x := a) (b := false) (q := fun j => if j = a then false else p j) haK (by simp) (fun j _ hj => by simp [hj])] at hwc
                  go_wp2_with fail
                  refine hwc.mono ?_
                  rintro e w4 ⟨ta3, tc3, rfl, hB3, hta3, b3⟩
                  have hA4 := hid (hA3.out.with hB3 hta3 b3)
                  clear hwc hB3 hta3 b3 hA3 hcell
                  go_wp2_with fail
                  go_meet
                  case rel => exact ⟨_, ta3, tc3, rfl, hA4⟩
                | false =>
                  rw [hpa] at hr
                  have hpah := hid hpa
                  clear hpa
                  go_wp2_with fail
                  refine hr.mono ?_
                  rintro e w' ⟨rfl, rfl⟩
                  clear hr
                  go_wp2_with fail
                  refine (free_apart _ _ _ a _ _ hA.out.st.slots ((L_is _ _ _ _).2 ⟨haK, hpah.out⟩)).mono ?_
                  rintro e w' ⟨rfl, rfl⟩
                  go_wp2_with fail
                  refine (num_err 21 _ hA.out.st.env.1).mono ?_
                  rintro e w3 ⟨rfl, b3⟩
                  have hA3 := hid (hA.out.below b3)
                  clear hA b3 hcell
                  go_wp2_with fail
                  go_meet
                  case rel => exact ⟨_, ta, tc, rfl, hA3⟩
              · have hout : z < 0 ∨ (K : Int) ≤ z := by omega
                have houth := hid hout
                have hcell := hA.out.cell
                have hr := rfree_out (some ta) tc (L K p) z wa (by simp; omega) (by simpa using hout)
                rw [L_length] at hr
                clear hin hout
                go_wp2_with fail
                refine hr.mono ?_
                rintro e w' ⟨rfl, rfl⟩
                clear hr
                go_wp2_with fail
                refine (free_out _ _ _ z _ _ hA.out.st.slots (by simpa using houth.out)).mono ?_
                rintro e w' ⟨rfl, rfl⟩
                go_wp2_with fail
                refine (num_err 12 _ hA.out.st.env.1).mono ?_
                rintro e w3 ⟨rfl, b3⟩
                have hA3 := hid (hA.out.below b3)
                clear hA b3 hcell
                go_wp2_with fail
                go_meet
                case rel => exact ⟨_, ta, tc, rfl, hA3⟩
        case rest =>
          obtain ⟨q, tx, tcx, rfl, hA⟩ := hcut
          obtain ⟨C, hC⟩ : ∃ C, (L K q).count true = C := ⟨_, rfl⟩
          have HL := hid (hA.out.len C hC)
          have HA := hid (hA.out.all (by omega) C hC)
          by_cases hin : 0 ≤ z ∧ z < K
          · obtain ⟨a, ha⟩ : ∃ a : Nat, z = (a : Int) := ⟨z.toNat, by omega⟩
            have haK : a < K := by omega
            obtain ⟨b, hb⟩ : ∃ b, q a = b := ⟨_, rfl⟩
            have HH := hid (hA.out.has a ha haK b hb)
            have HS : Hid (∀ x', Below wc.heap.size wc x' → Below wc.heap.size wc x' ∧ x'.cell? ⟨ab, 1, none⟩ = some (.int .i64 z) ∧ x'.cell? (tx.add a) = some (.bool b)) := fun x' hx' => ⟨hx', hA.out.at_ x' hx', hA.out.elem a haK b hb x' hx'⟩
            clear hC hb hin
            subst ha
            go_wp2_with fail
            go_region_held3 (fun x' => Below wc.heap.size wc x' ∧ x'.cell? ⟨ab, 1, none⟩ = some (.int .i64 (a : Int)) ∧ x'.cell? (tx.add a) = some (.bool b))
              (first | exact HS.out _ (Below.refl _ _).drew | exact HS.out _ (Below.refl _ _) | assumption | exact HS.out _ (by assumption))
              (first
              | (go_at_call 18; refine (HL.out _ (by first | assumption | exact (And.left (by assumption)))).mono ?_; rintro e w' ⟨rfl, rfl⟩)
              | (go_at_call 19; refine (HA.out _ (by first | assumption | exact (And.left (by assumption)))).mono ?_; rintro e w4 ⟨av, ac, rfl, b4⟩)
              | (go_at_call 20; refine (HH.out _ (by first | assumption | exact (And.left (by assumption)))).mono ?_; rintro e w' ⟨rfl, rfl⟩))
            all_goals
              have hA4 := hid (hA.out.below b4)
              clear HL HA HH HS hA
              go_wp2_with fail
              go_roundw
              case rel => exact ⟨t + 1, q, tx, tcx, by omega, by omega, rfl, by go_num, hid hA4.out.st, hid hA4.out.bools, hid hA4.out.tb⟩
              case measure => simp [intOf]; omega
          · have hout : z < 0 ∨ (K : Int) ≤ z := by omega
            by_cases hneg : z < 0
            · have HH := hid (hA.out.hasNot hout)
              have hcz := hA.out.cell
              have HC := hid (fun x' hx' => hA.out.at_ x' hx')
              have hd1 : decide (0 ≤ z) = false := decide_eq_false (by omega)
              have hd2 : decide (z < 0) = true := decide_eq_true (by omega)
              clear hC hin hout
              go_wp2_with fail
              refine wp_region_noPanic ?_
              refine wp_region_held_drew (S := fun w' => w'.cell? ⟨ab, 1, none⟩ = some (.int .i64 z)) (by kernel_rfl) (hcz) (fun hHeld => ?_)
              refine takeH (i := 0) (v := ?_) (a' := ?_) ({ dst := some 130, op := Op.move (Operand.tmp 6), type := 24, pos := "law.go:91", after := #[], guard := none }) rfl (by kernel_rfl) (by kernel_rfl) (by kernel_rfl) (fun _ _ _ h => h) (by rfl) ?_ (by assumption) ?_ ?_
              rotate_left 2
              · (intro w' hSw; go_simp; try with_reducible rfl)
              · (simp only [Act.put, List.setIfInBounds_toArray, List.set_cons_zero, List.set_cons_succ]; try rfl)
              refine takeH (i := 2) (v := ?_) (a' := ?_) ({ dst := some 132, op := Op.move (Operand.tmp 8), type := 29, pos := "law.go:91", after := #[], guard := none }) rfl (by kernel_rfl) (by kernel_rfl) (by kernel_rfl) (fun _ _ _ h => h) (by rfl) ?_ (by assumption) ?_ ?_
              rotate_left 2
              · (intro w' hSw; go_simp; try with_reducible rfl)
              · (simp only [Act.put, List.setIfInBounds_toArray, List.set_cons_zero, List.set_cons_succ]; try rfl)
              refine wpAnyH_ready (rs := [1]) (by kernel_rfl) (by simp) ?_
              refine AllReadyH.cons (o := { dst := some 131, op := Op.call { callee := Callee.value (Operand.func 18), args := #[Operand.tmp 130], argTypes := #[24] }, type := 3, pos := "law.go:91", after := #[{ on := 0, ground := Ground.data }], guard := none }) rfl (fun K hK => ?_) AllReadyH.nil
              go_simp
              refine (HL.out _ (Below.refl _ _).drew).mono ?_
              rintro e w' ⟨rfl, rfl⟩
              go_wp2_with fail
              refine hK.out _ _ (hcz) (fun hHeld => ?_)
              clear hK K
              try simp only [Act.put, List.setIfInBounds_toArray, List.set_cons_zero, List.set_cons_succ]
              refine wpAnyH_ready (rs := [3]) (by kernel_rfl) (by simp) ?_
              refine AllReadyH.cons (o := { dst := some 133, op := Op.call { callee := Callee.value (Operand.func 19), args := #[Operand.tmp 132], argTypes := #[29] }, type := 41, pos := "law.go:91", after := #[{ on := 2, ground := Ground.data }, { on := 1, ground := Ground.chain }], guard := none }) rfl (fun K hK => ?_) AllReadyH.nil
              go_simp
              refine (HA.out _ (Below.refl _ _).drew).mono ?_
              rintro e w4 ⟨av, ac, rfl, b4⟩
              go_wp2_with fail
              refine hK.out _ _ (HC.out _ b4) (fun hHeld => ?_)
              clear hK K
              try simp only [Act.put, List.setIfInBounds_toArray, List.set_cons_zero, List.set_cons_succ]
              refine takeH (i := 4) (v := ?_) (a' := ?_) ({ dst := some 134, op := Op.call { callee := Callee.builtin Builtin.len, args := #[Operand.tmp 133], argTypes := #[41] }, type := 3, pos := "law.go:91", after := #[{ on := 3, ground := Ground.data }], guard := none }) rfl (by kernel_rfl) (by kernel_rfl) (by kernel_rfl) (fun _ _ _ h => h) (by rfl) ?_ (by assumption) ?_ ?_
              rotate_left 2
              · (intro w' hSw; go_simp; try with_reducible rfl)
              · (simp only [Act.put, List.setIfInBounds_toArray, List.set_cons_zero, List.set_cons_succ]; try rfl)
              refine takeH (i := 5) (v := ?_) (a' := ?_) ({ dst := some 135, op := Op.binOp BinOp.neq 3 (Operand.tmp 131) (Operand.tmp 134) 3, type := 4, pos := "law.go:91", after := #[{ on := 1, ground := Ground.data }, { on := 4, ground := Ground.data }], guard := none }) rfl (by kernel_rfl) (by kernel_rfl) (by kernel_rfl) (fun _ _ _ h => h) (by rfl) ?_ (by assumption) ?_ ?_
              rotate_left 2
              · (intro w' hSw; go_simp; try with_reducible rfl)
              · (simp only [Act.put, List.setIfInBounds_toArray, List.set_cons_zero, List.set_cons_succ]; try rfl)
              refine takeH (i := 6) (v := ?_) (a' := ?_) ({ dst := some 136, op := Op.move (Operand.tmp 135), type := 4, pos := "law.go:91", after := #[{ on := 5, ground := Ground.data }, { on := 3, ground := Ground.chain }], guard := none }) rfl (by kernel_rfl) (by kernel_rfl) (by kernel_rfl) (fun _ _ _ h => h) (by rfl) ?_ (by assumption) ?_ ?_
              rotate_left 2
              · (intro w' hSw; go_simp; try with_reducible rfl)
              · (simp only [Act.put, List.setIfInBounds_toArray, List.set_cons_zero, List.set_cons_succ]; try rfl)
              refine takeH (i := 7) (v := ?_) (a' := ?_) ({ dst := some 137, op := Op.move (Operand.tmp 6), type := 24, pos := "law.go:91", after := #[{ on := 6, ground := Ground.guard }], guard := some (6, false) }) rfl (by kernel_rfl) (by kernel_rfl) (by kernel_rfl) (fun _ _ _ h => h) (by rfl) ?_ (by assumption) ?_ ?_
              rotate_left 2
              · (intro w' hSw; go_simp; try with_reducible rfl)
              · (simp only [Act.put, List.setIfInBounds_toArray, List.set_cons_zero, List.set_cons_succ]; try rfl)
              refine takeH (i := 8) (v := ?_) (a' := ?_) ({ dst := some 138, op := Op.fieldAddr 31 (Operand.tmp 10) 1, type := 0, pos := "law.go:91", after := #[{ on := 6, ground := Ground.guard }], guard := some (6, false) }) rfl (by kernel_rfl) (by kernel_rfl) (by kernel_rfl) (fun _ _ _ h => h) (by rfl) ?_ (by assumption) ?_ ?_
              rotate_left 2
              · (intro w' hSw; go_simp; try with_reducible rfl)
              · (simp only [Act.put, List.setIfInBounds_toArray, List.set_cons_zero, List.set_cons_succ]; try rfl)
              refine takeH (i := 9) (v := ?_) (a' := ?_) ({ dst := some 139, op := Op.load 3 (Operand.tmp 138), type := 3, pos := "law.go:91", after := #[{ on := 8, ground := Ground.data }, { on := 6, ground := Ground.guard }], guard := some (6, false) }) rfl (by kernel_rfl) (by kernel_rfl) (by kernel_rfl) (fun _ _ _ h => h) (by rfl) ?_ (by assumption) ?_ ?_
              rotate_left 2
              · (intro w' hSw; go_simp; try with_reducible rfl)
              · (simp only [Act.put, List.setIfInBounds_toArray, List.set_cons_zero, List.set_cons_succ]; try rfl)
              refine takeH (i := 11) (v := ?_) (a' := ?_) ({ dst := some 141, op := Op.fieldAddr 31 (Operand.tmp 10) 1, type := 0, pos := "law.go:91", after := #[{ on := 6, ground := Ground.guard }], guard := some (6, false) }) rfl (by kernel_rfl) (by kernel_rfl) (by kernel_rfl) (fun _ _ _ h => h) (by rfl) ?_ (by assumption) ?_ ?_
              rotate_left 2
              · (intro w' hSw; go_simp; try with_reducible rfl)
              · (simp only [Act.put, List.setIfInBounds_toArray, List.set_cons_zero, List.set_cons_succ]; try rfl)
              refine takeH (i := 12) (v := ?_) (a' := ?_) ({ dst := some 142, op := Op.load 3 (Operand.tmp 141), type := 3, pos := "law.go:91", after := #[{ on := 11, ground := Ground.data }, { on := 6, ground := Ground.guard }], guard := some (6, false) }) rfl (by kernel_rfl) (by kernel_rfl) (by kernel_rfl) (fun _ _ _ h => h) (by rfl) ?_ (by assumption) ?_ ?_
              rotate_left 2
              · (intro w' hSw; go_simp; try with_reducible rfl)
              · (simp only [Act.put, List.setIfInBounds_toArray, List.set_cons_zero, List.set_cons_succ]; try rfl)
              refine takeH (i := 13) (v := ?_) (a' := ?_) ({ dst := some 143, op := Op.binOp BinOp.geq 3 (Operand.tmp 142) (Operand.const (Value.int IntKind.i64 0)) 3, type := 4, pos := "law.go:91", after := #[{ on := 12, ground := Ground.data }, { on := 6, ground := Ground.guard }], guard := some (6, false) }) rfl (by kernel_rfl) (by kernel_rfl) (by kernel_rfl) (fun _ _ _ h => h) (by rfl) ?_ (by assumption) ?_ ?_
              rotate_left 2
              · (intro w' hSw; go_simp; try with_reducible rfl)
              · (simp only [Act.put, List.setIfInBounds_toArray, List.set_cons_zero, List.set_cons_succ]; try rfl)
              refine wpAnyH_ready (rs := [10]) (by kernel_rfl) (by simp) ?_
              refine AllReadyH.cons (o := { dst := some 140, op := Op.call { callee := Callee.value (Operand.func 20), args := #[Operand.tmp 137, Operand.tmp 139], argTypes := #[24, 3] }, type := 4, pos := "law.go:91", after := #[{ on := 7, ground := Ground.data }, { on := 9, ground := Ground.data }, { on := 6, ground := Ground.chain }, { on := 6, ground := Ground.guard }], guard := some (6, false) }) rfl (fun K hK => ?_) AllReadyH.nil
              go_simp
              refine (HH.out _ b4).mono ?_
              rintro e w' ⟨rfl, rfl⟩
              go_wp2_with fail
              refine hK.out _ _ (HC.out _ b4) (fun hHeld => ?_)
              clear hK K
              try simp only [Act.put, List.setIfInBounds_toArray, List.set_cons_zero, List.set_cons_succ]
              refine takeH (i := 14) (v := ?_) (a' := ?_) ({ dst := some 144, op := Op.move (Operand.tmp 143), type := 4, pos := "law.go:91", after := #[{ on := 13, ground := Ground.data }, { on := 10, ground := Ground.chain }, { on := 6, ground := Ground.guard }], guard := some (6, false) }) rfl (by kernel_rfl) (by kernel_rfl) (by kernel_rfl) (fun _ _ _ h => h) (by rfl) ?_ (by assumption) ?_ ?_
              rotate_left 2
              · (intro w' hSw; go_simp; try with_reducible rfl)
              · (simp only [Act.put, List.setIfInBounds_toArray, List.set_cons_zero, List.set_cons_succ]; try rfl)
              refine skipH (i := 15) (a' := ?_) ({ dst := some 145, op := Op.fieldAddr 31 (Operand.tmp 10) 1, type := 0, pos := "law.go:91", after := #[{ on := 14, ground := Ground.guard }], guard := some (14, true) }) rfl (by kernel_rfl) (by kernel_rfl) (by kernel_rfl) (fun _ _ _ h => h) (by rfl) (by assumption) ?_ ?_
              rotate_left 1
              · (simp only [Act.put, List.setIfInBounds_toArray, List.set_cons_zero, List.set_cons_succ]; try rfl)
              refine skipH (i := 16) (a' := ?_) ({ dst := some 146, op := Op.load 3 (Operand.tmp 145), type := 3, pos := "law.go:91", after := #[{ on := 15, ground := Ground.data }, { on := 14, ground := Ground.guard }], guard := some (14, true) }) rfl (by kernel_rfl) (by kernel_rfl) (by kernel_rfl) (fun _ _ _ h => h) (by rfl) (by assumption) ?_ ?_
              rotate_left 1
              · (simp only [Act.put, List.setIfInBounds_toArray, List.set_cons_zero, List.set_cons_succ]; try rfl)
              refine skipH (i := 17) (a' := ?_) ({ dst := some 147, op := Op.move (Operand.tmp 5), type := 3, pos := "law.go:91", after := #[{ on := 14, ground := Ground.guard }], guard := some (14, true) }) rfl (by kernel_rfl) (by kernel_rfl) (by kernel_rfl) (fun _ _ _ h => h) (by rfl) (by assumption) ?_ ?_
              rotate_left 1
              · (simp only [Act.put, List.setIfInBounds_toArray, List.set_cons_zero, List.set_cons_succ]; try rfl)
              refine skipH (i := 18) (a' := ?_) ({ dst := some 148, op := Op.binOp BinOp.lss 3 (Operand.tmp 146) (Operand.tmp 147) 3, type := 4, pos := "law.go:91", after := #[{ on := 16, ground := Ground.data }, { on := 17, ground := Ground.data }, { on := 14, ground := Ground.guard }], guard := some (14, true) }) rfl (by kernel_rfl) (by kernel_rfl) (by kernel_rfl) (fun _ _ _ h => h) (by rfl) (by assumption) ?_ ?_
              rotate_left 1
              · (simp only [Act.put, List.setIfInBounds_toArray, List.set_cons_zero, List.set_cons_succ]; try rfl)
              refine takeH (i := 19) (v := ?_) (a' := ?_) ({ dst := some 149, op := Op.pick (Operand.tmp 144) (Operand.tmp 148) (Operand.const (Value.bool false)), type := 4, pos := "law.go:91", after := #[{ on := 14, ground := Ground.data }, { on := 18, ground := Ground.data }, { on := 6, ground := Ground.guard }], guard := some (6, false) }) rfl (by kernel_rfl) (by kernel_rfl) (by kernel_rfl) (fun _ _ _ h => h) (by rfl) ?_ (by assumption) ?_ ?_
              rotate_left 2
              · (intro w' hSw; go_simp; try with_reducible rfl)
              · (simp only [Act.put, List.setIfInBounds_toArray, List.set_cons_zero, List.set_cons_succ]; try rfl)
              refine takeH (i := 20) (v := ?_) (a' := ?_) ({ dst := some 150, op := Op.move (Operand.tmp 149), type := 4, pos := "law.go:91", after := #[{ on := 19, ground := Ground.data }, { on := 14, ground := Ground.chain }, { on := 6, ground := Ground.guard }], guard := some (6, false) }) rfl (by kernel_rfl) (by kernel_rfl) (by kernel_rfl) (fun _ _ _ h => h) (by rfl) ?_ (by assumption) ?_ ?_
              rotate_left 2
              · (intro w' hSw; go_simp; try with_reducible rfl)
              · (simp only [Act.put, List.setIfInBounds_toArray, List.set_cons_zero, List.set_cons_succ]; try rfl)
              refine skipH (i := 21) (a' := ?_) ({ dst := some 151, op := Op.move (Operand.tmp 8), type := 29, pos := "law.go:91", after := #[{ on := 20, ground := Ground.guard }], guard := some (20, true) }) rfl (by kernel_rfl) (by kernel_rfl) (by kernel_rfl) (fun _ _ _ h => h) (by rfl) (by assumption) ?_ ?_
              rotate_left 1
              · (simp only [Act.put, List.setIfInBounds_toArray, List.set_cons_zero, List.set_cons_succ]; try rfl)
              refine skipH (i := 22) (a' := ?_) ({ dst := some 152, op := Op.fieldAddr 31 (Operand.tmp 10) 1, type := 0, pos := "law.go:91", after := #[{ on := 20, ground := Ground.guard }], guard := some (20, true) }) rfl (by kernel_rfl) (by kernel_rfl) (by kernel_rfl) (fun _ _ _ h => h) (by rfl) (by assumption) ?_ ?_
              rotate_left 1
              · (simp only [Act.put, List.setIfInBounds_toArray, List.set_cons_zero, List.set_cons_succ]; try rfl)
              refine skipH (i := 23) (a' := ?_) ({ dst := some 153, op := Op.load 3 (Operand.tmp 152), type := 3, pos := "law.go:91", after := #[{ on := 22, ground := Ground.data }, { on := 20, ground := Ground.guard }], guard := some (20, true) }) rfl (by kernel_rfl) (by kernel_rfl) (by kernel_rfl) (fun _ _ _ h => h) (by rfl) (by assumption) ?_ ?_
              rotate_left 1
              · (simp only [Act.put, List.setIfInBounds_toArray, List.set_cons_zero, List.set_cons_succ]; try rfl)
              refine skipH (i := 24) (a' := ?_) ({ dst := some 154, op := Op.indexAddr 29 (Operand.tmp 151) (Operand.tmp 153), type := 0, pos := "law.go:91", after := #[{ on := 21, ground := Ground.data }, { on := 23, ground := Ground.data }, { on := 20, ground := Ground.guard }], guard := some (20, true) }) rfl (by kernel_rfl) (by kernel_rfl) (by kernel_rfl) (fun _ _ _ h => h) (by rfl) (by assumption) ?_ ?_
              rotate_left 1
              · (simp only [Act.put, List.setIfInBounds_toArray, List.set_cons_zero, List.set_cons_succ]; try rfl)
              refine skipH (i := 25) (a' := ?_) ({ dst := some 155, op := Op.load 4 (Operand.tmp 154), type := 4, pos := "law.go:91", after := #[{ on := 24, ground := Ground.data }, { on := 20, ground := Ground.guard }], guard := some (20, true) }) rfl (by kernel_rfl) (by kernel_rfl) (by kernel_rfl) (fun _ _ _ h => h) (by rfl) (by assumption) ?_ ?_
              rotate_left 1
              · (simp only [Act.put, List.setIfInBounds_toArray, List.set_cons_zero, List.set_cons_succ]; try rfl)
              refine takeH (i := 26) (v := ?_) (a' := ?_) ({ dst := some 156, op := Op.pick (Operand.tmp 150) (Operand.tmp 155) (Operand.const (Value.bool false)), type := 4, pos := "law.go:91", after := #[{ on := 20, ground := Ground.data }, { on := 25, ground := Ground.data }, { on := 6, ground := Ground.guard }], guard := some (6, false) }) rfl (by kernel_rfl) (by kernel_rfl) (by kernel_rfl) (fun _ _ _ h => h) (by rfl) ?_ (by assumption) ?_ ?_
              rotate_left 2
              · (intro w' hSw; go_simp; try with_reducible rfl)
              · (simp only [Act.put, List.setIfInBounds_toArray, List.set_cons_zero, List.set_cons_succ]; try rfl)
              refine takeH (i := 27) (v := ?_) (a' := ?_) ({ dst := some 157, op := Op.binOp BinOp.neq 4 (Operand.tmp 140) (Operand.tmp 156) 4, type := 4, pos := "law.go:91", after := #[{ on := 10, ground := Ground.data }, { on := 26, ground := Ground.data }, { on := 6, ground := Ground.guard }], guard := some (6, false) }) rfl (by kernel_rfl) (by kernel_rfl) (by kernel_rfl) (fun _ _ _ h => h) (by rfl) ?_ (by assumption) ?_ ?_
              rotate_left 2
              · (intro w' hSw; go_simp; try with_reducible rfl)
              · (simp only [Act.put, List.setIfInBounds_toArray, List.set_cons_zero, List.set_cons_succ]; try rfl)
              refine takeH (i := 28) (v := ?_) (a' := ?_) ({ dst := some 158, op := Op.pick (Operand.tmp 136) (Operand.const (Value.bool true)) (Operand.tmp 157), type := 4, pos := "law.go:91", after := #[{ on := 6, ground := Ground.data }, { on := 27, ground := Ground.data }], guard := none }) rfl (by kernel_rfl) (by kernel_rfl) (by kernel_rfl) (fun _ _ _ h => h) (by rfl) ?_ (by assumption) ?_ ?_
              rotate_left 2
              · (intro w' hSw; go_simp; try with_reducible rfl)
              · (simp only [Act.put, List.setIfInBounds_toArray, List.set_cons_zero, List.set_cons_succ]; try rfl)
              refine wpAnyH_done (by kernel_rfl) ?_ _
              refine NoPanic.normal ?_
              have hA4 := hid (hA.out.below b4)
              clear HL HA HH HC hA
              go_wp2_with fail
              go_roundw
              case rel => exact ⟨t + 1, q, tx, tcx, by omega, by omega, rfl, by go_num, hid hA4.out.st, hid hA4.out.bools, hid hA4.out.tb⟩
              case measure => simp [intOf]; omega
            · have HH := hid (hA.out.hasNot hout)
              have hcz := hA.out.cell
              have HC := hid (fun x' hx' => hA.out.at_ x' hx')
              have hd1 : decide (0 ≤ z) = true := decide_eq_true (by omega)
              have hd2 : decide (z < (K : Int)) = false := decide_eq_false (by omega)
              clear hC hin hout
              go_wp2_with fail
              refine wp_region_noPanic ?_
              refine wp_region_held_drew (S := fun w' => w'.cell? ⟨ab, 1, none⟩ = some (.int .i64 z)) (by kernel_rfl) (hcz) (fun hHeld => ?_)
              refine takeH (i := 0) (v := ?_) (a' := ?_) ({ dst := some 130, op := Op.move (Operand.tmp 6), type := 24, pos := "law.go:91", after := #[], guard := none }) rfl (by kernel_rfl) (by kernel_rfl) (by kernel_rfl) (fun _ _ _ h => h) (by rfl) ?_ (by assumption) ?_ ?_
              rotate_left 2
              · (intro w' hSw; go_simp; try with_reducible rfl)
              · (simp only [Act.put, List.setIfInBounds_toArray, List.set_cons_zero, List.set_cons_succ]; try rfl)
              refine takeH (i := 2) (v := ?_) (a' := ?_) ({ dst := some 132, op := Op.move (Operand.tmp 8), type := 29, pos := "law.go:91", after := #[], guard := none }) rfl (by kernel_rfl) (by kernel_rfl) (by kernel_rfl) (fun _ _ _ h => h) (by rfl) ?_ (by assumption) ?_ ?_
              rotate_left 2
              · (intro w' hSw; go_simp; try with_reducible rfl)
              · (simp only [Act.put, List.setIfInBounds_toArray, List.set_cons_zero, List.set_cons_succ]; try rfl)
              refine wpAnyH_ready (rs := [1]) (by kernel_rfl) (by simp) ?_
              refine AllReadyH.cons (o := { dst := some 131, op := Op.call { callee := Callee.value (Operand.func 18), args := #[Operand.tmp 130], argTypes := #[24] }, type := 3, pos := "law.go:91", after := #[{ on := 0, ground := Ground.data }], guard := none }) rfl (fun K hK => ?_) AllReadyH.nil
              go_simp
              refine (HL.out _ (Below.refl _ _).drew).mono ?_
              rintro e w' ⟨rfl, rfl⟩
              go_wp2_with fail
              refine hK.out _ _ (hcz) (fun hHeld => ?_)
              clear hK K
              try simp only [Act.put, List.setIfInBounds_toArray, List.set_cons_zero, List.set_cons_succ]
              refine wpAnyH_ready (rs := [3]) (by kernel_rfl) (by simp) ?_
              refine AllReadyH.cons (o := { dst := some 133, op := Op.call { callee := Callee.value (Operand.func 19), args := #[Operand.tmp 132], argTypes := #[29] }, type := 41, pos := "law.go:91", after := #[{ on := 2, ground := Ground.data }, { on := 1, ground := Ground.chain }], guard := none }) rfl (fun K hK => ?_) AllReadyH.nil
              go_simp
              refine (HA.out _ (Below.refl _ _).drew).mono ?_
              rintro e w4 ⟨av, ac, rfl, b4⟩
              go_wp2_with fail
              refine hK.out _ _ (HC.out _ b4) (fun hHeld => ?_)
              clear hK K
              try simp only [Act.put, List.setIfInBounds_toArray, List.set_cons_zero, List.set_cons_succ]
              refine takeH (i := 4) (v := ?_) (a' := ?_) ({ dst := some 134, op := Op.call { callee := Callee.builtin Builtin.len, args := #[Operand.tmp 133], argTypes := #[41] }, type := 3, pos := "law.go:91", after := #[{ on := 3, ground := Ground.data }], guard := none }) rfl (by kernel_rfl) (by kernel_rfl) (by kernel_rfl) (fun _ _ _ h => h) (by rfl) ?_ (by assumption) ?_ ?_
              rotate_left 2
              · (intro w' hSw; go_simp; try with_reducible rfl)
              · (simp only [Act.put, List.setIfInBounds_toArray, List.set_cons_zero, List.set_cons_succ]; try rfl)
              refine takeH (i := 5) (v := ?_) (a' := ?_) ({ dst := some 135, op := Op.binOp BinOp.neq 3 (Operand.tmp 131) (Operand.tmp 134) 3, type := 4, pos := "law.go:91", after := #[{ on := 1, ground := Ground.data }, { on := 4, ground := Ground.data }], guard := none }) rfl (by kernel_rfl) (by kernel_rfl) (by kernel_rfl) (fun _ _ _ h => h) (by rfl) ?_ (by assumption) ?_ ?_
              rotate_left 2
              · (intro w' hSw; go_simp; try with_reducible rfl)
              · (simp only [Act.put, List.setIfInBounds_toArray, List.set_cons_zero, List.set_cons_succ]; try rfl)
              refine takeH (i := 6) (v := ?_) (a' := ?_) ({ dst := some 136, op := Op.move (Operand.tmp 135), type := 4, pos := "law.go:91", after := #[{ on := 5, ground := Ground.data }, { on := 3, ground := Ground.chain }], guard := none }) rfl (by kernel_rfl) (by kernel_rfl) (by kernel_rfl) (fun _ _ _ h => h) (by rfl) ?_ (by assumption) ?_ ?_
              rotate_left 2
              · (intro w' hSw; go_simp; try with_reducible rfl)
              · (simp only [Act.put, List.setIfInBounds_toArray, List.set_cons_zero, List.set_cons_succ]; try rfl)
              refine takeH (i := 7) (v := ?_) (a' := ?_) ({ dst := some 137, op := Op.move (Operand.tmp 6), type := 24, pos := "law.go:91", after := #[{ on := 6, ground := Ground.guard }], guard := some (6, false) }) rfl (by kernel_rfl) (by kernel_rfl) (by kernel_rfl) (fun _ _ _ h => h) (by rfl) ?_ (by assumption) ?_ ?_
              rotate_left 2
              · (intro w' hSw; go_simp; try with_reducible rfl)
              · (simp only [Act.put, List.setIfInBounds_toArray, List.set_cons_zero, List.set_cons_succ]; try rfl)
              refine takeH (i := 8) (v := ?_) (a' := ?_) ({ dst := some 138, op := Op.fieldAddr 31 (Operand.tmp 10) 1, type := 0, pos := "law.go:91", after := #[{ on := 6, ground := Ground.guard }], guard := some (6, false) }) rfl (by kernel_rfl) (by kernel_rfl) (by kernel_rfl) (fun _ _ _ h => h) (by rfl) ?_ (by assumption) ?_ ?_
              rotate_left 2
              · (intro w' hSw; go_simp; try with_reducible rfl)
              · (simp only [Act.put, List.setIfInBounds_toArray, List.set_cons_zero, List.set_cons_succ]; try rfl)
              refine takeH (i := 9) (v := ?_) (a' := ?_) ({ dst := some 139, op := Op.load 3 (Operand.tmp 138), type := 3, pos := "law.go:91", after := #[{ on := 8, ground := Ground.data }, { on := 6, ground := Ground.guard }], guard := some (6, false) }) rfl (by kernel_rfl) (by kernel_rfl) (by kernel_rfl) (fun _ _ _ h => h) (by rfl) ?_ (by assumption) ?_ ?_
              rotate_left 2
              · (intro w' hSw; go_simp; try with_reducible rfl)
              · (simp only [Act.put, List.setIfInBounds_toArray, List.set_cons_zero, List.set_cons_succ]; try rfl)
              refine takeH (i := 11) (v := ?_) (a' := ?_) ({ dst := some 141, op := Op.fieldAddr 31 (Operand.tmp 10) 1, type := 0, pos := "law.go:91", after := #[{ on := 6, ground := Ground.guard }], guard := some (6, false) }) rfl (by kernel_rfl) (by kernel_rfl) (by kernel_rfl) (fun _ _ _ h => h) (by rfl) ?_ (by assumption) ?_ ?_
              rotate_left 2
              · (intro w' hSw; go_simp; try with_reducible rfl)
              · (simp only [Act.put, List.setIfInBounds_toArray, List.set_cons_zero, List.set_cons_succ]; try rfl)
              refine takeH (i := 12) (v := ?_) (a' := ?_) ({ dst := some 142, op := Op.load 3 (Operand.tmp 141), type := 3, pos := "law.go:91", after := #[{ on := 11, ground := Ground.data }, { on := 6, ground := Ground.guard }], guard := some (6, false) }) rfl (by kernel_rfl) (by kernel_rfl) (by kernel_rfl) (fun _ _ _ h => h) (by rfl) ?_ (by assumption) ?_ ?_
              rotate_left 2
              · (intro w' hSw; go_simp; try with_reducible rfl)
              · (simp only [Act.put, List.setIfInBounds_toArray, List.set_cons_zero, List.set_cons_succ]; try rfl)
              refine takeH (i := 13) (v := ?_) (a' := ?_) ({ dst := some 143, op := Op.binOp BinOp.geq 3 (Operand.tmp 142) (Operand.const (Value.int IntKind.i64 0)) 3, type := 4, pos := "law.go:91", after := #[{ on := 12, ground := Ground.data }, { on := 6, ground := Ground.guard }], guard := some (6, false) }) rfl (by kernel_rfl) (by kernel_rfl) (by kernel_rfl) (fun _ _ _ h => h) (by rfl) ?_ (by assumption) ?_ ?_
              rotate_left 2
              · (intro w' hSw; go_simp; try with_reducible rfl)
              · (simp only [Act.put, List.setIfInBounds_toArray, List.set_cons_zero, List.set_cons_succ]; try rfl)
              refine wpAnyH_ready (rs := [10]) (by kernel_rfl) (by simp) ?_
              refine AllReadyH.cons (o := { dst := some 140, op := Op.call { callee := Callee.value (Operand.func 20), args := #[Operand.tmp 137, Operand.tmp 139], argTypes := #[24, 3] }, type := 4, pos := "law.go:91", after := #[{ on := 7, ground := Ground.data }, { on := 9, ground := Ground.data }, { on := 6, ground := Ground.chain }, { on := 6, ground := Ground.guard }], guard := some (6, false) }) rfl (fun K hK => ?_) AllReadyH.nil
              go_simp
              refine (HH.out _ b4).mono ?_
              rintro e w' ⟨rfl, rfl⟩
              go_wp2_with fail
              refine hK.out _ _ (HC.out _ b4) (fun hHeld => ?_)
              clear hK K
              try simp only [Act.put, List.setIfInBounds_toArray, List.set_cons_zero, List.set_cons_succ]
              refine takeH (i := 14) (v := ?_) (a' := ?_) ({ dst := some 144, op := Op.move (Operand.tmp 143), type := 4, pos := "law.go:91", after := #[{ on := 13, ground := Ground.data }, { on := 10, ground := Ground.chain }, { on := 6, ground := Ground.guard }], guard := some (6, false) }) rfl (by kernel_rfl) (by kernel_rfl) (by kernel_rfl) (fun _ _ _ h => h) (by rfl) ?_ (by assumption) ?_ ?_
              rotate_left 2
              · (intro w' hSw; go_simp; try with_reducible rfl)
              · (simp only [Act.put, List.setIfInBounds_toArray, List.set_cons_zero, List.set_cons_succ]; try rfl)
              refine takeH (i := 15) (v := ?_) (a' := ?_) ({ dst := some 145, op := Op.fieldAddr 31 (Operand.tmp 10) 1, type := 0, pos := "law.go:91", after := #[{ on := 14, ground := Ground.guard }], guard := some (14, true) }) rfl (by kernel_rfl) (by kernel_rfl) (by kernel_rfl) (fun _ _ _ h => h) (by rfl) ?_ (by assumption) ?_ ?_
              rotate_left 2
              · (intro w' hSw; go_simp; try with_reducible rfl)
              · (simp only [Act.put, List.setIfInBounds_toArray, List.set_cons_zero, List.set_cons_succ]; try rfl)
              refine takeH (i := 16) (v := ?_) (a' := ?_) ({ dst := some 146, op := Op.load 3 (Operand.tmp 145), type := 3, pos := "law.go:91", after := #[{ on := 15, ground := Ground.data }, { on := 14, ground := Ground.guard }], guard := some (14, true) }) rfl (by kernel_rfl) (by kernel_rfl) (by kernel_rfl) (fun _ _ _ h => h) (by rfl) ?_ (by assumption) ?_ ?_
              rotate_left 2
              · (intro w' hSw; go_simp; try with_reducible rfl)
              · (simp only [Act.put, List.setIfInBounds_toArray, List.set_cons_zero, List.set_cons_succ]; try rfl)
              refine takeH (i := 17) (v := ?_) (a' := ?_) ({ dst := some 147, op := Op.move (Operand.tmp 5), type := 3, pos := "law.go:91", after := #[{ on := 14, ground := Ground.guard }], guard := some (14, true) }) rfl (by kernel_rfl) (by kernel_rfl) (by kernel_rfl) (fun _ _ _ h => h) (by rfl) ?_ (by assumption) ?_ ?_
              rotate_left 2
              · (intro w' hSw; go_simp; try with_reducible rfl)
              · (simp only [Act.put, List.setIfInBounds_toArray, List.set_cons_zero, List.set_cons_succ]; try rfl)
              refine takeH (i := 18) (v := ?_) (a' := ?_) ({ dst := some 148, op := Op.binOp BinOp.lss 3 (Operand.tmp 146) (Operand.tmp 147) 3, type := 4, pos := "law.go:91", after := #[{ on := 16, ground := Ground.data }, { on := 17, ground := Ground.data }, { on := 14, ground := Ground.guard }], guard := some (14, true) }) rfl (by kernel_rfl) (by kernel_rfl) (by kernel_rfl) (fun _ _ _ h => h) (by rfl) ?_ (by assumption) ?_ ?_
              rotate_left 2
              · (intro w' hSw; go_simp; try with_reducible rfl)
              · (simp only [Act.put, List.setIfInBounds_toArray, List.set_cons_zero, List.set_cons_succ]; try rfl)
              refine takeH (i := 19) (v := ?_) (a' := ?_) ({ dst := some 149, op := Op.pick (Operand.tmp 144) (Operand.tmp 148) (Operand.const (Value.bool false)), type := 4, pos := "law.go:91", after := #[{ on := 14, ground := Ground.data }, { on := 18, ground := Ground.data }, { on := 6, ground := Ground.guard }], guard := some (6, false) }) rfl (by kernel_rfl) (by kernel_rfl) (by kernel_rfl) (fun _ _ _ h => h) (by rfl) ?_ (by assumption) ?_ ?_
              rotate_left 2
              · (intro w' hSw; go_simp; try with_reducible rfl)
              · (simp only [Act.put, List.setIfInBounds_toArray, List.set_cons_zero, List.set_cons_succ]; try rfl)
              refine takeH (i := 20) (v := ?_) (a' := ?_) ({ dst := some 150, op := Op.move (Operand.tmp 149), type := 4, pos := "law.go:91", after := #[{ on := 19, ground := Ground.data }, { on := 14, ground := Ground.chain }, { on := 6, ground := Ground.guard }], guard := some (6, false) }) rfl (by kernel_rfl) (by kernel_rfl) (by kernel_rfl) (fun _ _ _ h => h) (by rfl) ?_ (by assumption) ?_ ?_
              rotate_left 2
              · (intro w' hSw; go_simp; try with_reducible rfl)
              · (simp only [Act.put, List.setIfInBounds_toArray, List.set_cons_zero, List.set_cons_succ]; try rfl)
              refine skipH (i := 21) (a' := ?_) ({ dst := some 151, op := Op.move (Operand.tmp 8), type := 29, pos := "law.go:91", after := #[{ on := 20, ground := Ground.guard }], guard := some (20, true) }) rfl (by kernel_rfl) (by kernel_rfl) (by kernel_rfl) (fun _ _ _ h => h) (by rfl) (by assumption) ?_ ?_
              rotate_left 1
              · (simp only [Act.put, List.setIfInBounds_toArray, List.set_cons_zero, List.set_cons_succ]; try rfl)
              refine skipH (i := 22) (a' := ?_) ({ dst := some 152, op := Op.fieldAddr 31 (Operand.tmp 10) 1, type := 0, pos := "law.go:91", after := #[{ on := 20, ground := Ground.guard }], guard := some (20, true) }) rfl (by kernel_rfl) (by kernel_rfl) (by kernel_rfl) (fun _ _ _ h => h) (by rfl) (by assumption) ?_ ?_
              rotate_left 1
              · (simp only [Act.put, List.setIfInBounds_toArray, List.set_cons_zero, List.set_cons_succ]; try rfl)
              refine skipH (i := 23) (a' := ?_) ({ dst := some 153, op := Op.load 3 (Operand.tmp 152), type := 3, pos := "law.go:91", after := #[{ on := 22, ground := Ground.data }, { on := 20, ground := Ground.guard }], guard := some (20, true) }) rfl (by kernel_rfl) (by kernel_rfl) (by kernel_rfl) (fun _ _ _ h => h) (by rfl) (by assumption) ?_ ?_
              rotate_left 1
              · (simp only [Act.put, List.setIfInBounds_toArray, List.set_cons_zero, List.set_cons_succ]; try rfl)
              refine skipH (i := 24) (a' := ?_) ({ dst := some 154, op := Op.indexAddr 29 (Operand.tmp 151) (Operand.tmp 153), type := 0, pos := "law.go:91", after := #[{ on := 21, ground := Ground.data }, { on := 23, ground := Ground.data }, { on := 20, ground := Ground.guard }], guard := some (20, true) }) rfl (by kernel_rfl) (by kernel_rfl) (by kernel_rfl) (fun _ _ _ h => h) (by rfl) (by assumption) ?_ ?_
              rotate_left 1
              · (simp only [Act.put, List.setIfInBounds_toArray, List.set_cons_zero, List.set_cons_succ]; try rfl)
              refine skipH (i := 25) (a' := ?_) ({ dst := some 155, op := Op.load 4 (Operand.tmp 154), type := 4, pos := "law.go:91", after := #[{ on := 24, ground := Ground.data }, { on := 20, ground := Ground.guard }], guard := some (20, true) }) rfl (by kernel_rfl) (by kernel_rfl) (by kernel_rfl) (fun _ _ _ h => h) (by rfl) (by assumption) ?_ ?_
              rotate_left 1
              · (simp only [Act.put, List.setIfInBounds_toArray, List.set_cons_zero, List.set_cons_succ]; try rfl)
              refine takeH (i := 26) (v := ?_) (a' := ?_) ({ dst := some 156, op := Op.pick (Operand.tmp 150) (Operand.tmp 155) (Operand.const (Value.bool false)), type := 4, pos := "law.go:91", after := #[{ on := 20, ground := Ground.data }, { on := 25, ground := Ground.data }, { on := 6, ground := Ground.guard }], guard := some (6, false) }) rfl (by kernel_rfl) (by kernel_rfl) (by kernel_rfl) (fun _ _ _ h => h) (by rfl) ?_ (by assumption) ?_ ?_
              rotate_left 2
              · (intro w' hSw; go_simp; try with_reducible rfl)
              · (simp only [Act.put, List.setIfInBounds_toArray, List.set_cons_zero, List.set_cons_succ]; try rfl)
              refine takeH (i := 27) (v := ?_) (a' := ?_) ({ dst := some 157, op := Op.binOp BinOp.neq 4 (Operand.tmp 140) (Operand.tmp 156) 4, type := 4, pos := "law.go:91", after := #[{ on := 10, ground := Ground.data }, { on := 26, ground := Ground.data }, { on := 6, ground := Ground.guard }], guard := some (6, false) }) rfl (by kernel_rfl) (by kernel_rfl) (by kernel_rfl) (fun _ _ _ h => h) (by rfl) ?_ (by assumption) ?_ ?_
              rotate_left 2
              · (intro w' hSw; go_simp; try with_reducible rfl)
              · (simp only [Act.put, List.setIfInBounds_toArray, List.set_cons_zero, List.set_cons_succ]; try rfl)
              refine takeH (i := 28) (v := ?_) (a' := ?_) ({ dst := some 158, op := Op.pick (Operand.tmp 136) (Operand.const (Value.bool true)) (Operand.tmp 157), type := 4, pos := "law.go:91", after := #[{ on := 6, ground := Ground.data }, { on := 27, ground := Ground.data }], guard := none }) rfl (by kernel_rfl) (by kernel_rfl) (by kernel_rfl) (fun _ _ _ h => h) (by rfl) ?_ (by assumption) ?_ ?_
              rotate_left 2
              · (intro w' hSw; go_simp; try with_reducible rfl)
              · (simp only [Act.put, List.setIfInBounds_toArray, List.set_cons_zero, List.set_cons_succ]; try rfl)
              refine wpAnyH_done (by kernel_rfl) ?_ _
              refine NoPanic.normal ?_
              have hA4 := hid (hA.out.below b4)
              clear HL HA HH HC hA
              go_wp2_with fail
              go_roundw
              case rel => exact ⟨t + 1, q, tx, tcx, by omega, by omega, rfl, by go_num, hid hA4.out.st, hid hA4.out.bools, hid hA4.out.tb⟩
              case measure => simp [intOf]; omega
    · have hstop : zs.length ≤ t ∨ (t < zs.length ∧ 300 ≤ t) := by omega
      clear hgo
      have hra := rall_ok (some ta) tc (L K p)
      rcases hstop with hstop | ⟨hstop1, hstop2⟩
      all_goals
        go_wp2_with fail
        refine (all_ok _ _ _ _ _ hs.out.slots hs.out.env.2 hs.out.env.lt).mono ?_
        rintro e w3 ⟨av, ac, rfl, hI, b3, hav⟩
        have hs3 := hid (hs.out.below b3)
        have hI3 := hid hI
        have hB3 := hB.out.below b3
        have hra3 := hra w3 hB3 (by simp; omega)
        rw [L_length] at hra3
        clear hs hI b3 hav hB hra
        go_wp2_with fail
        refine hra3.mono ?_
        rintro e w4 ⟨av4, ac4, rfl, hJ, b4, _⟩
        have hs4 := hid (hs3.out.below b4)
        have hI4 := hid (hI3.out.below b4)
        have hJ4 := hid hJ
        clear hs3 hI3 hB3 b4 hJ hra3
        go_wp2_with fail
        refine (ints_same _ _ _ _ _ _ hI4.out hJ4.out).mono ?_
        rintro e w5 ⟨rfl, b5⟩
        have hs5 := hid (hs4.out.below b5)
        clear hs4 hI4 hJ4 b5
        have hsize := size_ok _ _ _ _ _ hs5.out.slots
        rw [L_length] at hsize
        go_wp2_with fail
        refine hsize.mono ?_
        rintro e w' ⟨rfl, rfl⟩
        clear hsize
        go_wp2_with fail
        refine (sure_ok _ hs5.out.env.2 hs5.out.env.lt).mono ?_
        rintro e w6 ⟨rfl, b6⟩
        have hfin := hid (hs5.out.end_ b1 (Nat.le_refl _) b6)
        clear hs5 b6
        go_wp2_with fail
        go_ret
        exact ⟨rfl, hfin.out⟩

end Go.Proofs.YtddbeebnmjbfiaaDoor
