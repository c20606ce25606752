/- 'SlotsLowest', walked. -/
import Derived.Test.YtddbeebnmjbfiaaDoorSure
import Derived.Test.YtddbeebnmjbfiaaDoorCalls2
import Derived.Test.YtddbeebnmjbfiaaDoorOpenInts
namespace Go.Proofs.YtddbeebnmjbfiaaDoor
open Go.RowKit

/-- 'int(uint(z) % uint(k))'. -/
theorem mod_in (z : Int) (K : Nat) (h1 : 1 ≤ K) (h2 : K ≤ 1000000) : ∃ a : Nat, wrap64 ((IntKind.u64.wrap z).tmod (K : Int)) = (a : Int) ∧ a < K := by
  have e : (IntKind.u64.wrap z).tmod (K : Int) = z % 18446744073709551616 % (K : Int) := by
    rw [IntKind.wrap_u64, Int.tmod_eq_emod_of_nonneg (by omega)]
  have g1 : 0 ≤ z % 18446744073709551616 % (K : Int) := Int.emod_nonneg _ (by omega)
  have g2 : z % 18446744073709551616 % (K : Int) < K := Int.emod_lt_of_pos _ (by omega)
  rw [e]
  generalize z % 18446744073709551616 % (K : Int) = r at g1 g2
  refine ⟨r.toNat, ?_, by omega⟩
  rw [IntWalk.wrap64_in r ⟨by omega, by omega⟩]
  omega

/-- Some of K places are free: how many, and the least one, or K. -/
def Gaps (K : Nat) (p : Nat → Bool) (m f : Nat) : Prop :=
  (L K p).count true + m = K ∧ ((m = 0 ∧ f = K ∧ ∀ j, j < K → p j = true) ∨ (1 ≤ m ∧ f < K ∧ p f = false ∧ ∀ j, j < f → p j = true))

theorem Gaps.start (K : Nat) : Gaps K (fun _ => true) 0 K := ⟨by rw [L_true]; rfl, Or.inl ⟨rfl, rfl, fun _ _ => rfl⟩⟩

theorem Gaps.more {K m f a : Nat} {p : Nat → Bool} (h : Gaps K p m f) (ha : a < K) (hp : p a = true) : Gaps K (fun j => if j = a then false else p j) (m + 1) (min f a) ∧ m < K := by
  have e : (L K p).set a false = L K (fun j => if j = a then false else p j) := L_set ha (by simp) (fun j _ hj => by simp [hj])
  have hc := count_off (L K p) a ((L_is _ _ _ _).2 ⟨ha, hp⟩)
  rw [e] at hc
  obtain ⟨h1, h2⟩ := h
  refine ⟨⟨by omega, Or.inr ⟨by omega, ?_⟩⟩, by omega⟩
  rcases h2 with ⟨rfl, rfl, h2⟩ | ⟨h3, h4, h5, h6⟩
  · refine ⟨by omega, ?_, fun j hj => ?_⟩
    · rw [show min f a = a from by omega]; simp
    · have : ¬ j = a := by omega
      simp [this]; exact h2 j (by omega)
  · refine ⟨by omega, ?_, fun j hj => ?_⟩
    · rcases Nat.lt_or_ge a f with hl | hl
      · rw [show min f a = a from by omega]; simp
      · rw [show min f a = f from by omega]; simp [h5]
    · have : ¬ j = a := by omega
      simp [this]; exact h6 j (by omega)

set_option maxRecDepth 100000 in
set_option maxHeartbeats 4000000 in
theorem lowest_law (n : Int) (ad : Option Addr) (zs : List Int) (cap : Nat) (w : World) (hE : Env w) (hz : Ints w ad zs) :
    Calls Tryd.prog 6 #[.int .i64 n, .slice ad zs.length cap] w fun e w' => e = .returned (.bool true) ∧ Below w.heap.size w w' := by
  obtain ⟨K, hK, hK1, hK2⟩ := mod_up n 5000 (by decide) (by decide)
  have hsz := hE.lt
  have hzl := hz.bound
  go_enter Tryd.func6, Tryd.ntmps6
  go_wp2_with fail
  rw [hK]
  refine (new_ok K _ (by omega) (by omega)).mono ?_
  rintro e w1 ⟨sb, rfl, s1, b1⟩
  rw [L_false] at s1
  have e1 := hid (hE.below b1)
  have hz1 := hid hz
  have hst := hid s1
  have hbs := b1.size
  have hp := s1.pos
  clear s1 hE hz hK
  go_wp2_with fail
  go_loopw [8] (fun u wr => ∃ i : Nat, i ≤ K ∧ u = .int .i64 (i : Int) ∧ Hid (Slots wr w.heap.size w1.heap.size sb (L K (fun j => decide (j < i)))) ∧ Within w.heap.size w1.heap.size w1 wr)
    (fun u _ => K - (intOf u).toNat)
  case atStart => exact ⟨0, by omega, by go_num, hid (by have := hst.out; rw [L_ext (q := fun j => decide (j < 0)) (fun j _ => by simp)] at this; exact this), Within.refl _ _ _⟩
  case round =>
    obtain ⟨i, hi, rfl, hs, hwi⟩ := hrel
    have hEr := hid (e1.out.of hwi (by omega))
    rcases Nat.lt_or_ge i K with hlt | hge
    · go_wp2_with fail
      refine (take_hit w.heap.size w1.heap.size sb i _ _ hs.out hEr.out.2 (L_least hlt (by simp) (fun j hj => by simp [hj]))).mono ?_
      rintro e w2 ⟨rfl, s2, v2⟩
      rw [L_set (x := i) (b := true) (q := fun j => decide (j < i + 1)) hlt (by simp) (fun j _ h => by simp; omega)] at s2
      go_wp2_with fail
      go_roundw
      case rel => exact ⟨i + 1, by omega, by go_num, hid s2, hwi.trans v2⟩
      case measure => simp [intOf]; omega
    · obtain rfl : i = K := by omega
      have hall := hid ((L_ext (q := fun _ => true) (fun j hj => by simp [hj]) : L i (fun j => decide (j < i)) = _) ▸ hs.out)
      have hwz := hwi.size
      clear hs hst
      go_wp2_with fail
      refine (take_full w.heap.size w1.heap.size sb _ _ hall.out hEr.out.2 (fun x h => by rw [L_is] at h; cases h.2)).mono ?_
      rintro e w' ⟨rfl, rfl⟩
      go_wp2_with fail
      refine (num_err 16 _ hEr.out.1).mono ?_
      rintro e w3 ⟨rfl, b3⟩
      have s3 := hall.out.of (Within.ofBelow b3 wr.heap.size wr.heap.size) (Or.inl hwz)
      have hw3 : Within w.heap.size w1.heap.size w1 w3 := hwi.trans (Within.ofBelow b3 _ _)
      have hlen := len_ok _ _ _ _ _ s3
      rw [L_true] at hlen
      go_wp2_with fail
      refine hlen.mono ?_
      rintro e w' ⟨rfl, rfl⟩
      have s3h := hid s3
      clear hlen hall hwi b3 hwz hEr s3
      go_wp2_with fail
      go_loopw [13, 14, 15] (fun f m u wr => ∃ (t c g : Nat) (p : Nat → Bool), t ≤ zs.length ∧ t ≤ 50 ∧ f = .int .i64 (g : Int) ∧ m = .int .i64 (c : Int) ∧ u = .int .i64 (t : Int) ∧ g ≤ i ∧ c ≤ i ∧ Hid (Gaps i p c g) ∧ Hid (Slots wr w.heap.size w1.heap.size sb (L i p)) ∧ Within w.heap.size w1.heap.size w1 wr)
        (fun _ _ u _ => 50 - (intOf u).toNat)
      case atStart => exact ⟨0, 0, i, fun _ => true, by omega, by omega, by go_num, by go_num, by go_num, by omega, by omega, Gaps.start i, s3h, hw3⟩
      case round =>
        obtain ⟨t, c, g, p, ht1, ht2, rfl, rfl, rfl, hg1, hc1, hg, hs, hwi⟩ := hrel
        clear s3h hw3
        by_cases hgo : t < zs.length ∧ t < 50
        · obtain ⟨hgo1, hgo2⟩ := hgo
          obtain ⟨z, hzt⟩ : ∃ z, zs[t]? = some z := ⟨_, List.getElem?_eq_getElem hgo1⟩
          cases ad with
          | none => have := hz1.out.nil rfl; subst this; simp at hgo1
          | some a0 =>
            have hcell := (hz1.out.below (b1.trans (hwi.below (Nat.le_refl _) hbs))).cell a0 rfl t z hzt
            obtain ⟨a, ham, haK⟩ := mod_in z i (by omega) (by omega)
            go_wp2_with fail
            rw [ham]
            clear ham hcell hzt
            cases hpa : p a with
            | true =>
              have hmore := hid (hg.out.more haK hpa)
              have hcm := hmore.out.2
              refine (free_hit w.heap.size w1.heap.size sb a _ _ hs.out ((L_is _ _ _ _).2 ⟨haK, hpa⟩)).mono ?_
              rintro e w2 ⟨rfl, s2, v2⟩
              rw [L_set (x := a) (b := false) (q := fun j => if j = a then false else p j) haK (by simp) (fun j _ hj => by simp [hj])] at s2
              have s2h := hid s2
              obtain ⟨q, hq⟩ : ∃ q, min g a = q := ⟨_, rfl⟩
              have hmin : min (g : Int) (a : Int) = (q : Int) := by omega
              clear s2 hs hg hpa
              rcases Nat.lt_or_ge g a with hga | hga
              · obtain rfl : q = g := by omega
                have hqh := hid hq
                clear hq hmin
                go_wp2_with fail
                go_roundw
                case rel => exact ⟨t + 1, c + 1, q, _, by omega, by omega, by go_num, by go_num, by go_num, by omega, by omega, hid (by have h := hmore.out.1; rw [hqh.out] at h; exact h), s2h, hwi.trans v2⟩
                case measure => simp [intOf]; omega
              · obtain rfl : q = a := by omega
                have hqh := hid hq
                clear hq hmin
                go_wp2_with fail
                go_roundw
                case rel => exact ⟨t + 1, c + 1, q, _, by omega, by omega, by go_num, by go_num, by go_num, by omega, by omega, hid (by have h := hmore.out.1; rw [hqh.out] at h; exact h), s2h, hwi.trans v2⟩
                case measure => simp [intOf]; omega
            | false =>
              refine (free_apart w.heap.size w1.heap.size sb a _ _ hs.out ((L_is _ _ _ _).2 ⟨haK, hpa⟩)).mono ?_
              rintro e w2 ⟨rfl, rfl⟩
              clear hpa
              go_wp2_with fail
              go_roundw
              case rel => exact ⟨t + 1, c, g, p, by omega, by omega, by go_num, by go_num, by go_num, by omega, by omega, hg, hs, hwi⟩
              case measure => simp [intOf]; omega
        · have hEr := hid (e1.out.of hwi (by omega))
          have hlen := len_ok _ _ _ _ _ hs.out
          have hcnt : (L i p).count true = i - c := by have := hg.out.1; omega
          rw [hcnt] at hlen
          have hci : ((i - c : Nat) : Int) = (i : Int) - c := by omega
          rw [hci] at hlen
          have hstop : zs.length ≤ t ∨ (t < zs.length ∧ 50 ≤ t) := by omega
          clear hgo hcnt hci
          rcases hstop with hstop | ⟨hstop1, hstop2⟩
          all_goals
            go_wp2_with fail
            refine hlen.mono ?_
            rintro e w' ⟨rfl, rfl⟩
            clear hlen
            go_wp2_with fail
            by_cases hc0 : c = 0
            · subst hc0
              have hall : Slots wr w.heap.size w1.heap.size sb (L i (fun _ => true)) := by
                rcases hg.out.2 with ⟨_, _, h⟩ | ⟨h, _⟩
                · rw [← L_ext h]; exact hs.out
                · omega
              have hwz := hwi.size
              refine (take_full w.heap.size w1.heap.size sb _ _ hall hEr.out.2 (fun x h => by rw [L_is] at h; cases h.2)).mono ?_
              rintro e w' ⟨rfl, rfl⟩
              clear hall
              go_wp2_with fail
              refine (num_err 16 _ hEr.out.1).mono ?_
              rintro e w4 ⟨rfl, b4⟩
              have hE4 := hEr.out.below b4
              go_wp2_with fail
              refine (sure_ok _ hE4.2 hE4.lt).mono ?_
              rintro e w5 ⟨rfl, b5⟩
              have hz4 := b4.size
              have hfin : Below w.heap.size w w5 := b1.trans ((hwi.below (Nat.le_refl _) hbs).trans ((b4.mono (by omega)).trans (b5.mono (by omega))))
              clear hEr hE4 b4 b5
              go_wp2_with fail
              go_ret
              exact ⟨rfl, hfin⟩
            · obtain ⟨hg2, hg3, hg4⟩ : g < i ∧ p g = false ∧ ∀ j, j < g → p j = true := by
                rcases hg.out.2 with ⟨h, _⟩ | ⟨_, h⟩
                · exact absurd h hc0
                · exact h
              have hg4h := hid hg4
              have hg3h := hid hg3
              clear hg3 hg4
              have hd : decide ((c : Int) = 0) = false := decide_eq_false (by omega)
              refine (take_hit w.heap.size w1.heap.size sb g _ _ hs.out hEr.out.2 (L_least hg2 hg3h.out hg4h.out)).mono ?_
              rintro e w4 ⟨rfl, s4, v4⟩
              have hhas : ((L i p).set g true)[g]? = some true := by simp [hg2]
              have hE4 := hEr.out.of v4 (by omega)
              have hwz := hwi.size
              have hvz := v4.size
              have hch := has_at _ _ _ g _ _ s4 true hhas
              clear hhas hs hg s4
              go_wp2_with fail
              refine hch.mono ?_
              rintro e w' ⟨rfl, rfl⟩
              clear hch
              go_wp2_with fail
              refine (sure_ok _ hE4.2 hE4.lt).mono ?_
              rintro e w5 ⟨rfl, b5⟩
              have hfin : Below w.heap.size w w5 := b1.trans (((hwi.trans v4).below (Nat.le_refl _) hbs).trans (b5.mono (by omega)))
              clear hEr hE4 v4 b5
              go_wp2_with fail
              go_ret
              exact ⟨rfl, hfin⟩

end Go.Proofs.YtddbeebnmjbfiaaDoor
