/- 'PermTurned', walked. -/
import Derived.Test.YtjngdecpomogbaaDoorTurn8
import Derived.Test.YtjngdecpomogbaaDoorSure8
import Derived.Test.YtjngdecpomogbaaDoorErrAs
import Derived.Test.YtjngdecpomogbaaDoorOpen8
namespace Go.Proofs.YtjngdecpomogbaaDoor
open Go.RowKit
set_option linter.unusedVariables false

theorem orb_len (f : Nat → Nat) (x : Nat) : (orb f x).length = per f x := by unfold orb; simp
theorem orb_get {f : Nat → Nat} {x i : Nat} (h : i < per f x) : (orb f x)[i]? = some (it f i x) := by unfold orb; exact fl_get h

/-- A row of one's own, its cells. -/
theorem Rw.opened {base : Nat} {w : World} {v : Value} {l : List Nat} {n : Nat} (h : Rw base w v l) (hl : l.length = n) (hn : 0 < n) : ∃ g cap, v = .slice (some ⟨g, 0, none⟩) n cap ∧ ∀ y, Below w.heap.size w y → ∀ (j z : Nat), l[j]? = some z → y.cell? ⟨g, j, none⟩ = some (.int .i64 (z : Int)) := by
  subst hl
  have h' : w.ownsRow base 3 1 v l.length (ics l) := h
  obtain ⟨g, cap, rfl, _, _⟩ := own_form h' (by omega)
  refine ⟨g, cap, rfl, fun y hy j z hz => ?_⟩
  have hj := (List.getElem?_eq_some_iff.1 hz).1
  rw [(own_more h' hy).cellAt j (by omega)]
  simp [ics, hz]

theorem wrap_modS (a D : Nat) (hD : 1 ≤ D) (hD2 : D ≤ 1000) (ha : a ≤ D) : (IntKind.i64.wrap ((D : Int) - (a : Int))).tmod (D : Int) = (((D - a) % D : Nat) : Int) := by
  rw [show IntKind.i64.wrap ((D : Int) - (a : Int)) = ((D - a : Nat) : Int) from by rw [IntWalk.i64_in _ ⟨by omega, by omega⟩]; omega, Int.tmod_eq_emod_of_nonneg (by omega)]
  omega

theorem inv_inv {n : Nat} {f : Nat → Nat} (h : Pm n f) : fl n (inv n (inv n f)) = fl n f := fl_congr (fun i hi => by
  have h1 := h.inv_at hi
  have h2 := h.back.inv_at (h.lt i hi)
  rw [h1] at h2
  exact h2)

set_option maxRecDepth 100000 in
set_option maxHeartbeats 4000000 in
theorem turned_law (v : Value) (zs : List Int) (x : Int) (w : World) (hg : Handle w) (hv : IV w v zs) :
    Calls Tryd.prog 7 #[v, .int .i64 x] w fun e w' => e = .returned (.bool true) ∧ Below w.heap.size w w' := by
  have hv' := hid hv
  obtain ⟨av, n, cv, rfl, sv⟩ := hv
  have lv := sv.len
  have big := sv.big
  clear sv
  by_cases hout : 300 < n
  · have hs := hid (sure_ok w)
    clear lv
    have t1 : (300 : Int) < (n : Int) := by omega
    go_enter Tryd.func7, Tryd.ntmps7
    go_wp2_with fail
    refine hs.out.mono ?_
    rintro e w1 ⟨rfl, b1⟩
    replace b1 := hid b1
    go_wp2_with fail
    go_ret
    exact ⟨rfl, b1.out⟩
  · have hn : n ≤ 300 := by omega
    have t1 : ¬ (300 : Int) < (n : Int) := by omega
    clear hout
    by_cases hA : Ord zs
    · obtain ⟨f, pf, ef⟩ := hA.fn
      rw [lv] at pf ef
      have hI := hid (ef ▸ hv'.out)
      have c1 := hid (inverse_yes _ n f w hI.out pf (by omega))
      have c2 : Hid (∀ u y, IV y u (cl (fl n (inv n f))) → _) := hid (fun u y hu => inverse_yes u n (inv n f) y hu pf.back (by omega))
      have c4 : Hid (∀ (k : Nat) y, k < n → Below w.heap.size w y → _) := hid (fun k y hk hy => orbit_yes _ n k f y (hI.out.below hy) pf hk (by omega))
      have c5 : Hid (∀ (k : Nat) u y, k < n → IV y u (cl (fl n (inv n f))) → _) := hid (fun k u y hk hu => orbit_yes u n k (inv n f) y hu pf.back hk (by omega))
      have hii := hid (inv_inv pf)
      replace pf := hid pf
      clear hA ef lv hv'
      go_enter Tryd.func7, Tryd.ntmps7
      go_wp2_with fail
      refine c1.out.mono ?_
      rintro e w1 ⟨q, rfl, hq, b1⟩
      replace hq := hid hq
      replace b1 := hid b1
      clear c1
      go_wp2_with fail
      refine (c2.out q w1 hq.out.iv).mono ?_
      rintro e w2 ⟨r, rfl, hr, b2⟩
      replace hq := hid (hq.out.more b2)
      rw [hii.out] at hr
      replace hr := hid hr
      replace b2 : Hid (Below w.heap.size w w2) := b1.out.trans (b2.mono b1.out.size)
      clear c2 b1
      by_cases h0 : n = 0
      · have t2 : ((n : Int) == 0) = true := by simp; omega
        subst h0
        go_wp2_with fail
        refine (ints_ok r _ _ w2 hr.out.iv (hI.out.below b2.out)).mono ?_
        rintro e w3 ⟨rfl, m3, rfl⟩
        have b3 : Hid (Below w.heap.size w (w2.drewN m3)) := belowN b2.out m3
        have r3 := hid (hr.out.iv.below (belowN (Below.refl _ _) m3))
        clear b2 hr hq
        generalize w2.drewN m3 = w3 at *
        go_wp2_with fail
        refine (ints_ok r _ _ _ r3.out (hI.out.below b3.out)).mono ?_
        rintro e w4 ⟨rfl, m4, rfl⟩
        have b4 : Hid (Below w.heap.size w (w3.drewN m4)) := belowN b3.out m4
        clear b3 r3
        go_wp2_with fail
        refine (sure_ok _).mono ?_
        rintro e w5 ⟨rfl, b5⟩
        replace b5 : Hid (Below w.heap.size w w5) := b4.out.trans (b5.mono b4.out.size)
        go_wp2_with fail
        go_ret
        exact ⟨rfl, b5.out⟩
      · have t2 : ((n : Int) == 0) = false := by simp; omega
        have t3 : ¬ ((n : Int) = 0) := by omega
        have hn1 : 1 ≤ n := by omega
        obtain ⟨k, hk, hkn⟩ := mod_inN x n hn1 (by omega)
        obtain ⟨p1, p2⟩ := pf.out.per_is hkn
        obtain ⟨D, hD⟩ : ∃ D, per f k = D := ⟨_, rfl⟩
        rw [hD] at p1 p2
        have hD1 := p1.pos
        have hol : Hid ((orb f k).length = D) := by rw [orb_len, hD]; exact hid rfl
        have hog : Hid (∀ i, i < D → (orb f k)[i]? = some (it f i k)) := fun i hi => orb_get (by omega)
        have hD' := (pf.out.per_inv hkn p1).eq
        have hol2 : Hid ((orb (inv n f) k).length = D) := by rw [orb_len, hD']; exact hid rfl
        have hog2 : Hid (∀ i, i < D → (orb (inv n f) k)[i]? = some (it f ((D - i) % D) k)) := fun i hi => by
          rw [orb_get (by omega), pf.out.turned hkn p1 i (by omega), p1.mod]
        clear hD hD'
        replace p1 := hid p1
        have w5 : IntKind.u64.wrap (n : Int) = (n : Int) := by rw [IntKind.wrap_u64]; omega
        go_wp2_with fail
        refine (ints_ok r _ _ w2 hr.out.iv (hI.out.below b2.out)).mono ?_
        rintro e w3 ⟨rfl, m3, rfl⟩
        have b3 : Hid (Below w.heap.size w (w2.drewN m3)) := belowN b2.out m3
        have q3 := hid (hq.out.more (belowN (Below.refl _ _) m3))
        clear b2 hr hq
        generalize w2.drewN m3 = w3 at *
        go_wp2_with fail
        rw [hk]
        refine (c4.out k w3 hkn b3.out).mono ?_
        rintro e w4 ⟨a, rfl, ha, b4⟩
        replace q3 := hid (q3.out.more b4)
        replace b4 : Hid (Below w.heap.size w w4) := b3.out.trans (b4.mono b3.out.size)
        obtain ⟨ga, ca, rfl, hca⟩ := ha.opened hol.out (by omega)
        have hca2 : Hid (∀ y, Below w4.heap.size w4 y → ∀ i, i < D → y.cell? ⟨ga, i, none⟩ = some (.int .i64 (it f i k : Int))) := fun y hy i hi => hca y hy i _ (hog.out i hi)
        clear hk b3 ha hca c4
        go_wp2_with fail
        refine (c5.out k q w4 hkn q3.out.iv).mono ?_
        rintro e w5' ⟨b, rfl, hb, b5⟩
        obtain ⟨gb, cb, rfl, hcb⟩ := hb.opened hol2.out (by omega)
        have hca3 : Hid (∀ y, Below w5'.heap.size w5' y → ∀ i, i < D → y.cell? ⟨ga, i, none⟩ = some (.int .i64 (it f i k : Int))) := fun y hy i hi => hca2.out y (b5.trans (hy.mono b5.size)) i hi
        have hcb2 : Hid (∀ y, Below w5'.heap.size w5' y → ∀ i, i < D → y.cell? ⟨gb, i, none⟩ = some (.int .i64 (it f ((D - i) % D) k : Int))) := fun y hy i hi => hcb y hy i _ (hog2.out i hi)
        replace b5 : Hid (Below w.heap.size w w5') := b4.out.trans (b5.mono b4.out.size)
        have d1 : ((D : Int) == 0) = false := by simp; omega
        have d2 : ¬ ((D : Int) = 0) := by omega
        have d3 : ¬ (D = 0) := by omega
        have d4 : (0 : Int) < (D : Int) := by omega
        clear b4 hb hcb c5 hca2 q3
        go_wp2_with fail
        go_loopw [14] (fun u wr => ∃ i : Nat, i ≤ D ∧ u = .int .i64 (i : Int) ∧ Hid (Below w5'.heap.size w5' wr)) (fun u _ => D - (intOf u).toNat)
        case atStart => exact ⟨0, by omega, by go_num, Below.refl _ _⟩
        case round =>
          obtain ⟨i, hi, rfl, hbi⟩ := hrel
          rcases Nat.lt_or_ge i D with hiD | hiD
          · have hm : (D - i) % D < D := Nat.mod_lt _ hD1
            have r1 := hcb2.out wr hbi.out i hiD
            have r2 := hca3.out wr hbi.out ((D - i) % D) hm
            have wm := wrap_modS i D hD1 (by omega) (by omega)
            obtain ⟨M, hM⟩ : ∃ M, (D - i) % D = M := ⟨_, rfl⟩
            rw [hM] at wm hm r1 r2
            generalize it f M k = z2 at r1 r2
            have k1 : (0 : Int) ≤ (i : Int) := by omega
            have k2 : (i : Int) < (D : Int) := by omega
            have k5 : (0 : Int) ≤ (M : Int) := by omega
            have k6 : (M : Int) < (D : Int) := by omega
            have hbi2 : Hid (∀ m, Below w5'.heap.size w5' (wr.drewN m)) := fun m => belowN hbi.out m
            clear hM
            go_wp2_with fail
            go_quiet (fail)
            go_wp2_with fail
            go_roundw
            case rel => exact ⟨i + 1, by omega, by go_num, hbi2.out _⟩
            case measure => simp [intOf]; omega
          · obtain rfl : i = D := by omega
            have hbw : Hid (Below w.heap.size w wr) := b5.out.trans (hbi.out.mono b5.out.size)
            go_wp2_with fail
            refine (sure_ok wr).mono ?_
            rintro e w7 ⟨rfl, b7⟩
            replace b7 : Hid (Below w.heap.size w w7) := hbw.out.trans (b7.mono hbw.out.size)
            go_wp2_with fail
            go_ret
            exact ⟨rfl, b7.out⟩
    · have c1 := hid (inverse_no _ _ w hv'.out hA (by omega))
      clear hA lv hv'
      replace hg := hid hg
      go_enter Tryd.func7, Tryd.ntmps7
      go_wp2_with fail
      refine c1.out.mono ?_
      rintro e w1 ⟨rfl, b1⟩
      replace b1 := hid b1
      clear c1
      go_wp2_with fail
      refine (num_err 3 w1 (hg.out.below b1.out)).mono ?_
      rintro e w2 ⟨rfl, b2⟩
      replace b2 : Hid (Below w.heap.size w w2) := b1.out.trans (b2.mono b1.out.size)
      clear b1
      go_wp2_with fail
      refine (sure_ok w2).mono ?_
      rintro e w3 ⟨rfl, b3⟩
      replace b3 : Hid (Below w.heap.size w w3) := b2.out.trans (b3.mono b2.out.size)
      go_wp2_with fail
      go_ret
      exact ⟨rfl, b3.out⟩

end Go.Proofs.YtjngdecpomogbaaDoor
