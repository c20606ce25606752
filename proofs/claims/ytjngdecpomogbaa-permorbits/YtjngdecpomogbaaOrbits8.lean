/- 'PermOrbits', walked. -/
import Derived.Test.YtjngdecpomogbaaSure8
import Derived.Test.YtjngdecpomogbaaOpen8
namespace Go.Proofs.Ytjngdecpomogbaa
open Go.RowKit
set_option linter.unusedVariables false

theorem orb_len (f : Nat → Nat) (x : Nat) : (orb f x).length = per f x := by unfold orb; simp
theorem orb_get {f : Nat → Nat} {x i : Nat} (h : i < per f x) : (orb f x)[i]? = some (it f i x) := by unfold orb; exact fl_get h

/-- A row of one's own, its cells. -/
theorem Rw.opened {base : Nat} {w : World} {v : Value} {l : List Nat} {n : Nat} (h : Rw base w v l) (hl : l.length = n) (hn : 0 < n) : ∃ g cap, v = .slice (some ⟨g, 0, none⟩) n cap ∧ ∀ y, Below w.heap.size w y → ∀ (j z : Nat), l[j]? = some z → y.cell? ⟨g, j, none⟩ = some (.int .i64 (z : Int)) := by
  subst hl
  have h' : w.ownsRow base 3 1 v l.length (ics l) := h
  obtain ⟨g, cap, rfl, _, _⟩ := own_form h' (by omega)
  refine ⟨g, cap, rfl, fun y hy j z hz => ?_⟩
  have hj := (List.getElem?_eq_some_iff.1 hz).1
  rw [(own_more h' hy).cellAt j (by omega)]
  simp [ics, hz]

theorem wrap_mod (a D : Nat) (hD : 1 ≤ D) (hD2 : D ≤ 1000) (ha : a ≤ 100000) : (IntKind.i64.wrap (a : Int)).tmod (D : Int) = ((a % D : Nat) : Int) := by
  rw [show IntKind.i64.wrap (a : Int) = (a : Int) from IntWalk.i64_in _ ⟨by omega, by omega⟩, Int.tmod_eq_emod_of_nonneg (by omega)]
  omega

set_option maxRecDepth 100000 in
set_option maxHeartbeats 4000000 in
theorem orbits_law (v : Value) (zs : List Int) (x : Int) (w : World) (hv : IV w v zs) :
    Calls Try.prog 3 #[v, .int .i64 x] w fun e w' => e = .returned (.bool true) ∧ Below w.heap.size w w' := by
  have hv' := hid hv
  obtain ⟨av, n, cv, rfl, sv⟩ := hv
  have lv := sv.len
  have big := sv.big
  clear sv
  by_cases hout : n = 0 ∨ 200 < n
  · have hs := hid (sure_ok w)
    clear lv
    rcases hout with h1 | h1
    · subst h1
      go_enter Try.func3, Try.ntmps3
      go_wp2_with fail
      refine hs.out.mono ?_
      rintro e w1 ⟨rfl, b1⟩
      replace b1 := hid b1
      go_wp2_with fail
      go_ret
      exact ⟨rfl, b1.out⟩
    · have t1 : (200 : Int) < (n : Int) := by omega
      have t2 : ((n : Int) == 0) = false := by simp; omega
      have t3 : ¬ ((n : Int) = 0) := by omega
      have t4 : ¬ (n = 0) := by omega
      go_enter Try.func3, Try.ntmps3
      go_wp2_with fail
      refine hs.out.mono ?_
      rintro e w1 ⟨rfl, b1⟩
      replace b1 := hid b1
      go_wp2_with fail
      go_ret
      exact ⟨rfl, b1.out⟩
  · have hn : n ≤ 200 := by omega
    have hn1 : 1 ≤ n := by omega
    have t1 : ¬ (200 : Int) < (n : Int) := by omega
    have t2 : ((n : Int) == 0) = false := by simp; omega
    have t3 : ¬ ((n : Int) = 0) := by omega
    have t4 : ¬ (n = 0) := by omega
    clear hout
    by_cases hA : Ord zs
    · obtain ⟨f, pf, ef⟩ := hA.fn
      rw [lv] at pf ef
      have hI := hid (ef ▸ hv'.out)
      have c1 := hid (check_yes _ _ w hv'.out (by omega) hA)
      have c2 : Hid (∀ (k : Nat) y, k < n → Below w.heap.size w y → _) := hid (fun k y hk hy => orbit_yes _ n k f y (hI.out.below hy) pf hk (by omega))
      obtain ⟨k, hk, hkn⟩ := mod_inN x n hn1 (by omega)
      obtain ⟨p1, p2⟩ := pf.per_is hkn
      obtain ⟨D, hD⟩ : ∃ D, per f k = D := ⟨_, rfl⟩
      rw [hD] at p1 p2
      have hD1 := p1.pos
      have hol : Hid ((orb f k).length = D) := by rw [orb_len, hD]; exact hid rfl
      have hog : Hid (∀ i, i < D → (orb f k)[i]? = some (it f i k)) := fun i hi => orb_get (by omega)
      have hog2 : Hid (∀ i, i < D → (orb f (it f i k)).length = D ∧ ∀ j, j < D → (orb f (it f i k))[j]? = some (it f ((i + j) % D) k)) := fun i hi => by
        have q := (pf.per_on hkn p1 i).eq
        refine ⟨by rw [orb_len, q], fun j hj => ?_⟩
        rw [orb_get (by omega), ← it_add, p1.mod, Nat.add_comm]
      have hlt : Hid (∀ i, it f i k < n) := fun i => pf.it_lt hkn i
      have hfi : Hid (∀ i, f (it f i k) = it f ((i + 1) % D) k) := fun i => by rw [← p1.mod]; rfl
      replace p1 := hid p1
      clear hA ef lv hv' hD
      replace pf := hid pf
      have t5 : ¬ (n : Int) = 0 := t3
      have w5 : IntKind.u64.wrap (n : Int) = (n : Int) := by rw [IntKind.wrap_u64]; omega
      go_enter Try.func3, Try.ntmps3
      go_wp2_with fail
      refine c1.out.mono ?_
      rintro e w1 ⟨rfl, b1⟩
      replace b1 := hid b1
      clear c1
      go_wp2_with fail
      rw [hk]
      refine (c2.out k w1 hkn b1.out).mono ?_
      rintro e w2 ⟨a, rfl, ha, b2⟩
      obtain ⟨ga, ca, rfl, hca⟩ := ha.opened hol.out (by omega)
      replace b2 : Hid (Below w.heap.size w w2) := b1.out.trans (b2.mono b1.out.size)
      have hca0 : w2.cell? ⟨ga, 0, none⟩ = some (.int .i64 (k : Int)) := hca w2 (Below.refl _ _) 0 k (hog.out 0 (by omega))
      have hca2 : Hid (∀ y, Below w2.heap.size w2 y → ∀ i, i < D → y.cell? ⟨ga, i, none⟩ = some (.int .i64 (it f i k : Int))) := fun y hy i hi => hca y hy i _ (hog.out i hi)
      have d1 : ((D : Int) == 0) = false := by simp; omega
      have d2 : ¬ ((D : Int) = 0) := by omega
      have d3 : ¬ (D = 0) := by omega
      have d4 : (0 : Int) < (D : Int) := by omega
      clear hk b1 ha hca
      go_wp2_with fail
      go_loopw [8, 9, 10, 11] (fun u _ _ _ wr => ∃ i : Nat, i ≤ D ∧ u = .int .i64 (i : Int) ∧ Hid (Below w2.heap.size w2 wr)) (fun u _ _ _ _ => D - (intOf u).toNat)
      case atStart => exact ⟨0, by omega, by go_num, Below.refl _ _⟩
      case round =>
        obtain ⟨i, hi, rfl, hb⟩ := hrel
        clear hca0
        rcases Nat.lt_or_ge i D with hiD | hiD
        · have e1 := hca2.out wr hb.out i hiD
          have hy := hlt.out i
          have hbw : Hid (Below w.heap.size w wr) := b2.out.trans (hb.out.mono b2.out.size)
          have c3 := hid (c2.out (it f i k) wr hy hbw.out)
          obtain ⟨l1, l2⟩ := hog2.out i hiD
          have f1 := hfi.out i
          obtain ⟨y, hyy⟩ : ∃ y, it f i k = y := ⟨_, rfl⟩
          rw [hyy] at e1 hy c3 l1 l2 f1
          replace l2 := hid l2
          replace hyy := hid hyy
          replace f1 := hid f1
          have i1 : (0 : Int) ≤ (i : Int) := by omega
          have i2 : (i : Int) < (D : Int) := by omega
          go_wp2_with fail
          refine c3.out.mono ?_
          rintro e w3 ⟨b, rfl, hbb, b3⟩
          obtain ⟨gb, cb, rfl, hcb⟩ := hbb.opened l1 (by omega)
          have B3 : Hid (Below w2.heap.size w2 w3) := hb.out.trans (b3.mono hb.out.size)
          have B4 : Hid (Below w.heap.size w w3) := b2.out.trans (B3.out.mono b2.out.size)
          have hm1 : (i + 1) % D < D := Nat.mod_lt _ hD1
          have q1 := hca2.out w3 B3.out i hiD
          rw [hyy.out] at q1
          have q2 := hca2.out w3 B3.out ((i + 1) % D) hm1
          obtain ⟨_, _, _, e5, s5⟩ := hI.out.below B4.out
          obtain ⟨bp, op, e6, q3⟩ := s5.cell y _ (clfl_get hy)
          obtain ⟨rfl, rfl, rfl⟩ : av = _ ∧ n = _ ∧ cv = _ := by simpa using e5
          subst e6
          rw [f1.out] at q3
          have wm := wrap_mod (i + 1) D hD1 (by omega) (by omega)
          rw [show ((i + 1 : Nat) : Int) = (i : Int) + 1 from by omega] at wm
          obtain ⟨M, hM⟩ : ∃ M, (i + 1) % D = M := ⟨_, rfl⟩
          rw [hM] at wm hm1 q2 q3
          obtain ⟨z, hz⟩ : ∃ z, it f M k = z := ⟨_, rfl⟩
          rw [hz] at q2 q3
          have j1 : ¬ ((y : Int) < 0) := by omega
          have j2 : ¬ ((n : Int) ≤ (y : Int)) := by omega
          have j3 : (0 : Int) ≤ (y : Int) := by omega
          have j7 : decide ((n : Int) ≤ (y : Int)) = false := by simp; omega
          have j8 : decide (n ≤ y) = false := by simp; omega
          have j9 : ¬ (n ≤ y) := by omega
          have j4 : (y : Int) < (n : Int) := by omega
          have j5 : (0 : Int) ≤ (M : Int) := by omega
          have j6 : (M : Int) < (D : Int) := by omega
          have hcb2 : Hid (∀ y', Below w3.heap.size w3 y' → ∀ j, j < D → y'.cell? ⟨gb, j, none⟩ = some (.int .i64 (it f ((i + j) % D) k : Int))) := fun y' hy' j hj => hcb y' hy' j _ (l2.out j hj)
          clear hM hz c3 hcb b3 hbb l2 e1 e5 s5
          go_wp2_with fail
          go_quiet (fail)
          go_wp2_with fail
          go_loopw [11] (fun u wy => ∃ j : Nat, j ≤ D ∧ u = .int .i64 (j : Int) ∧ Hid (Below w3.heap.size w3 wy)) (fun u _ => D - (intOf u).toNat)
          case atStart => exact ⟨0, by omega, by go_num, belowN (Below.refl _ _) _⟩
          case round =>
            obtain ⟨j, hj, rfl, hbj⟩ := hrel
            clear q1 q2 q3 wm
            rcases Nat.lt_or_ge j D with hjD | hjD
            · have hm2 : (i + j) % D < D := Nat.mod_lt _ hD1
              have r1 := hcb2.out wr hbj.out j hjD
              have r2 := hca2.out wr (B3.out.trans (hbj.out.mono B3.out.size)) ((i + j) % D) hm2
              have wm := wrap_mod (i + j) D hD1 (by omega) (by omega)
              rw [show ((i + j : Nat) : Int) = (i : Int) + (j : Int) from by omega] at wm
              obtain ⟨M2, hM⟩ : ∃ M, (i + j) % D = M := ⟨_, rfl⟩
              rw [hM] at wm hm2 r1 r2
              generalize it f M2 k = z2 at r1 r2
              have k1 : (0 : Int) ≤ (j : Int) := by omega
              have k2 : (j : Int) < (D : Int) := by omega
              have k5 : (0 : Int) ≤ (M2 : Int) := by omega
              have k6 : (M2 : Int) < (D : Int) := by omega
              have hbj2 : Hid (∀ m, Below w3.heap.size w3 (wr.drewN m)) := fun m => belowN hbj.out m
              clear hM
              go_wp2_with fail
              go_quiet (fail)
              go_wp2_with fail
              go_roundw
              case rel => exact ⟨j + 1, by omega, by go_num, hbj2.out _⟩
              case measure => simp [intOf]; omega
            · obtain rfl : j = D := by omega
              have hnew : Hid (Below w2.heap.size w2 wr) := B3.out.trans (hbj.out.mono B3.out.size)
              go_wp2_with fail
              go_roundw
              case rel => exact ⟨i + 1, by omega, by go_num, hnew⟩
              case measure => simp [intOf]; omega
        · obtain rfl : i = D := by omega
          have hbw : Hid (Below w.heap.size w wr) := b2.out.trans (hb.out.mono b2.out.size)
          go_wp2_with fail
          refine (sure_ok wr).mono ?_
          rintro e w7 ⟨rfl, b7⟩
          replace b7 : Hid (Below w.heap.size w w7) := hbw.out.trans (b7.mono hbw.out.size)
          go_wp2_with fail
          go_ret
          exact ⟨rfl, b7.out⟩
    · have c1 := hid (check_no _ _ w hv'.out (by omega) hA)
      clear hA lv hv'
      go_enter Try.func3, Try.ntmps3
      go_wp2_with fail
      refine c1.out.mono ?_
      rintro e w1 ⟨rfl, b1⟩
      replace b1 := hid b1
      clear c1
      go_wp2_with fail
      refine (sure_ok w1).mono ?_
      rintro e w2 ⟨rfl, b2⟩
      replace b2 : Hid (Below w.heap.size w w2) := b1.out.trans (b2.mono b1.out.size)
      go_wp2_with fail
      go_ret
      exact ⟨rfl, b2.out⟩

end Go.Proofs.Ytjngdecpomogbaa
