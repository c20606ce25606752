/- answer's check, walked. -/
import Derived.Test.YtkopcfpghklbbaaDoorFit20
import Derived.Test.YtkopcfpghklbbaaDoorMem20
namespace Go.Proofs.YtkopcfpghklbbaaDoor
open Go.RowKit
set_option linter.unusedVariables false

theorem chk20_not {k : Int} {x : An} (h : ¬ (0 ≤ k ∧ k ≤ 17)) : chk20 k x = 10 := by unfold chk20; rw [if_pos (by omega)]
theorem chk20_in {k : Int} {x : An} (h0 : 0 ≤ k) (h1 : k ≤ 17) : chk20 k x = if (pb20 k x.err = true ∧ all20 (pe20 k x.err) x = true ∧ fit20 (pe20 k x.err) x.ds = true ∧ inr20 x = true) then 0 else 1 := by
  unfold chk20
  rw [if_neg (by omega)]
  by_cases h : may20 k x
  · rw [if_pos h, if_pos ((may20_iff h0 h1).1 h)]
  · rw [if_neg h, if_neg (fun q => h ((may20_iff h0 h1).2 q))]

/-- No parts. -/
abbrev zcs : Array Value := #[.int .i64 0, .bool false, .bool false, .bool false, .bool false, .bool false, .bool false, .bool false]

/-- What check answers. -/
abbrev cres (k : Int) (x : An) : Value := .tuple #[if chk20 k x = 0 then (pe20 k x.err).v else pz.v, erv (chk20 k x)]

/-- What is held of an answer's numbers. -/
structure W64 (x : An) : Prop where
  c0 : -9223372036854775808 ≤ x.c0 ∧ x.c0 ≤ 9223372036854775807
  c1 : -9223372036854775808 ≤ x.c1 ∧ x.c1 ≤ 9223372036854775807
  c2 : -9223372036854775808 ≤ x.c2 ∧ x.c2 ≤ 9223372036854775807
  c3 : -9223372036854775808 ≤ x.c3 ∧ x.c3 ≤ 9223372036854775807
  n : -9223372036854775808 ≤ x.n ∧ x.n ≤ 9223372036854775807
  e : -9223372036854775808 ≤ x.err ∧ x.err ≤ 9223372036854775807

set_option maxRecDepth 100000 in
set_option maxHeartbeats 8000000 in
theorem check_ok (k : Int) (x : An) (ha : Option Addr) (hn hc : Nat) (da : Option Addr) (dn dc : Nat) (ba : Option Addr) (bn bc : Nat) (w : World) (h1 : x.hs.length = hn) (hd : DV w da dn dc x.ds) (h3 : x.d.length = bn) (hl : dn ≤ 1000000) (hx : W64 x) :
    Calls Tryd.prog 19 #[.int .i64 k, av x (.slice ha hn hc) (.slice da dn dc) (.slice ba bn bc)] w fun r w' => r = .returned (cres k x) ∧ Below w.heap.size w w' := by
  have hic := hid (iscode_ok k)
  obtain ⟨C, hC⟩ : ∃ C, cres k x = C := ⟨_, rfl⟩
  rw [hC]
  by_cases hk : 0 ≤ k ∧ k ≤ 17
  · obtain ⟨k0, k1⟩ := hk
    have r1 : decide (0 ≤ k ∧ k ≤ 17) = true := decide_eq_true ⟨k0, k1⟩
    rw [r1] at hic
    have hC2 := chk20_in (x := x) k0 k1
    have hpo := hid (parts_ok (e := x.err) k0 k1)
    have hal := hid (all_ok k x.err x ha hc da dc ba bc hn dn bn h1 hd.len h3)
    have hin := hid (inrange_ok x (.slice ha hn hc) (.slice da dn dc) ba bn bc h3 (fun z hz => by
      rcases hz with rfl | rfl | rfl | rfl | rfl
      · exact hx.c0
      · exact hx.c1
      · exact hx.c2
      · exact hx.c3
      · exact hx.n))
    have hft : Hid (∀ w', Below w.heap.size w w' → Calls Tryd.prog 56 #[(pe20 k x.err).v, .slice da dn dc] w' fun e w'' => e = .returned (.bool (fit20 (pe20 k x.err) x.ds)) ∧ Below w'.heap.size w' w'') := fun w' hb => fit_ok (pe20 k x.err) x.ds da dn dc w' (hd.below hb) hl
    have hCv : ∀ c, chk20 k x = c → cres k x = .tuple #[if c = 0 then (pe20 k x.err).v else pz.v, erv c] := fun c hc => by subst hc; rfl
    clear h1 hd h3 hl hx r1
    obtain ⟨E, hE⟩ : ∃ E, pb20 k x.err = E := ⟨_, rfl⟩
    obtain ⟨A, hA⟩ : ∃ A, all20 (pe20 k x.err) x = A := ⟨_, rfl⟩
    obtain ⟨F, hF⟩ : ∃ F, fit20 (pe20 k x.err) x.ds = F := ⟨_, rfl⟩
    obtain ⟨I, hI⟩ : ∃ I, inr20 x = I := ⟨_, rfl⟩
    obtain ⟨p, hp⟩ : ∃ p, pe20 k x.err = p := ⟨_, rfl⟩
    rw [hE, hA, hF, hI] at hC2
    rw [hE] at hpo
    rw [hA] at hal
    rw [hF] at hft
    rw [hI] at hin
    rw [hp] at hpo hal hft hCv
    clear hE hA hF hI hp
    have hnewA := new_of20 w (acs x (.slice ha hn hc) (.slice da dn dc) (.slice ba bn bc)) 34
    have hb1 := balloc20 w (.cells (acs x (.slice ha hn hc) (.slice da dn dc) (.slice ba bn bc)) 34)
    obtain ⟨err, hs, is, n, ds, c0, c1, c2, c3, sum, d⟩ := x
    dsimp only at hpo hal hft hin
    replace hCv := hid hCv
    replace hC2 := hid hC2
    replace hC := hid hC
    obtain ⟨w1, hw1⟩ : ∃ w1, (w.alloc (.cells (acs ⟨err, hs, is, n, ds, c0, c1, c2, c3, sum, d⟩ (.slice ha hn hc) (.slice da dn dc) (.slice ba bn bc)) 34)).alloc (.cells zcs 67) = w1 := ⟨_, rfl⟩
    have nA := kept20 (new_of20 w (acs ⟨err, hs, is, n, ds, c0, c1, c2, c3, sum, d⟩ (.slice ha hn hc) (.slice da dn dc) (.slice ba bn bc)) 34) (balloc20 _ (.cells zcs 67))
    have nZ := new_of20 (w.alloc (.cells (acs ⟨err, hs, is, n, ds, c0, c1, c2, c3, sum, d⟩ (.slice ha hn hc) (.slice da dn dc) (.slice ba bn bc)) 34)) zcs 67
    have hB := (balloc20 w (.cells (acs ⟨err, hs, is, n, ds, c0, c1, c2, c3, sum, d⟩ (.slice ha hn hc) (.slice da dn dc) (.slice ba bn bc)) 34)).alloc (by simp) (.cells zcs 67)
    rw [hw1] at nA nZ hB
    have hsz : (w.alloc (.cells (acs ⟨err, hs, is, n, ds, c0, c1, c2, c3, sum, d⟩ (.slice ha hn hc) (.slice da dn dc) (.slice ba bn bc)) 34)).heap.size = w.heap.size + 1 := by simp
    rw [hsz] at nZ
    clear hsz
    have ha1 := hid (cell_of20 nA (j := 0) rfl)
    replace nA := hid nA
    replace nZ := hid nZ
    replace hB := hid hB
    go_enter Tryd.func19, Tryd.ntmps19
    go_wp2_with fail
    try rw [hw1]
    clear hw1
    refine (hic.out _).mono ?_
    rintro e w2 ⟨rfl, rfl⟩
    have a0 := ha1.out
    clear ha1
    go_wp2_with fail
    refine (hpo.out _).mono ?_
    rintro e w3 ⟨rfl, b3⟩
    replace nA := hid (kept20 nA.out b3)
    replace nZ := hid (kept20 nZ.out b3)
    replace hB := hid (hB.out.trans (b3.mono hB.out.size))
    clear b3 a0 hic
    go_upto_region 4 with fail
    obtain ⟨w4, hw4⟩ : ∃ w4, w3.alloc (.cells p.cs 67) = w4 := ⟨_, rfl⟩
    have nP := new_of20 w3 p.cs 67
    have b4 := balloc20 w3 (.cells p.cs 67)
    rw [hw4] at nP b4 ⊢
    replace nA := hid (kept20 nA.out b4)
    replace nZ := hid (kept20 nZ.out b4)
    replace hB := hid (hB.out.trans (b4.mono hB.out.size))
    replace nP := hid nP
    obtain ⟨Q, hQ⟩ : ∃ Q, w3.heap.size = Q := ⟨_, rfl⟩
    rw [hQ] at nP ⊢
    obtain ⟨R, hR⟩ : ∃ R, w.heap.size + 1 = R := ⟨_, rfl⟩
    rw [hR] at nZ ⊢
    clear b4 hw4 hQ hpo
    have a0 := cell_of20 nA.out (j := 0) rfl
    have a1 := cell_of20 nA.out (j := 1) rfl
    have a2 := cell_of20 nA.out (j := 2) rfl
    have a3 := cell_of20 nA.out (j := 3) rfl
    have a4 := cell_of20 nA.out (j := 4) rfl
    have a5 := cell_of20 nA.out (j := 5) rfl
    have a6 := cell_of20 nA.out (j := 6) rfl
    have a7 := cell_of20 nA.out (j := 7) rfl
    have a8 := cell_of20 nA.out (j := 8) rfl
    have a9 := cell_of20 nA.out (j := 9) rfl
    have a10 := cell_of20 nA.out (j := 10) rfl
    have p0 := cell_of20 nP.out (j := 0) rfl
    have p1 := cell_of20 nP.out (j := 1) rfl
    have p2 := cell_of20 nP.out (j := 2) rfl
    have p3 := cell_of20 nP.out (j := 3) rfl
    have p4 := cell_of20 nP.out (j := 4) rfl
    have p5 := cell_of20 nP.out (j := 5) rfl
    have p6 := cell_of20 nP.out (j := 6) rfl
    have p7 := cell_of20 nP.out (j := 7) rfl
    have z0 := cell_of20 nZ.out (j := 0) rfl
    have z1 := cell_of20 nZ.out (j := 1) rfl
    have z2 := cell_of20 nZ.out (j := 2) rfl
    have z3 := cell_of20 nZ.out (j := 3) rfl
    have z4 := cell_of20 nZ.out (j := 4) rfl
    have z5 := cell_of20 nZ.out (j := 5) rfl
    have z6 := cell_of20 nZ.out (j := 6) rfl
    have z7 := cell_of20 nZ.out (j := 7) rfl
    have f0 := frozen_of (k := 0) nZ.out
    have f1 := frozen_of (k := 1) nZ.out
    have f2 := frozen_of (k := 2) nZ.out
    have f3 := frozen_of (k := 3) nZ.out
    have f4 := frozen_of (k := 4) nZ.out
    have f5 := frozen_of (k := 5) nZ.out
    have f6 := frozen_of (k := 6) nZ.out
    have f7 := frozen_of (k := 7) nZ.out
    cases E
    · clear hal hft hin
      have hE2 : Hid (C = .tuple #[pz.v, erv 1]) := by
        show _ = _
        rw [← hC.out, hCv.out 1 (by rw [hC2.out]; exact if_neg (by simp))]
        rfl
      have hfin := hid (set8_block nZ.out (.int .i64 0) (.bool false) (.bool false) (.bool false) (.bool false) (.bool false) (.bool false) (.bool false))
      have hbz := hid (set8_below hB.out (g := R) (by omega) (.int .i64 0) (.bool false) (.bool false) (.bool false) (.bool false) (.bool false) (.bool false) (.bool false))
      go_wp2_with fail
      refine bodyPost_ret (results_cell2 rfl _ _ R 67 _ (0, 0) _ rfl hfin.out Tryd.underlying67 rfl (by kernel_rfl)) rfl ?_
      rw [hE2.out]
      exact ⟨rfl, hbz.out⟩

    · go_wp2_with fail
      refine (hal.out _).mono ?_
      rintro e w5 ⟨rfl, b5⟩
      clear a0 a1 a2 a3 a4 a5 a6 a7 a8 a9 a10 p0 p1 p2 p3 p4 p5 p6 p7 f0 f1 f2 f3 f4 f5 f6 f7 z0 z1 z2 z3 z4 z5 z6 z7
      replace nA := hid (kept20 nA.out b5)
      replace nP := hid (kept20 nP.out b5)
      replace nZ := hid (kept20 nZ.out b5)
      replace hB := hid (hB.out.trans (b5.mono hB.out.size))
      clear b5
      have a0 := cell_of20 nA.out (j := 0) rfl
      have a1 := cell_of20 nA.out (j := 1) rfl
      have a2 := cell_of20 nA.out (j := 2) rfl
      have a3 := cell_of20 nA.out (j := 3) rfl
      have a4 := cell_of20 nA.out (j := 4) rfl
      have a5 := cell_of20 nA.out (j := 5) rfl
      have a6 := cell_of20 nA.out (j := 6) rfl
      have a7 := cell_of20 nA.out (j := 7) rfl
      have a8 := cell_of20 nA.out (j := 8) rfl
      have a9 := cell_of20 nA.out (j := 9) rfl
      have a10 := cell_of20 nA.out (j := 10) rfl
      have p0 := cell_of20 nP.out (j := 0) rfl
      have p1 := cell_of20 nP.out (j := 1) rfl
      have p2 := cell_of20 nP.out (j := 2) rfl
      have p3 := cell_of20 nP.out (j := 3) rfl
      have p4 := cell_of20 nP.out (j := 4) rfl
      have p5 := cell_of20 nP.out (j := 5) rfl
      have p6 := cell_of20 nP.out (j := 6) rfl
      have p7 := cell_of20 nP.out (j := 7) rfl
      have z0 := cell_of20 nZ.out (j := 0) rfl
      have z1 := cell_of20 nZ.out (j := 1) rfl
      have z2 := cell_of20 nZ.out (j := 2) rfl
      have z3 := cell_of20 nZ.out (j := 3) rfl
      have z4 := cell_of20 nZ.out (j := 4) rfl
      have z5 := cell_of20 nZ.out (j := 5) rfl
      have z6 := cell_of20 nZ.out (j := 6) rfl
      have z7 := cell_of20 nZ.out (j := 7) rfl
      have f0 := frozen_of (k := 0) nZ.out
      have f1 := frozen_of (k := 1) nZ.out
      have f2 := frozen_of (k := 2) nZ.out
      have f3 := frozen_of (k := 3) nZ.out
      have f4 := frozen_of (k := 4) nZ.out
      have f5 := frozen_of (k := 5) nZ.out
      have f6 := frozen_of (k := 6) nZ.out
      have f7 := frozen_of (k := 7) nZ.out

      cases A
      · clear hal hft hin
        have hE2 : Hid (C = .tuple #[pz.v, erv 1]) := by
          show _ = _
          rw [← hC.out, hCv.out 1 (by rw [hC2.out]; exact if_neg (by simp))]
          rfl
        have hfin := hid (set8_block nZ.out (.int .i64 0) (.bool false) (.bool false) (.bool false) (.bool false) (.bool false) (.bool false) (.bool false))
        have hbz := hid (set8_below hB.out (g := R) (by omega) (.int .i64 0) (.bool false) (.bool false) (.bool false) (.bool false) (.bool false) (.bool false) (.bool false))
        go_wp2_with fail
        refine bodyPost_ret (results_cell2 rfl _ _ R 67 _ (0, 0) _ rfl hfin.out Tryd.underlying67 rfl (by kernel_rfl)) rfl ?_
        rw [hE2.out]
        exact ⟨rfl, hbz.out⟩

      · go_wp2_with fail
        refine (hft.out _ hB.out).mono ?_
        rintro e w5 ⟨rfl, b5⟩
        clear a0 a1 a2 a3 a4 a5 a6 a7 a8 a9 a10 p0 p1 p2 p3 p4 p5 p6 p7 f0 f1 f2 f3 f4 f5 f6 f7 z0 z1 z2 z3 z4 z5 z6 z7
        replace nA := hid (kept20 nA.out b5)
        replace nP := hid (kept20 nP.out b5)
        replace nZ := hid (kept20 nZ.out b5)
        replace hB := hid (hB.out.trans (b5.mono hB.out.size))
        clear b5
        have a0 := cell_of20 nA.out (j := 0) rfl
        have a1 := cell_of20 nA.out (j := 1) rfl
        have a2 := cell_of20 nA.out (j := 2) rfl
        have a3 := cell_of20 nA.out (j := 3) rfl
        have a4 := cell_of20 nA.out (j := 4) rfl
        have a5 := cell_of20 nA.out (j := 5) rfl
        have a6 := cell_of20 nA.out (j := 6) rfl
        have a7 := cell_of20 nA.out (j := 7) rfl
        have a8 := cell_of20 nA.out (j := 8) rfl
        have a9 := cell_of20 nA.out (j := 9) rfl
        have a10 := cell_of20 nA.out (j := 10) rfl
        have p0 := cell_of20 nP.out (j := 0) rfl
        have p1 := cell_of20 nP.out (j := 1) rfl
        have p2 := cell_of20 nP.out (j := 2) rfl
        have p3 := cell_of20 nP.out (j := 3) rfl
        have p4 := cell_of20 nP.out (j := 4) rfl
        have p5 := cell_of20 nP.out (j := 5) rfl
        have p6 := cell_of20 nP.out (j := 6) rfl
        have p7 := cell_of20 nP.out (j := 7) rfl
        have z0 := cell_of20 nZ.out (j := 0) rfl
        have z1 := cell_of20 nZ.out (j := 1) rfl
        have z2 := cell_of20 nZ.out (j := 2) rfl
        have z3 := cell_of20 nZ.out (j := 3) rfl
        have z4 := cell_of20 nZ.out (j := 4) rfl
        have z5 := cell_of20 nZ.out (j := 5) rfl
        have z6 := cell_of20 nZ.out (j := 6) rfl
        have z7 := cell_of20 nZ.out (j := 7) rfl
        have f0 := frozen_of (k := 0) nZ.out
        have f1 := frozen_of (k := 1) nZ.out
        have f2 := frozen_of (k := 2) nZ.out
        have f3 := frozen_of (k := 3) nZ.out
        have f4 := frozen_of (k := 4) nZ.out
        have f5 := frozen_of (k := 5) nZ.out
        have f6 := frozen_of (k := 6) nZ.out
        have f7 := frozen_of (k := 7) nZ.out

        cases F
        · clear hal hft hin
          have hE2 : Hid (C = .tuple #[pz.v, erv 1]) := by
            show _ = _
            rw [← hC.out, hCv.out 1 (by rw [hC2.out]; exact if_neg (by simp))]
            rfl
          have hfin := hid (set8_block nZ.out (.int .i64 0) (.bool false) (.bool false) (.bool false) (.bool false) (.bool false) (.bool false) (.bool false))
          have hbz := hid (set8_below hB.out (g := R) (by omega) (.int .i64 0) (.bool false) (.bool false) (.bool false) (.bool false) (.bool false) (.bool false) (.bool false))
          go_wp2_with fail
          refine bodyPost_ret (results_cell2 rfl _ _ R 67 _ (0, 0) _ rfl hfin.out Tryd.underlying67 rfl (by kernel_rfl)) rfl ?_
          rw [hE2.out]
          exact ⟨rfl, hbz.out⟩

        · go_wp2_with fail
          refine (hin.out _).mono ?_
          rintro e w5 ⟨rfl, b5⟩
          clear a0 a1 a2 a3 a4 a5 a6 a7 a8 a9 a10 p0 p1 p2 p3 p4 p5 p6 p7 f0 f1 f2 f3 f4 f5 f6 f7 z0 z1 z2 z3 z4 z5 z6 z7
          replace nA := hid (kept20 nA.out b5)
          replace nP := hid (kept20 nP.out b5)
          replace nZ := hid (kept20 nZ.out b5)
          replace hB := hid (hB.out.trans (b5.mono hB.out.size))
          clear b5
          have a0 := cell_of20 nA.out (j := 0) rfl
          have a1 := cell_of20 nA.out (j := 1) rfl
          have a2 := cell_of20 nA.out (j := 2) rfl
          have a3 := cell_of20 nA.out (j := 3) rfl
          have a4 := cell_of20 nA.out (j := 4) rfl
          have a5 := cell_of20 nA.out (j := 5) rfl
          have a6 := cell_of20 nA.out (j := 6) rfl
          have a7 := cell_of20 nA.out (j := 7) rfl
          have a8 := cell_of20 nA.out (j := 8) rfl
          have a9 := cell_of20 nA.out (j := 9) rfl
          have a10 := cell_of20 nA.out (j := 10) rfl
          have p0 := cell_of20 nP.out (j := 0) rfl
          have p1 := cell_of20 nP.out (j := 1) rfl
          have p2 := cell_of20 nP.out (j := 2) rfl
          have p3 := cell_of20 nP.out (j := 3) rfl
          have p4 := cell_of20 nP.out (j := 4) rfl
          have p5 := cell_of20 nP.out (j := 5) rfl
          have p6 := cell_of20 nP.out (j := 6) rfl
          have p7 := cell_of20 nP.out (j := 7) rfl
          have z0 := cell_of20 nZ.out (j := 0) rfl
          have z1 := cell_of20 nZ.out (j := 1) rfl
          have z2 := cell_of20 nZ.out (j := 2) rfl
          have z3 := cell_of20 nZ.out (j := 3) rfl
          have z4 := cell_of20 nZ.out (j := 4) rfl
          have z5 := cell_of20 nZ.out (j := 5) rfl
          have z6 := cell_of20 nZ.out (j := 6) rfl
          have z7 := cell_of20 nZ.out (j := 7) rfl
          have f0 := frozen_of (k := 0) nZ.out
          have f1 := frozen_of (k := 1) nZ.out
          have f2 := frozen_of (k := 2) nZ.out
          have f3 := frozen_of (k := 3) nZ.out
          have f4 := frozen_of (k := 4) nZ.out
          have f5 := frozen_of (k := 5) nZ.out
          have f6 := frozen_of (k := 6) nZ.out
          have f7 := frozen_of (k := 7) nZ.out

          cases I
          · clear hal hft hin
            have hE2 : Hid (C = .tuple #[pz.v, erv 1]) := by
              show _ = _
              rw [← hC.out, hCv.out 1 (by rw [hC2.out]; exact if_neg (by simp))]
              rfl
            have hfin := hid (set8_block nZ.out (.int .i64 0) (.bool false) (.bool false) (.bool false) (.bool false) (.bool false) (.bool false) (.bool false))
            have hbz := hid (set8_below hB.out (g := R) (by omega) (.int .i64 0) (.bool false) (.bool false) (.bool false) (.bool false) (.bool false) (.bool false) (.bool false))
            go_wp2_with fail
            refine bodyPost_ret (results_cell2 rfl _ _ R 67 _ (0, 0) _ rfl hfin.out Tryd.underlying67 rfl (by kernel_rfl)) rfl ?_
            rw [hE2.out]
            exact ⟨rfl, hbz.out⟩

          · clear hal hft hin
            have hE2 : Hid (C = .tuple #[p.v, erv 0]) := by
              show _ = _
              rw [← hC.out, hCv.out 0 (by rw [hC2.out]; exact if_pos (by simp))]
              rfl
            have hfin := hid (set8_block nZ.out (.int .i64 (p.h : Int)) (.bool p.t) (.bool p.f) (.bool p.i) (.bool p.n) (.bool p.c) (.bool p.s) (.bool p.d))
            have hbz := hid (set8_below hB.out (g := R) (by omega) (.int .i64 (p.h : Int)) (.bool p.t) (.bool p.f) (.bool p.i) (.bool p.n) (.bool p.c) (.bool p.s) (.bool p.d))
            go_wp2_with fail
            refine bodyPost_ret (results_cell2 rfl _ _ R 67 _ (0, 0) _ rfl hfin.out Tryd.underlying67 rfl (by kernel_rfl)) rfl ?_
            rw [hE2.out]
            exact ⟨rfl, hbz.out⟩
  · have r1 : decide (0 ≤ k ∧ k ≤ 17) = false := decide_eq_false hk
    rw [r1] at hic
    have hC2 := chk20_not (x := x) hk
    have hC3 : Hid (C = .tuple #[pz.v, erv 10]) := by
      show _ = _
      rw [← hC]
      unfold cres
      rw [hC2]
      rfl
    clear hC hC2 r1 hk h1 hd h3 hl hx
    go_enter Tryd.func19, Tryd.ntmps19
    go_wp2_with fail
    refine (hic.out _).mono ?_
    rintro e w2 ⟨rfl, rfl⟩
    go_wp2_with fail
    go_returns
    rw [hC3.out]
    exact ⟨rfl, (below20 _).alloc (by simp) _⟩

end Go.Proofs.YtkopcfpghklbbaaDoor
