/- 'RingNew', walked. -/
import Derived.Test.YtiiklklokkcnpaaDoorNil5
import Derived.Test.YtiiklklokkcnpaaDoorSure5
import Derived.Test.YtiiklklokkcnpaaDoorHand5
import Derived.Test.YtiiklklokkcnpaaDoorPure5
namespace Go.Proofs.YtiiklklokkcnpaaDoor
open Go.RowKit
set_option linter.unusedVariables false

set_option maxRecDepth 100000 in
set_option maxHeartbeats 8000000 in
theorem new_law (n x : Int) (w : World) (hg : Handle w) :
    Calls Tryd.prog 4 #[.int .i64 n, .int .i64 x] w fun e w' => e = .returned (.bool true) ∧ Below w.heap.size w w' := by
  obtain ⟨k, hkn, hkd⟩ : ∃ k : Int, ((3000 < n ∧ n ≤ 8388608) → k = 3000) ∧ (¬ (3000 < n ∧ n ≤ 8388608) → k = n) := by
    by_cases h : 3000 < n ∧ n ≤ 8388608
    · exact ⟨3000, fun _ => rfl, fun c => absurd h c⟩
    · exact ⟨n, fun c => absurd c h, fun _ => rfl⟩
  have hg0 := hid hg
  clear hg
  go_enter Tryd.func4, Tryd.ntmps4
  go_wp2_with fail
  refine (gwalk_nil 0 _).mono ?_
  rintro e w1 ⟨rfl, b⟩
  have B1 : Hid (Below w.heap.size w w1) := hid ((Below.refl w.heap.size w).trans (b.mono (Below.refl w.heap.size w).size))
  have hg1 := hid (hg0.out.below b)
  clear b hg0
  go_wp2_with fail
  refine (gnext_nil 0 _).mono ?_
  rintro e w2 ⟨rfl, b⟩
  have B2 : Hid (Below w.heap.size w w2) := hid ((B1.out).trans (b.mono (B1.out).size))
  have hg2 := hid (hg1.out.below b)
  clear b B1 hg1
  go_wp2_with fail
  refine (gsame_nil 0 0 _).mono ?_
  rintro e w3 ⟨rfl, b⟩
  have B3 : Hid (Below w.heap.size w w3) := hid ((B2.out).trans (b.mono (B2.out).size))
  have hg3 := hid (hg2.out.below b)
  clear b B2 hg2
  go_wp2_with fail
  refine (gfront_nil 0 _).mono ?_
  rintro e w4 ⟨rfl, b⟩
  have B4 : Hid (Below w.heap.size w w4) := hid ((B3.out).trans (b.mono (B3.out).size))
  have hg4 := hid (hg3.out.below b)
  clear b B3 hg3
  go_wp2_with fail
  refine (gsplit_nil 0 1 _).mono ?_
  rintro e w5 ⟨rfl, b⟩
  have B5 : Hid (Below w.heap.size w w5) := hid ((B4.out).trans (b.mono (B4.out).size))
  have hg5 := hid (hg4.out.below b)
  clear b B4 hg4
  go_wp2_with fail
  refine (num_err 1 _ (hg5.out)).mono ?_
  rintro e w6 ⟨rfl, b⟩
  have B6 : Hid (Below w.heap.size w w6) := hid ((B5.out).trans (b.mono (B5.out).size))
  have hg6 := hid (hg5.out.below b)
  clear b B5 hg5
  go_wp2_with fail
  refine (gmerge_nil 0 1 _).mono ?_
  rintro e w7 ⟨rfl, b⟩
  have B7 : Hid (Below w.heap.size w w7) := hid ((B6.out).trans (b.mono (B6.out).size))
  have hg7 := hid (hg6.out.below b)
  clear b B6 hg6
  go_wp2_with fail
  refine (num_err 1 _ (hg7.out)).mono ?_
  rintro e w8 ⟨rfl, b⟩
  have B8 : Hid (Below w.heap.size w w8) := hid ((B7.out).trans (b.mono (B7.out).size))
  have hg8 := hid (hg7.out.below b)
  clear b B7 hg7
  go_wp2_with fail
  refine (gapart_nil 0 _).mono ?_
  rintro e w9 ⟨rfl, b⟩
  have B9 : Hid (Below w.heap.size w w9) := hid ((B8.out).trans (b.mono (B8.out).size))
  have hg9 := hid (hg8.out.below b)
  clear b B8 hg8
  go_wp2_with fail
  refine (num_err 1 _ (hg9.out)).mono ?_
  rintro e w10 ⟨rfl, b⟩
  have B10 : Hid (Below w.heap.size w w10) := hid ((B9.out).trans (b.mono (B9.out).size))
  have hg10 := hid (hg9.out.below b)
  clear b B9 hg9
  go_wp2_with fail
  refine (gturn_nil 0 _).mono ?_
  rintro e w11 ⟨rfl, b⟩
  have B11 : Hid (Below w.heap.size w w11) := hid ((B10.out).trans (b.mono (B10.out).size))
  have hg11 := hid (hg10.out.below b)
  clear b B10 hg10
  go_wp2_with fail
  refine (num_err 1 _ (hg11.out)).mono ?_
  rintro e w12 ⟨rfl, b⟩
  have B12 : Hid (Below w.heap.size w w12) := hid ((B11.out).trans (b.mono (B11.out).size))
  have hg12 := hid (hg11.out.below b)
  clear b B11 hg11
  go_wp2_with fail
  refine (num_err 1 _ (hg12.out)).mono ?_
  rintro e w13 ⟨rfl, b⟩
  have B13 : Hid (Below w.heap.size w w13) := hid ((B12.out).trans (b.mono (B12.out).size))
  have hg13 := hid (hg12.out.below b)
  clear b B12 hg12
  go_wp2_with fail
  refine (num_err 1 _ (hg13.out)).mono ?_
  rintro e w14 ⟨rfl, b⟩
  have B14 : Hid (Below w.heap.size w w14) := hid ((B13.out).trans (b.mono (B13.out).size))
  have hg14 := hid (hg13.out.below b)
  clear b B13 hg13
  go_wp2_with fail
  refine (num_err 1 _ (hg14.out)).mono ?_
  rintro e w15 ⟨rfl, b⟩
  have B15 : Hid (Below w.heap.size w w15) := hid ((B14.out).trans (b.mono (B14.out).size))
  have hg15 := hid (hg14.out.below b)
  clear b B14 hg14
  go_wp2_with fail
  refine (num_err 1 _ (hg15.out)).mono ?_
  rintro e w16 ⟨rfl, b⟩
  have B16 : Hid (Below w.heap.size w w16) := hid ((B15.out).trans (b.mono (B15.out).size))
  have hg16 := hid (hg15.out.below b)
  clear b B15 hg15
  generalize w16 = wn at B16 hg16 ⊢
  have Bn := B16
  have hgn := hg16
  clear B16 hg16
  by_cases hmid : 3000 < n ∧ n ≤ 8388608
  · obtain rfl : k = 3000 := hkn hmid
    have q1 : decide (3000 < n) = true := decide_eq_true hmid.1
    have q2 : decide (n ≤ 8388608) = true := decide_eq_true hmid.2
    clear hkn hkd hmid
    have hb := hid (gnew_ok 3000 wn (by decide) (by decide))
    have hK : Hid ((3000 : Nat) = 3000) := hid rfl
    go_wp2_with fail
    refine hb.out.mono ?_
    rintro e wa ⟨rb, fb, rfl, h1⟩
    have hg1 := hid (h1.fs.handle hgn.out rfl)
    have hgr : Hid (∀ y, RG wn.heap.size wn rb fb 3000 zero one y → Handle y) := hid (fun y hy => hy.fs.handle hgn.out rfl)
    have h1 := hid h1
    clear hb hg1
    by_cases hin : 0 ≤ x ∧ x < (3000 : Int)
    · obtain ⟨X, rfl⟩ : ∃ X : Nat, x = (X : Int) := ⟨x.toNat, by omega⟩
      have hXK : X < 3000 := by omega
      have v1 : decide ((X : Int) < 0) = false := decide_eq_false (by omega)
      have v2 : decide ((3000 : Int) ≤ (X : Int)) = false := decide_eq_false (by omega)
      have v2' : decide (3000 ≤ X) = false := decide_eq_false (by omega)
      go_wp2_with fail
      refine (h1.out.walk X hXK).mono ?_
      rintro e wc ⟨u, rfl, r, h2, k2⟩
      rw [rot_one X] at r
      have hlit := lit1 wc (X : Int)
      have hb5 := (Below.refl wc.heap.size wc).alloc (Nat.le_refl _) (.cells #[.int .i64 (X : Int)] 3)
      have m5 := (r.below hb5).ns (by simp)
      rw [show items [X + 1] = [(X : Int)] from by unfold items; simp] at m5
      replace m5 := hid m5
      replace hlit := hid hlit
      have h6 := hid (h2.alloc (.cells #[.int .i64 (X : Int)] 3))
      clear h1 k2 r hb5 h2
      go_wp2_with fail
      refine (ints_ok _ _ _ _ m5.out hlit.out).mono ?_
      rintro e wd ⟨rfl, bd⟩
      have h7 := hid (h6.out.more bd)
      clear h6 bd m5 hlit
      go_wp2_with fail
      refine (sure_ok _).mono ?_
      rintro e ws ⟨rfl, bs⟩
      have hs := hid (h7.out.more bs)
      clear bs
      go_wp2_with fail
      go_ret
      exact ⟨rfl, Bn.out.trans (hs.out.fs.below.mono Bn.out.size)⟩
    · have hc : x < 0 ∨ (¬ x < 0 ∧ (3000 : Int) ≤ x) := by omega
      go_wp2_with fail
      refine (h1.out.walk_bad x hin).mono ?_
      rintro e wc ⟨rfl, h2, k2⟩
      have hl := hid (h2.len_bad x hin)
      clear h1 k2 h2
      rcases hc with c1 | ⟨c1, c2⟩
      all_goals
        first
          | (have v1 : decide (x < 0) = true := decide_eq_true (by omega))
          | (have v1 : decide (x < 0) = false := decide_eq_false (by omega); have v2 : decide ((3000 : Int) ≤ x) = true := decide_eq_true (by omega))
        go_wp2_with fail
        refine hl.out.mono ?_
        rintro e wd ⟨rfl, h3, k3⟩
        have hp := hid (h3.prev_bad x hin)
        clear k3 h3
        go_wp2_with fail
        refine hp.out.mono ?_
        rintro e we ⟨rfl, h4, k4⟩
        have h4 := hid h4
        clear k4 hp
        go_wp2_with fail
        refine (num_err 12 _ (hgr.out _ h4.out)).mono ?_
        rintro e w5 ⟨rfl, b5⟩
        have h5 := hid (h4.out.more b5)
        clear h4 b5
        go_wp2_with fail
        refine (num_err 12 _ (hgr.out _ h5.out)).mono ?_
        rintro e w6 ⟨rfl, b6⟩
        have h6 := hid (h5.out.more b6)
        clear h5 b6
        go_wp2_with fail
        refine (num_err 12 _ (hgr.out _ h6.out)).mono ?_
        rintro e w7 ⟨rfl, b7⟩
        have h7 := hid (h6.out.more b7)
        clear h6 b7
        go_wp2_with fail
        refine (h7.out.apart_bad x hin).mono ?_
        rintro e w8 ⟨rfl, h8, k8⟩
        have h8 := hid h8
        clear h7 k8
        go_wp2_with fail
        refine (num_err 12 _ (hgr.out _ h8.out)).mono ?_
        rintro e w9 ⟨rfl, b9⟩
        have h9 := hid (h8.out.more b9)
        clear h8 b9
        go_wp2_with fail
        refine (h9.out.turn_bad x hin).mono ?_
        rintro e wf ⟨rfl, hA, kA⟩
        have hA := hid hA
        clear h9 kA
        go_wp2_with fail
        refine (num_err 12 _ (hgr.out _ hA.out)).mono ?_
        rintro e wh ⟨rfl, bB⟩
        have hB := hid (hA.out.more bB)
        clear hA bB
        go_wp2_with fail
        refine (sure_ok _).mono ?_
        rintro e ws ⟨rfl, bs⟩
        have hs := hid (hB.out.more bs)
        clear bs
        go_wp2_with fail
        go_ret
        exact ⟨rfl, Bn.out.trans (hs.out.fs.below.mono Bn.out.size)⟩
  · obtain rfl : k = n := hkd hmid
    have hnq : ¬ 3000 < k ∨ (3000 < k ∧ ¬ k ≤ 8388608) := by omega
    clear hkn hkd hmid
    rcases hnq with q1 | ⟨q1, q2⟩
    · have q3 : decide (3000 < k) = false := decide_eq_false q1
      by_cases hbad : k < 1 ∨ 8388608 < k
      · have hc : k < 1 ∨ (¬ k < 1 ∧ 8388608 < k) := by omega
        have hb := hid (gnew_bad k wn hbad)
        clear hbad
        rcases hc with c1 | ⟨c1, c2⟩
        all_goals
          go_wp2_with fail
          refine hb.out.mono ?_
          rintro e wa ⟨rfl, rfl⟩
          first
            | (have u1 : decide (k < 1) = true := decide_eq_true (by omega))
            | (have u1 : decide (k < 1) = false := decide_eq_false (by omega); have u2 : decide (8388608 < k) = true := decide_eq_true (by omega))
          go_wp2_with fail
          refine (num_err 1 _ hgn.out).mono ?_
          rintro e wc ⟨rfl, bc⟩
          have Bc := hid (Bn.out.trans (bc.mono Bn.out.size))
          clear bc
          go_wp2_with fail
          refine (sure_ok _).mono ?_
          rintro e ws ⟨rfl, bs⟩
          have Bs := hid (Bc.out.trans (bs.mono Bc.out.size))
          clear bs
          go_wp2_with fail
          go_ret
          exact ⟨rfl, Bs.out⟩
      · obtain ⟨K, rfl⟩ : ∃ K : Nat, k = (K : Int) := ⟨k.toNat, by omega⟩
        have hK1 : 1 ≤ K := by omega
        have hK2 : K ≤ 8388608 := by omega
        have u1 : decide ((K : Int) < 1) = false := decide_eq_false (by omega)
        have u2 : decide (8388608 < (K : Int)) = false := decide_eq_false (by omega)
        have u2' : decide (8388608 < K) = false := decide_eq_false (by omega)
        have hb := hid (gnew_ok K wn hK1 hK2)
        go_wp2_with fail
        refine hb.out.mono ?_
        rintro e wa ⟨rb, fb, rfl, h1⟩
        have hg1 := hid (h1.fs.handle hgn.out rfl)
        have hgr : Hid (∀ y, RG wn.heap.size wn rb fb K zero one y → Handle y) := hid (fun y hy => hy.fs.handle hgn.out rfl)
        have h1 := hid h1
        clear hb hg1
        by_cases hin : 0 ≤ x ∧ x < (K : Int)
        · obtain ⟨X, rfl⟩ : ∃ X : Nat, x = (X : Int) := ⟨x.toNat, by omega⟩
          have hXK : X < K := by omega
          have v1 : decide ((X : Int) < 0) = false := decide_eq_false (by omega)
          have v2 : decide ((K : Int) ≤ (X : Int)) = false := decide_eq_false (by omega)
          have v2' : decide (K ≤ X) = false := decide_eq_false (by omega)
          go_wp2_with fail
          refine (h1.out.walk X hXK).mono ?_
          rintro e wc ⟨u, rfl, r, h2, k2⟩
          rw [rot_one X] at r
          have hlit := lit1 wc (X : Int)
          have hb5 := (Below.refl wc.heap.size wc).alloc (Nat.le_refl _) (.cells #[.int .i64 (X : Int)] 3)
          have m5 := (r.below hb5).ns (by simp)
          rw [show items [X + 1] = [(X : Int)] from by unfold items; simp] at m5
          replace m5 := hid m5
          replace hlit := hid hlit
          have h6 := hid (h2.alloc (.cells #[.int .i64 (X : Int)] 3))
          clear h1 k2 r hb5 h2
          go_wp2_with fail
          refine (ints_ok _ _ _ _ m5.out hlit.out).mono ?_
          rintro e wd ⟨rfl, bd⟩
          have h7 := hid (h6.out.more bd)
          clear h6 bd m5 hlit
          go_wp2_with fail
          refine (sure_ok _).mono ?_
          rintro e ws ⟨rfl, bs⟩
          have hs := hid (h7.out.more bs)
          clear bs
          go_wp2_with fail
          go_ret
          exact ⟨rfl, Bn.out.trans (hs.out.fs.below.mono Bn.out.size)⟩
        · have hc : x < 0 ∨ (¬ x < 0 ∧ (K : Int) ≤ x) := by omega
          go_wp2_with fail
          refine (h1.out.walk_bad x hin).mono ?_
          rintro e wc ⟨rfl, h2, k2⟩
          have hl := hid (h2.len_bad x hin)
          clear h1 k2 h2
          rcases hc with c1 | ⟨c1, c2⟩
          all_goals
            first
              | (have v1 : decide (x < 0) = true := decide_eq_true (by omega))
              | (have v1 : decide (x < 0) = false := decide_eq_false (by omega); have v2 : decide ((K : Int) ≤ x) = true := decide_eq_true (by omega))
            go_wp2_with fail
            refine hl.out.mono ?_
            rintro e wd ⟨rfl, h3, k3⟩
            have hp := hid (h3.prev_bad x hin)
            clear k3 h3
            go_wp2_with fail
            refine hp.out.mono ?_
            rintro e we ⟨rfl, h4, k4⟩
            have h4 := hid h4
            clear k4 hp
            go_wp2_with fail
            refine (num_err 12 _ (hgr.out _ h4.out)).mono ?_
            rintro e w5 ⟨rfl, b5⟩
            have h5 := hid (h4.out.more b5)
            clear h4 b5
            go_wp2_with fail
            refine (num_err 12 _ (hgr.out _ h5.out)).mono ?_
            rintro e w6 ⟨rfl, b6⟩
            have h6 := hid (h5.out.more b6)
            clear h5 b6
            go_wp2_with fail
            refine (num_err 12 _ (hgr.out _ h6.out)).mono ?_
            rintro e w7 ⟨rfl, b7⟩
            have h7 := hid (h6.out.more b7)
            clear h6 b7
            go_wp2_with fail
            refine (h7.out.apart_bad x hin).mono ?_
            rintro e w8 ⟨rfl, h8, k8⟩
            have h8 := hid h8
            clear h7 k8
            go_wp2_with fail
            refine (num_err 12 _ (hgr.out _ h8.out)).mono ?_
            rintro e w9 ⟨rfl, b9⟩
            have h9 := hid (h8.out.more b9)
            clear h8 b9
            go_wp2_with fail
            refine (h9.out.turn_bad x hin).mono ?_
            rintro e wf ⟨rfl, hA, kA⟩
            have hA := hid hA
            clear h9 kA
            go_wp2_with fail
            refine (num_err 12 _ (hgr.out _ hA.out)).mono ?_
            rintro e wh ⟨rfl, bB⟩
            have hB := hid (hA.out.more bB)
            clear hA bB
            go_wp2_with fail
            refine (sure_ok _).mono ?_
            rintro e ws ⟨rfl, bs⟩
            have hs := hid (hB.out.more bs)
            clear bs
            go_wp2_with fail
            go_ret
            exact ⟨rfl, Bn.out.trans (hs.out.fs.below.mono Bn.out.size)⟩
    · have q3 : decide (3000 < k) = true := decide_eq_true q1
      have q4 : decide (k ≤ 8388608) = false := decide_eq_false q2
      have u1 : decide (k < 1) = false := decide_eq_false (by omega)
      have u2 : decide (8388608 < k) = true := decide_eq_true (by omega)
      have hb := hid (gnew_bad k wn (Or.inr (by omega)))
      go_wp2_with fail
      refine hb.out.mono ?_
      rintro e wa ⟨rfl, rfl⟩
      go_wp2_with fail
      refine (num_err 1 _ hgn.out).mono ?_
      rintro e wc ⟨rfl, bc⟩
      have Bc := hid (Bn.out.trans (bc.mono Bn.out.size))
      clear bc
      go_wp2_with fail
      refine (sure_ok _).mono ?_
      rintro e ws ⟨rfl, bs⟩
      have Bs := hid (Bc.out.trans (bs.mono Bc.out.size))
      clear bs
      go_wp2_with fail
      go_ret
      exact ⟨rfl, Bs.out⟩

end Go.Proofs.YtiiklklokkcnpaaDoor
