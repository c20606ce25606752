/- 'PermOrders', walked. -/
import Derived.Test.YtjngdecpomogbaaDoorTurn8
import Derived.Test.YtjngdecpomogbaaDoorSure8
import Derived.Test.YtjngdecpomogbaaDoorRef8
import Derived.Test.YtjngdecpomogbaaDoorErrAs
namespace Go.Proofs.YtjngdecpomogbaaDoor
open Go.RowKit
set_option linter.unusedVariables false

set_option maxRecDepth 100000 in
set_option maxHeartbeats 4000000 in
theorem orders_law (u v : Value) (ps qs : List Int) (w : World) (hg : Handle w) (hu : IV w u ps) (hv : IV w v qs) :
    Calls Tryd.prog 3 #[u, v] w fun e w' => e = .returned (.bool true) ∧ Below w.heap.size w w' := by
  have hu' := hid hu
  have hv' := hid hv
  obtain ⟨au, n, cu, rfl, su⟩ := hu
  obtain ⟨av, m, cv, rfl, sv⟩ := hv
  have lu := su.len
  have lv := sv.len
  have big := su.big
  have big2 := sv.big
  clear su sv
  replace hg := hid hg
  by_cases hout : 200 < n ∨ (n ≤ 200 ∧ 200 < m)
  · have hs := hid (sure_ok w)
    clear lu lv
    rcases hout with h1 | ⟨h1, h2⟩
    · have t1 : (200 : Int) < (n : Int) := by omega
      go_enter Tryd.func3, Tryd.ntmps3
      go_wp2_with fail
      refine hs.out.mono ?_
      rintro e w1 ⟨rfl, b1⟩
      replace b1 := hid b1
      go_wp2_with fail
      go_ret
      exact ⟨rfl, b1.out⟩
    · have t1 : ¬ (200 : Int) < (n : Int) := by omega
      have t2 : (200 : Int) < (m : Int) := by omega
      go_enter Tryd.func3, Tryd.ntmps3
      go_wp2_with fail
      refine hs.out.mono ?_
      rintro e w1 ⟨rfl, b1⟩
      replace b1 := hid b1
      go_wp2_with fail
      go_ret
      exact ⟨rfl, b1.out⟩
  · have hn : n ≤ 200 := by omega
    have hm : m ≤ 200 := by omega
    have t1 : ¬ (200 : Int) < (n : Int) := by omega
    have t2 : ¬ (200 : Int) < (m : Int) := by omega
    clear hout
    by_cases hP : Ord ps
    · have r1 := hid (rcheck_yes _ _ w hu'.out (by omega) hP)
      obtain ⟨f, pf, ef⟩ := hP.fn
      rw [lu] at pf ef
      have hI := hid (ef ▸ hu'.out)
      have c1 := hid (inverse_yes _ n f w hI.out pf (by omega))
      have k1 : Hid (∀ y, Below w.heap.size w y → _) := hid (fun y hy => check_yes _ _ y (hu'.out.below hy) (by omega) hP)
      have ri : Hid (∀ y, Below w.heap.size w y → _) := hid (fun y hy => rinverse_ok _ n f y (hI.out.below hy) pf (by omega))
      by_cases hQ : Ord qs
      · have r2 := hid (rcheck_yes _ _ w hv'.out (by omega) hQ)
        by_cases hnm : n = m
        · subst hnm
          obtain ⟨g, pg, eg⟩ := hQ.fn
          rw [lv] at pg eg
          have hJ := hid (eg ▸ hv'.out)
          have c2 : Hid (∀ y, Below w.heap.size w y → _) := hid (fun y hy => then_yes _ _ n f g y (hI.out.below hy) (hJ.out.below hy) pf pg (by omega))
          have rt : Hid (∀ y, Below w.heap.size w y → _) := hid (fun y hy => rthen_ok _ _ n f g y (hI.out.below hy) (hJ.out.below hy) pf (by omega))
          clear hP hQ ef eg lu lv hu' hv' pf pg
          go_enter Tryd.func3, Tryd.ntmps3
          go_wp2_with fail
          refine r1.out.mono ?_
          rintro e w0 ⟨rfl, rfl⟩
          go_wp2_with fail
          refine r2.out.mono ?_
          rintro e w0 ⟨rfl, rfl⟩
          clear r1 r2
          go_wp2_with fail
          refine c1.out.mono ?_
          rintro e w1 ⟨a, rfl, ha, b1⟩
          replace ha := hid ha
          replace b1 := hid b1
          clear c1
          go_wp2_with fail
          refine (c2.out w1 b1.out).mono ?_
          rintro e w2 ⟨b, rfl, hb, b2⟩
          replace ha := hid (ha.out.more b2)
          replace hb := hid hb
          replace b2 : Hid (Below w.heap.size w w2) := b1.out.trans (b2.mono b1.out.size)
          clear c2 b1
          go_wp2_with fail
          refine (k1.out w2 b2.out).mono ?_
          rintro e w3 ⟨rfl, b3⟩
          replace ha := hid (ha.out.more b3)
          replace hb := hid (hb.out.more b3)
          replace b3 : Hid (Below w.heap.size w w3) := b2.out.trans (b3.mono b2.out.size)
          clear k1 b2
          go_wp2_with fail
          refine (num_nil w3).mono ?_
          rintro e w4 ⟨rfl, b4⟩
          replace ha := hid (ha.out.more b4)
          replace hb := hid (hb.out.more b4)
          replace b4 : Hid (Below w.heap.size w w4) := b3.out.trans (b4.mono b3.out.size)
          clear b3
          go_wp2_with fail
          refine (num_nil w4).mono ?_
          rintro e w5 ⟨rfl, b5⟩
          replace ha := hid (ha.out.more b5)
          replace hb := hid (hb.out.more b5)
          replace b5 : Hid (Below w.heap.size w w5) := b4.out.trans (b5.mono b4.out.size)
          clear b4
          go_wp2_with fail
          refine (ri.out w5 b5.out).mono ?_
          rintro e w6 ⟨c, rfl, hc, b6⟩
          replace ha := hid (ha.out.more b6)
          replace hb := hid (hb.out.more b6)
          replace hc := hid hc
          replace b6 : Hid (Below w.heap.size w w6) := b5.out.trans (b6.mono b5.out.size)
          clear b5 ri
          go_wp2_with fail
          refine (ints_ok a c _ w6 ha.out.iv hc.out.iv).mono ?_
          rintro e w7 ⟨rfl, m7, rfl⟩
          have b7 : Hid (Below w.heap.size w (w6.drewN m7)) := belowN b6.out m7
          replace hb := hid (hb.out.more (belowN (Below.refl _ _) m7))
          clear b6 ha hc
          generalize w6.drewN m7 = w7 at *
          go_wp2_with fail
          refine (rt.out w7 b7.out).mono ?_
          rintro e w8 ⟨d, rfl, hd, b8⟩
          replace hb := hid (hb.out.more b8)
          replace hd := hid hd
          replace b8 : Hid (Below w.heap.size w w8) := b7.out.trans (b8.mono b7.out.size)
          clear b7 rt
          go_wp2_with fail
          refine (ints_ok b d _ w8 hb.out.iv hd.out.iv).mono ?_
          rintro e w9 ⟨rfl, m9, rfl⟩
          have b9 : Hid (Below w.heap.size w (w8.drewN m9)) := belowN b8.out m9
          clear b8 hb hd
          generalize w8.drewN m9 = w9 at *
          go_wp2_with fail
          refine (sure_ok w9).mono ?_
          rintro e wa ⟨rfl, ba⟩
          replace ba : Hid (Below w.heap.size w wa) := b9.out.trans (ba.mono b9.out.size)
          clear b9
          go_wp2_with fail
          go_ret
          exact ⟨rfl, ba.out⟩
        · have c2 : Hid (∀ y, Below w.heap.size w y → _) := hid (fun y hy => then_len _ _ ps qs y (hu'.out.below hy) (hv'.out.below hy) hP hQ (by omega) (by omega) (by omega))
          have t3 : ((n : Int) == (m : Int)) = false := by simp; omega
          have t4 : ¬ ((n : Int) = (m : Int)) := by omega
          clear hP hQ ef lu lv hu' hv' pf
          go_enter Tryd.func3, Tryd.ntmps3
          go_wp2_with fail
          refine r1.out.mono ?_
          rintro e w0 ⟨rfl, rfl⟩
          go_wp2_with fail
          refine r2.out.mono ?_
          rintro e w0 ⟨rfl, rfl⟩
          clear r1 r2
          go_wp2_with fail
          refine c1.out.mono ?_
          rintro e w1 ⟨a, rfl, ha, b1⟩
          replace ha := hid ha
          replace b1 := hid b1
          clear c1
          go_wp2_with fail
          refine (c2.out w1 b1.out).mono ?_
          rintro e w2 ⟨rfl, b2⟩
          replace ha := hid (ha.out.more b2)
          replace b2 : Hid (Below w.heap.size w w2) := b1.out.trans (b2.mono b1.out.size)
          clear c2 b1
          go_wp2_with fail
          refine (k1.out w2 b2.out).mono ?_
          rintro e w3 ⟨rfl, b3⟩
          replace ha := hid (ha.out.more b3)
          replace b3 : Hid (Below w.heap.size w w3) := b2.out.trans (b3.mono b2.out.size)
          clear k1 b2
          go_wp2_with fail
          refine (num_nil w3).mono ?_
          rintro e w4 ⟨rfl, b4⟩
          replace ha := hid (ha.out.more b4)
          replace b4 : Hid (Below w.heap.size w w4) := b3.out.trans (b4.mono b3.out.size)
          clear b3
          go_wp2_with fail
          refine (num_nil w4).mono ?_
          rintro e w5 ⟨rfl, b5⟩
          replace ha := hid (ha.out.more b5)
          replace b5 : Hid (Below w.heap.size w w5) := b4.out.trans (b5.mono b4.out.size)
          clear b4
          go_wp2_with fail
          refine (ri.out w5 b5.out).mono ?_
          rintro e w6 ⟨c, rfl, hc, b6⟩
          replace ha := hid (ha.out.more b6)
          replace hc := hid hc
          replace b6 : Hid (Below w.heap.size w w6) := b5.out.trans (b6.mono b5.out.size)
          clear b5 ri
          go_wp2_with fail
          refine (ints_ok a c _ w6 ha.out.iv hc.out.iv).mono ?_
          rintro e w7 ⟨rfl, m7, rfl⟩
          have b7 : Hid (Below w.heap.size w (w6.drewN m7)) := belowN b6.out m7
          clear b6 ha hc
          generalize w6.drewN m7 = w7 at *
          go_wp2_with fail
          refine (num_err 1 w7 (hg.out.below b7.out)).mono ?_
          rintro e w8 ⟨rfl, b8⟩
          replace b8 : Hid (Below w.heap.size w w8) := b7.out.trans (b8.mono b7.out.size)
          clear b7
          go_wp2_with fail
          refine (sure_ok w8).mono ?_
          rintro e wa ⟨rfl, ba⟩
          replace ba : Hid (Below w.heap.size w wa) := b8.out.trans (ba.mono b8.out.size)
          clear b8
          go_wp2_with fail
          go_ret
          exact ⟨rfl, ba.out⟩
      · have r2 := hid (rcheck_no _ _ w hv'.out (by omega) hQ)
        have c2 : Hid (∀ y, Below w.heap.size w y → _) := hid (fun y hy => then_no _ _ ps qs y (hu'.out.below hy) (hv'.out.below hy) (.inr hQ) (by omega) (by omega))
        clear hP hQ ef lu lv hu' hv' pf
        go_enter Tryd.func3, Tryd.ntmps3
        go_wp2_with fail
        refine r1.out.mono ?_
        rintro e w0 ⟨rfl, rfl⟩
        go_wp2_with fail
        refine r2.out.mono ?_
        rintro e w0 ⟨rfl, rfl⟩
        clear r1 r2
        go_wp2_with fail
        refine c1.out.mono ?_
        rintro e w1 ⟨a, rfl, ha, b1⟩
        replace ha := hid ha
        replace b1 := hid b1
        clear c1
        go_wp2_with fail
        refine (c2.out w1 b1.out).mono ?_
        rintro e w2 ⟨rfl, b2⟩
        replace ha := hid (ha.out.more b2)
        replace b2 : Hid (Below w.heap.size w w2) := b1.out.trans (b2.mono b1.out.size)
        clear c2 b1
        go_wp2_with fail
        refine (k1.out w2 b2.out).mono ?_
        rintro e w3 ⟨rfl, b3⟩
        replace ha := hid (ha.out.more b3)
        replace b3 : Hid (Below w.heap.size w w3) := b2.out.trans (b3.mono b2.out.size)
        clear k1 b2
        go_wp2_with fail
        refine (num_nil w3).mono ?_
        rintro e w4 ⟨rfl, b4⟩
        replace ha := hid (ha.out.more b4)
        replace b4 : Hid (Below w.heap.size w w4) := b3.out.trans (b4.mono b3.out.size)
        clear b3
        go_wp2_with fail
        refine (num_nil w4).mono ?_
        rintro e w5 ⟨rfl, b5⟩
        replace ha := hid (ha.out.more b5)
        replace b5 : Hid (Below w.heap.size w w5) := b4.out.trans (b5.mono b4.out.size)
        clear b4
        go_wp2_with fail
        refine (ri.out w5 b5.out).mono ?_
        rintro e w6 ⟨c, rfl, hc, b6⟩
        replace ha := hid (ha.out.more b6)
        replace hc := hid hc
        replace b6 : Hid (Below w.heap.size w w6) := b5.out.trans (b6.mono b5.out.size)
        clear b5 ri
        go_wp2_with fail
        refine (ints_ok a c _ w6 ha.out.iv hc.out.iv).mono ?_
        rintro e w7 ⟨rfl, m7, rfl⟩
        have b7 : Hid (Below w.heap.size w (w6.drewN m7)) := belowN b6.out m7
        clear b6 ha hc
        generalize w6.drewN m7 = w7 at *
        go_wp2_with fail
        refine (num_err 3 w7 (hg.out.below b7.out)).mono ?_
        rintro e w8 ⟨rfl, b8⟩
        replace b8 : Hid (Below w.heap.size w w8) := b7.out.trans (b8.mono b7.out.size)
        clear b7
        go_wp2_with fail
        refine (sure_ok w8).mono ?_
        rintro e wa ⟨rfl, ba⟩
        replace ba : Hid (Below w.heap.size w wa) := b8.out.trans (ba.mono b8.out.size)
        clear b8
        go_wp2_with fail
        go_ret
        exact ⟨rfl, ba.out⟩
    · have r1 := hid (rcheck_no _ _ w hu'.out (by omega) hP)
      have c1 := hid (inverse_no _ _ w hu'.out hP (by omega))
      have c2 : Hid (∀ y, Below w.heap.size w y → _) := hid (fun y hy => then_no _ _ ps qs y (hu'.out.below hy) (hv'.out.below hy) (.inl hP) (by omega) (by omega))
      have k1 : Hid (∀ y, Below w.heap.size w y → _) := hid (fun y hy => check_no _ _ y (hu'.out.below hy) (by omega) hP)
      have r2 := hid (rcheck_ok _ _ w hv'.out (by omega))
      clear hP lu lv hu' hv'
      go_enter Tryd.func3, Tryd.ntmps3
      go_wp2_with fail
      refine r1.out.mono ?_
      rintro e w0 ⟨rfl, rfl⟩
      go_wp2_with fail
      refine r2.out.mono ?_
      rintro e w0 ⟨rq, rfl, hrq, rfl⟩
      clear r1 r2 hrq
      go_wp2_with fail
      refine c1.out.mono ?_
      rintro e w1 ⟨rfl, b1⟩
      replace b1 := hid b1
      clear c1
      go_wp2_with fail
      refine (c2.out w1 b1.out).mono ?_
      rintro e w2 ⟨rfl, b2⟩
      replace b2 : Hid (Below w.heap.size w w2) := b1.out.trans (b2.mono b1.out.size)
      clear c2 b1
      go_wp2_with fail
      refine (k1.out w2 b2.out).mono ?_
      rintro e w3 ⟨rfl, b3⟩
      replace b3 : Hid (Below w.heap.size w w3) := b2.out.trans (b3.mono b2.out.size)
      clear k1 b2
      go_wp2_with fail
      refine (num_err 3 w3 (hg.out.below b3.out)).mono ?_
      rintro e w4 ⟨rfl, b4⟩
      replace b4 : Hid (Below w.heap.size w w4) := b3.out.trans (b4.mono b3.out.size)
      clear b3
      go_wp2_with fail
      refine (num_err 3 w4 (hg.out.below b4.out)).mono ?_
      rintro e w5 ⟨rfl, b5⟩
      replace b5 : Hid (Below w.heap.size w w5) := b4.out.trans (b5.mono b4.out.size)
      clear b4
      go_wp2_with fail
      refine (num_err 3 w5 (hg.out.below b5.out)).mono ?_
      rintro e w6 ⟨rfl, b6⟩
      replace b6 : Hid (Below w.heap.size w w6) := b5.out.trans (b6.mono b5.out.size)
      clear b5
      go_wp2_with fail
      refine (sure_ok w6).mono ?_
      rintro e wa ⟨rfl, ba⟩
      replace ba : Hid (Below w.heap.size w wa) := b6.out.trans (ba.mono b6.out.size)
      clear b6
      go_wp2_with fail
      go_ret
      exact ⟨rfl, ba.out⟩

end Go.Proofs.YtjngdecpomogbaaDoor
