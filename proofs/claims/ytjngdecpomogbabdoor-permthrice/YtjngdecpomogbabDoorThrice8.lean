/- 'PermThrice', walked. -/
import Derived.Test.YtjngdecpomogbabDoorTurn8
import Derived.Test.YtjngdecpomogbabDoorSure8
import Derived.Test.YtjngdecpomogbabDoorErrAs
namespace Go.Proofs.YtjngdecpomogbabDoor
open Go.RowKit
set_option linter.unusedVariables false

theorem not_both {p q : Prop} (h : ¬ (p ∧ q)) : ¬ p ∨ ¬ q := Classical.not_and_iff_not_or_not.1 h

set_option maxRecDepth 100000 in
set_option maxHeartbeats 4000000 in
theorem thrice_law (u v x : Value) (ps qs rs : List Int) (w : World) (hg : Handle w) (hu : IV w u ps) (hv : IV w v qs) (hx : IV w x rs) :
    Calls Tryd.prog 3 #[u, v, x] w fun e w' => e = .returned (.bool true) ∧ Below w.heap.size w w' := by
  have hu' := hid hu
  have hv' := hid hv
  have hx' := hid hx
  obtain ⟨au, n, cu, rfl, su⟩ := hu
  obtain ⟨av, m, cv, rfl, sv⟩ := hv
  obtain ⟨ax, k, cx, rfl, sx⟩ := hx
  have lu := su.len
  have lv := sv.len
  have lx := sx.len
  have big := su.big
  clear su sv sx
  by_cases hout : 200 < n ∨ (n ≤ 200 ∧ n ≠ m) ∨ (n ≤ 200 ∧ n = m ∧ m ≠ k)
  · have hs := hid (sure_ok w)
    clear lu lv lx
    rcases hout with h1 | ⟨h1, h2⟩ | ⟨h1, h2, h3⟩
    · have t1 : (200 : Int) < (n : Int) := by omega
      go_enter Tryd.func3, Tryd.ntmps3
      go_wp2_with fail
      refine hs.out.mono ?_
      rintro e w1 ⟨rfl, b1⟩
      replace b1 := hid b1
      go_wp2_with fail
      go_ret
      exact ⟨rfl, b1.out⟩
    · have t1 : ¬ (200 : Int) < (n : Int) := by omega
      have t2 : ((n : Int) == (m : Int)) = false := by simp; omega
      have t3 : ¬ ((n : Int) = (m : Int)) := by omega
      go_enter Tryd.func3, Tryd.ntmps3
      go_wp2_with fail
      refine hs.out.mono ?_
      rintro e w1 ⟨rfl, b1⟩
      replace b1 := hid b1
      go_wp2_with fail
      go_ret
      exact ⟨rfl, b1.out⟩
    · have t1 : ¬ (200 : Int) < (n : Int) := by omega
      subst h2
      have t2 : ((n : Int) == (k : Int)) = false := by simp; omega
      have t3 : ¬ ((n : Int) = (k : Int)) := by omega
      go_enter Tryd.func3, Tryd.ntmps3
      go_wp2_with fail
      refine hs.out.mono ?_
      rintro e w1 ⟨rfl, b1⟩
      replace b1 := hid b1
      go_wp2_with fail
      go_ret
      exact ⟨rfl, b1.out⟩
  · have hn : n ≤ 200 := by omega
    obtain rfl : n = m := by omega
    obtain rfl : n = k := by omega
    have t1 : ¬ (200 : Int) < (n : Int) := by omega
    clear hout
    by_cases hA : Ord ps ∧ Ord qs
    · obtain ⟨f, pf, ef⟩ := hA.1.fn
      obtain ⟨g, pg, eg⟩ := hA.2.fn
      rw [lu] at pf ef
      rw [lv] at pg eg
      have c1 := hid (then_yes _ _ n f g w (ef ▸ hu'.out) (eg ▸ hv'.out) pf pg (by omega))
      by_cases hB : Ord rs
      · obtain ⟨r, pr, er⟩ := hB.fn
        rw [lx] at pr er
        have c2 : Hid (∀ y, Below w.heap.size w y → _) := hid (fun y hy => then_yes _ _ n g r y ((eg ▸ hv'.out).below hy) ((er ▸ hx'.out).below hy) pg pr (by omega))
        have c3 : Hid (∀ z y, Below w.heap.size w y → IV y z (cl (fl n (fun i => g (f i)))) → _) := hid (fun z y hy hz => then_yes z _ n (fun i => g (f i)) r y hz ((er ▸ hx'.out).below hy) (pf.then pg) pr (by omega))
        have c4 : Hid (∀ z y, Below w.heap.size w y → IV y z (cl (fl n (fun i => r (g i)))) → _) := hid (fun z y hy hz => then_yes _ z n f (fun i => r (g i)) y ((ef ▸ hu'.out).below hy) hz pf (pg.then pr) (by omega))
        have c5 : Hid (∀ z y, IV y z (cl (fl n (fun i => r (g (f i))))) → _) := hid (fun z y hz => check_yes z _ y hz (by simp; omega) ((pf.then pg).then pr).ord)
        clear hA hB ef eg er lu lv lx hu' hv' hx' pf pg pr
        go_enter Tryd.func3, Tryd.ntmps3
        go_wp2_with fail
        refine c1.out.mono ?_
        rintro e w1 ⟨a, rfl, ha, b1⟩
        replace ha := hid ha
        replace b1 := hid b1
        clear c1
        go_wp2_with fail
        refine (c2.out w1 b1.out).mono ?_
        rintro e w2 ⟨b, rfl, hb, b2⟩
        replace ha := hid (ha.out.more b2)
        replace hb := hid hb
        replace b2 : Hid (Below w.heap.size w w2) := b1.out.trans (b2.mono b1.out.size)
        clear c2 b1
        go_wp2_with fail
        refine (c3.out a w2 b2.out ha.out.iv).mono ?_
        rintro e w3 ⟨c, rfl, hc, b3⟩
        replace hb := hid (hb.out.more b3)
        replace hc := hid hc
        replace b3 : Hid (Below w.heap.size w w3) := b2.out.trans (b3.mono b2.out.size)
        clear c3 b2 ha
        go_wp2_with fail
        refine (c4.out b w3 b3.out hb.out.iv).mono ?_
        rintro e w4 ⟨d, rfl, hd, b4⟩
        replace hc := hid (hc.out.more b4)
        replace hd := hid hd
        replace b4 : Hid (Below w.heap.size w w4) := b3.out.trans (b4.mono b3.out.size)
        clear c4 b3 hb
        go_wp2_with fail
        refine (ints_ok c d _ w4 hc.out.iv hd.out.iv).mono ?_
        rintro e w5 ⟨rfl, m5, rfl⟩
        have b5 : Hid (Below w.heap.size w (w4.drewN m5)) := belowN b4.out m5
        have c5' := hid (c5.out c (w4.drewN m5) (hc.out.iv.below (belowN (Below.refl _ _) m5)))
        clear c5 b4 hc hd
        go_wp2_with fail
        refine c5'.out.mono ?_
        rintro e w6 ⟨rfl, b6⟩
        replace b6 : Hid (Below w.heap.size w w6) := b5.out.trans (b6.mono b5.out.size)
        clear b5 c5'
        go_wp2_with fail
        refine (sure_ok w6).mono ?_
        rintro e w7 ⟨rfl, b7⟩
        replace b7 : Hid (Below w.heap.size w w7) := b6.out.trans (b7.mono b6.out.size)
        clear b6
        go_wp2_with fail
        go_ret
        exact ⟨rfl, b7.out⟩
      · have c2 : Hid (∀ y, Below w.heap.size w y → _) := hid (fun y hy => then_no _ _ qs rs y (hv'.out.below hy) (hx'.out.below hy) (.inr hB) (by omega) (by omega))
        clear hA hB ef eg lu lv lx hu' hv' hx' pf pg
        replace hg := hid hg
        go_enter Tryd.func3, Tryd.ntmps3
        go_wp2_with fail
        refine c1.out.mono ?_
        rintro e w1 ⟨a, rfl, ha, b1⟩
        clear ha
        replace b1 := hid b1
        clear c1
        go_wp2_with fail
        refine (c2.out w1 b1.out).mono ?_
        rintro e w2 ⟨rfl, b2⟩
        replace b2 : Hid (Below w.heap.size w w2) := b1.out.trans (b2.mono b1.out.size)
        clear c2 b1
        go_wp2_with fail
        refine (num_err 3 w2 (hg.out.below b2.out)).mono ?_
        rintro e w3 ⟨rfl, b3⟩
        replace b3 : Hid (Below w.heap.size w w3) := b2.out.trans (b3.mono b2.out.size)
        clear b2
        go_wp2_with fail
        refine (sure_ok w3).mono ?_
        rintro e w4 ⟨rfl, b4⟩
        replace b4 : Hid (Below w.heap.size w w4) := b3.out.trans (b4.mono b3.out.size)
        clear b3
        go_wp2_with fail
        go_ret
        exact ⟨rfl, b4.out⟩
    · have c1 := hid (then_no _ _ ps qs w hu'.out hv'.out (not_both hA) (by omega) (by omega))
      replace hg := hid hg
      by_cases hB : Ord qs ∧ Ord rs
      · obtain ⟨g, pg, eg⟩ := hB.1.fn
        obtain ⟨r, pr, er⟩ := hB.2.fn
        rw [lv] at pg eg
        rw [lx] at pr er
        have c2 : Hid (∀ y, Below w.heap.size w y → _) := hid (fun y hy => then_yes _ _ n g r y ((eg ▸ hv'.out).below hy) ((er ▸ hx'.out).below hy) pg pr (by omega))
        clear hA hB eg er lu lv lx hu' hv' hx' pg pr
        go_enter Tryd.func3, Tryd.ntmps3
        go_wp2_with fail
        refine c1.out.mono ?_
        rintro e w1 ⟨rfl, b1⟩
        replace b1 := hid b1
        clear c1
        go_wp2_with fail
        refine (c2.out w1 b1.out).mono ?_
        rintro e w2 ⟨b, rfl, hb, b2⟩
        clear hb
        replace b2 : Hid (Below w.heap.size w w2) := b1.out.trans (b2.mono b1.out.size)
        clear c2 b1
        go_wp2_with fail
        refine (num_err 3 w2 (hg.out.below b2.out)).mono ?_
        rintro e w3 ⟨rfl, b3⟩
        replace b3 : Hid (Below w.heap.size w w3) := b2.out.trans (b3.mono b2.out.size)
        clear b2
        go_wp2_with fail
        refine (sure_ok w3).mono ?_
        rintro e w4 ⟨rfl, b4⟩
        replace b4 : Hid (Below w.heap.size w w4) := b3.out.trans (b4.mono b3.out.size)
        clear b3
        go_wp2_with fail
        go_ret
        exact ⟨rfl, b4.out⟩
      · have c2 : Hid (∀ y, Below w.heap.size w y → _) := hid (fun y hy => then_no _ _ qs rs y (hv'.out.below hy) (hx'.out.below hy) (not_both hB) (by omega) (by omega))
        clear hA hB lu lv lx hu' hv' hx'
        go_enter Tryd.func3, Tryd.ntmps3
        go_wp2_with fail
        refine c1.out.mono ?_
        rintro e w1 ⟨rfl, b1⟩
        replace b1 := hid b1
        clear c1
        go_wp2_with fail
        refine (c2.out w1 b1.out).mono ?_
        rintro e w2 ⟨rfl, b2⟩
        replace b2 : Hid (Below w.heap.size w w2) := b1.out.trans (b2.mono b1.out.size)
        clear c2 b1
        go_wp2_with fail
        refine (num_err 3 w2 (hg.out.below b2.out)).mono ?_
        rintro e w3 ⟨rfl, b3⟩
        replace b3 : Hid (Below w.heap.size w w3) := b2.out.trans (b3.mono b2.out.size)
        clear b2
        go_wp2_with fail
        refine (num_err 3 w3 (hg.out.below b3.out)).mono ?_
        rintro e w3' ⟨rfl, b3'⟩
        replace b3' : Hid (Below w.heap.size w w3') := b3.out.trans (b3'.mono b3.out.size)
        clear b3
        go_wp2_with fail
        refine (sure_ok w3').mono ?_
        rintro e w4 ⟨rfl, b4⟩
        replace b4 : Hid (Below w.heap.size w w4) := b3'.out.trans (b4.mono b3'.out.size)
        clear b3'
        go_wp2_with fail
        go_ret
        exact ⟨rfl, b4.out⟩

end Go.Proofs.YtjngdecpomogbabDoor
