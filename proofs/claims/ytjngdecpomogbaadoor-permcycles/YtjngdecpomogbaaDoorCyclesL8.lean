/- 'PermCycles', walked. -/
import Derived.Test.YtjngdecpomogbaaDoorSure8
import Derived.Test.YtjngdecpomogbaaDoorRefC8
import Derived.Test.YtjngdecpomogbaaDoorErrAs
namespace Go.Proofs.YtjngdecpomogbaaDoor
open Go.RowKit
set_option linter.unusedVariables false

set_option maxRecDepth 100000 in
set_option maxHeartbeats 4000000 in
theorem cycles_law (v : Value) (zs : List Int) (x : Int) (w : World) (hg : Handle w) (hv : IV w v zs) :
    Calls Tryd.prog 4 #[v, .int .i64 x] w fun e w' => e = .returned (.bool true) ∧ Below w.heap.size w w' := by
  have hv' := hid hv
  obtain ⟨av, n, cv, rfl, sv⟩ := hv
  have lv := sv.len
  have big := sv.big
  clear sv
  replace hg := hid hg
  by_cases hout : 200 < n
  · have hs := hid (sure_ok w)
    clear lv
    have t1 : (200 : Int) < (n : Int) := by omega
    go_enter Tryd.func4, Tryd.ntmps4
    go_wp2_with fail
    refine hs.out.mono ?_
    rintro e w1 ⟨rfl, b1⟩
    replace b1 := hid b1
    go_wp2_with fail
    go_ret
    exact ⟨rfl, b1.out⟩
  · have hn : n ≤ 200 := by omega
    have t1 : ¬ (200 : Int) < (n : Int) := by omega
    clear hout
    by_cases hA : Ord zs
    · obtain ⟨f, pf, ef⟩ := hA.fn
      rw [lv] at pf ef
      have hI := hid (ef ▸ hv'.out)
      have c1 := hid (cycles_yes _ n f w hI.out pf (by omega))
      have c3 : Hid (∀ y, Below w.heap.size w y → _) := hid (fun y hy => rcheck_yes _ _ y (hv'.out.below hy) (by omega) hA)
      have c4 : Hid (∀ y, Below w.heap.size w y → _) := hid (fun y hy => rcycles_ok _ n f y (hI.out.below hy) pf (by omega))
      by_cases hx : 0 ≤ x ∧ x < n
      · obtain ⟨k, rfl⟩ : ∃ k : Nat, x = (k : Int) := ⟨x.toNat, by omega⟩
        have hkn : k < n := by omega
        have c2 : Hid (∀ y, Below w.heap.size w y → _) := hid (fun y hy => orbit_yes _ n k f y (hI.out.below hy) pf hkn (by omega))
        have c5 : Hid (∀ y, Below w.heap.size w y → _) := hid (fun y hy => rorbit_ok _ n k f y (hI.out.below hy) pf hkn (by omega))
        have i1 : ¬ ((k : Int) < 0) := by omega
        have i2 : ¬ ((n : Int) ≤ (k : Int)) := by omega
        clear hA ef lv hv' pf hx
        go_enter Tryd.func4, Tryd.ntmps4
        go_wp2_with fail
        refine c1.out.mono ?_
        rintro e w1 ⟨u, rfl, hu, b1⟩
        replace hu := hid hu
        replace b1 := hid b1
        clear c1
        go_wp2_with fail
        refine (c2.out w1 b1.out).mono ?_
        rintro e w2 ⟨o, rfl, ho, b2⟩
        replace hu := hid (hu.out.more b2)
        replace ho := hid ho
        replace b2 : Hid (Below w.heap.size w w2) := b1.out.trans (b2.mono b1.out.size)
        clear c2 b1
        go_wp2_with fail
        refine (c3.out w2 b2.out).mono ?_
        rintro e w2' ⟨rfl, rfl⟩
        clear c3
        go_wp2_with fail
        refine (c4.out w2 b2.out).mono ?_
        rintro e w3 ⟨r, rfl, hr, b3⟩
        replace hu := hid (hu.out.more b3)
        replace ho := hid (ho.out.more b3)
        replace hr := hid hr
        replace b3 : Hid (Below w.heap.size w w3) := b2.out.trans (b3.mono b2.out.size)
        clear c4 b2
        go_wp2_with fail
        refine (lists_ok u r _ w3 hu.out.rv hr.out.rv).mono ?_
        rintro e w4 ⟨rfl, m4, rfl⟩
        have b4 : Hid (Below w.heap.size w (w3.drewN m4)) := belowN b3.out m4
        replace ho := hid (ho.out.more (belowN (Below.refl _ _) m4))
        clear b3 hu hr
        generalize w3.drewN m4 = w4 at *
        go_wp2_with fail
        refine (c5.out w4 b4.out).mono ?_
        rintro e w5 ⟨r, rfl, hr, b5⟩
        replace ho := hid (ho.out.more b5)
        replace hr := hid hr
        replace b5 : Hid (Below w.heap.size w w5) := b4.out.trans (b5.mono b4.out.size)
        clear c5 b4
        go_wp2_with fail
        refine (ints_ok o r _ w5 ho.out.iv hr.out.iv).mono ?_
        rintro e w6 ⟨rfl, m6, rfl⟩
        have b6 : Hid (Below w.heap.size w (w5.drewN m6)) := belowN b5.out m6
        clear b5 ho hr
        generalize w5.drewN m6 = w6 at *
        go_wp2_with fail
        refine (sure_ok w6).mono ?_
        rintro e wa ⟨rfl, ba⟩
        replace ba : Hid (Below w.heap.size w wa) := b6.out.trans (ba.mono b6.out.size)
        clear b6
        go_wp2_with fail
        go_ret
        exact ⟨rfl, ba.out⟩
      · have hx' : x < 0 ∨ (0 ≤ x ∧ (n : Int) ≤ x) := by omega
        have c2 : Hid (∀ y, Below w.heap.size w y → _) := hid (fun y hy => orbit_out _ zs x y (hv'.out.below hy) hA (by rw [lv]; exact hx') (by omega))
        clear hA ef lv hv' pf hx
        rcases hx' with hx | ⟨hx0, hx⟩
        all_goals
          (try have i1 : ¬ (x < 0) := by omega)
          go_enter Tryd.func4, Tryd.ntmps4
          go_wp2_with fail
          refine c1.out.mono ?_
          rintro e w1 ⟨u, rfl, hu, b1⟩
          replace hu := hid hu
          replace b1 := hid b1
          clear c1
          go_wp2_with fail
          refine (c2.out w1 b1.out).mono ?_
          rintro e w2 ⟨rfl, b2⟩
          replace hu := hid (hu.out.more b2)
          replace b2 : Hid (Below w.heap.size w w2) := b1.out.trans (b2.mono b1.out.size)
          clear c2 b1
          go_wp2_with fail
          refine (c3.out w2 b2.out).mono ?_
          rintro e w2' ⟨rfl, rfl⟩
          clear c3
          go_wp2_with fail
          refine (c4.out w2 b2.out).mono ?_
          rintro e w3 ⟨r, rfl, hr, b3⟩
          replace hu := hid (hu.out.more b3)
          replace hr := hid hr
          replace b3 : Hid (Below w.heap.size w w3) := b2.out.trans (b3.mono b2.out.size)
          clear c4 b2
          go_wp2_with fail
          refine (lists_ok u r _ w3 hu.out.rv hr.out.rv).mono ?_
          rintro e w4 ⟨rfl, m4, rfl⟩
          have b4 : Hid (Below w.heap.size w (w3.drewN m4)) := belowN b3.out m4
          clear b3 hu hr
          generalize w3.drewN m4 = w4 at *
          go_wp2_with fail
          refine (num_err 12 w4 (hg.out.below b4.out)).mono ?_
          rintro e w5 ⟨rfl, b5⟩
          replace b5 : Hid (Below w.heap.size w w5) := b4.out.trans (b5.mono b4.out.size)
          clear b4
          go_wp2_with fail
          refine (sure_ok w5).mono ?_
          rintro e wa ⟨rfl, ba⟩
          replace ba : Hid (Below w.heap.size w wa) := b5.out.trans (ba.mono b5.out.size)
          clear b5
          go_wp2_with fail
          go_ret
          exact ⟨rfl, ba.out⟩
    · have c1 := hid (cycles_no _ _ w hv'.out hA (by omega))
      have c2 : Hid (∀ y, Below w.heap.size w y → _) := hid (fun y hy => orbit_no _ zs x y (hv'.out.below hy) hA (by omega))
      have c3 : Hid (∀ y, Below w.heap.size w y → _) := hid (fun y hy => rcheck_no _ _ y (hv'.out.below hy) (by omega) hA)
      clear hA lv hv'
      go_enter Tryd.func4, Tryd.ntmps4
      go_wp2_with fail
      refine c1.out.mono ?_
      rintro e w1 ⟨rfl, b1⟩
      replace b1 := hid b1
      clear c1
      go_wp2_with fail
      refine (c2.out w1 b1.out).mono ?_
      rintro e w2 ⟨rfl, b2⟩
      replace b2 : Hid (Below w.heap.size w w2) := b1.out.trans (b2.mono b1.out.size)
      clear c2 b1
      go_wp2_with fail
      refine (c3.out w2 b2.out).mono ?_
      rintro e w2' ⟨rfl, rfl⟩
      clear c3
      go_wp2_with fail
      refine (num_err 3 w2 (hg.out.below b2.out)).mono ?_
      rintro e w3 ⟨rfl, b3⟩
      replace b3 : Hid (Below w.heap.size w w3) := b2.out.trans (b3.mono b2.out.size)
      clear b2
      go_wp2_with fail
      refine (num_err 3 w3 (hg.out.below b3.out)).mono ?_
      rintro e w4 ⟨rfl, b4⟩
      replace b4 : Hid (Below w.heap.size w w4) := b3.out.trans (b4.mono b3.out.size)
      clear b3
      go_wp2_with fail
      refine (sure_ok w4).mono ?_
      rintro e wa ⟨rfl, ba⟩
      replace ba : Hid (Below w.heap.size w wa) := b4.out.trans (ba.mono b4.out.size)
      clear b4
      go_wp2_with fail
      go_ret
      exact ⟨rfl, ba.out⟩

end Go.Proofs.YtjngdecpomogbaaDoor
