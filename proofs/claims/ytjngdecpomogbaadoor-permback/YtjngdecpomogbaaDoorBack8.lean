/- 'PermBack', walked. -/
import Derived.Test.YtjngdecpomogbaaDoorTurn8
import Derived.Test.YtjngdecpomogbaaDoorSure8
import Derived.Test.YtjngdecpomogbaaDoorOf8
import Derived.Test.YtjngdecpomogbaaDoorErrAs
import Derived.Test.YtjngdecpomogbaaDoorOpen8
namespace Go.Proofs.YtjngdecpomogbaaDoor
open Go.RowKit
set_option linter.unusedVariables false

/-- How many numbers the first lists have. -/
def many (ms : List (List Nat)) (j : Nat) : Nat := (ms.take j).flatten.length

theorem many_next {ms : List (List Nat)} {j : Nat} {c : List Nat} (h : ms[j]? = some c) : many ms (j + 1) = many ms j + c.length := by
  unfold many
  rw [mtake h, List.flatten_append, List.length_append]
  simp

theorem many_le (ms : List (List Nat)) (j : Nat) : many ms j ≤ ms.flatten.length := by
  unfold many
  conv => rhs; rw [← List.take_append_drop j ms, List.flatten_append, List.length_append]
  omega

theorem orb_few {n : Nat} {f : Nat → Nat} (h : Pm n f) {c : List Nat} (hc : c ∈ cyc f n) : c.length ≤ n := by
  obtain ⟨z, hz, rfl⟩ := h.cyc_lt n (Nat.le_refl _) hc
  have := (h.per_is hz).2
  unfold orb
  simpa using this

set_option maxRecDepth 100000 in
set_option maxHeartbeats 4000000 in
theorem back_law (v : Value) (zs : List Int) (w : World) (hg : Handle w) (hv : IV w v zs) :
    Calls Tryd.prog 6 #[v] w fun e w' => e = .returned (.bool true) ∧ Below w.heap.size w w' := by
  have hv' := hid hv
  obtain ⟨av, n, cv, rfl, sv⟩ := hv
  have lv := sv.len
  have big := sv.big
  clear sv
  by_cases hout : 500 < n
  · have hs := hid (sure_ok w)
    clear lv
    have t1 : (500 : Int) < (n : Int) := by omega
    go_enter Tryd.func6, Tryd.ntmps6
    go_wp2_with fail
    refine hs.out.mono ?_
    rintro e w1 ⟨rfl, b1⟩
    replace b1 := hid b1
    go_wp2_with fail
    go_ret
    exact ⟨rfl, b1.out⟩
  · have hn : n ≤ 500 := by omega
    have t1 : ¬ (500 : Int) < (n : Int) := by omega
    clear hout
    by_cases hA : Ord zs
    · obtain ⟨f, pf, ef⟩ := hA.fn
      rw [lv] at pf ef
      have hI := hid (ef ▸ hv'.out)
      have c1 := hid (cycles_yes _ n f w hI.out pf (by omega))
      have hcn := cyc_le f n
      have c2 : Hid (∀ u y, RV y u (cls (cyc f n)) → _) := hid (fun u y hu => of_yes u n (cyc f n) y hu pf.cs (by omega) (by omega) (fun c hc => by have := orb_few pf hc; omega))
      have c3 : Hid (∀ y, Below w.heap.size w y → _) := hid (fun y hy => inverse_yes _ n f y (hI.out.below hy) pf (by omega))
      have c4 : Hid (∀ u y, Below w.heap.size w y → IV y u (cl (fl n (inv n f))) → _) := hid (fun u y hy hu => then_yes _ u n f (inv n f) y (hI.out.below hy) hu pf pf.back (by omega))
      have hii : Hid (fl n (fun i => inv n f (f i)) = fl n (fun i => i)) := hid (fl_congr (fun i hi => pf.inv_at hi))
      have hnx := hid pf.nx
      have hml := hid pf.cyc_len
      clear hA ef lv hv'
      obtain ⟨ms, hms⟩ : ∃ ms, cyc f n = ms := ⟨_, rfl⟩
      rw [hms] at c1 c2 hnx hml hcn
      clear hms
      go_enter Tryd.func6, Tryd.ntmps6
      go_wp2_with fail
      refine c1.out.mono ?_
      rintro e w1 ⟨u, rfl, hu, b1⟩
      replace hu := hid hu
      replace b1 := hid b1
      clear c1
      go_wp2_with fail
      refine (c2.out u w1 hu.out.rv).mono ?_
      rintro e w2 ⟨q, g, rfl, hq, hqr, b2⟩
      have hgf : fl n g = fl n f := fl_congr (fun i hi => hq.uniq hnx.out i hi)
      rw [hgf] at hqr
      replace hu := hid (hu.out.more b2)
      replace hqr := hid hqr
      replace b2 : Hid (Below w.heap.size w w2) := b1.out.trans (b2.mono b1.out.size)
      clear c2 b1 hq hgf hnx
      go_wp2_with fail
      refine (c3.out w2 b2.out).mono ?_
      rintro e w3 ⟨r, rfl, hr, b3⟩
      replace hu := hid (hu.out.more b3)
      replace hqr := hid (hqr.out.more b3)
      replace hr := hid hr
      replace b3 : Hid (Below w.heap.size w w3) := b2.out.trans (b3.mono b2.out.size)
      clear c3 b2
      go_wp2_with fail
      refine (c4.out r w3 b3.out hr.out.iv).mono ?_
      rintro e w4 ⟨s, rfl, hs, b4⟩
      rw [hii.out] at hs
      replace hu := hid (hu.out.more b4)
      replace hqr := hid (hqr.out.more b4)
      replace hs := hid hs
      replace b4 : Hid (Below w.heap.size w w4) := b3.out.trans (b4.mono b3.out.size)
      clear c4 b3 hr
      obtain ⟨as_, ns, cs, rfl, ss⟩ := hs.out.iv
      obtain rfl : ns = n := by have := ss.len; simp at this; omega
      clear ss
      go_wp2_with fail
      refine (ints_ok q _ _ w4 hqr.out.iv (hI.out.below b4.out)).mono ?_
      rintro e w5 ⟨rfl, m5, rfl⟩
      have b5 : Hid (Below w.heap.size w (w4.drewN m5)) := belowN b4.out m5
      have hu5 := hid (hu.out.more (belowN (Below.refl _ _) m5)).rv
      have hs5 := hid (hs.out.more (belowN (Below.refl _ _) m5)).iv
      clear b4 hu hs hqr
      generalize w4.drewN m5 = w5 at *
      obtain ⟨au, mu, cu, rfl, su⟩ := hu5.out
      have lu : ms.length = mu := by have := su.len; simpa [cls] using this
      rw [lu] at hcn
      have hm0 : Hid (many ms 0 = 0) := hid (by simp [many])
      have hme : Hid (many ms mu = ns) := by
        unfold many
        rw [List.take_of_length_le (by omega), hml.out]; exact hid rfl
      have hmle : Hid (∀ j, many ms j ≤ ns) := fun j => by have := many_le ms j; rw [hml.out] at this; exact this
      replace su := hid su
      replace lu := hid lu
      clear hu5
      go_wp2_with fail
      go_loopw [11, 12] (fun t u wr => ∃ j : Nat, j ≤ mu ∧ u = .int .i64 (j : Int) ∧ t = .int .i64 (many ms j : Int) ∧ w5 = wr) (fun _ u _ => mu - (intOf u).toNat)
      case atStart => exact ⟨0, by omega, by go_num, by rw [hm0.out]; go_num, rfl⟩
      case round =>
        obtain ⟨j, hj, rfl, rfl, rfl⟩ := hrel
        rcases Nat.lt_or_ge j mu with hlt | hge
        · obtain ⟨c, hcj⟩ : ∃ c, ms[j]? = some c := ⟨_, List.getElem?_eq_getElem (by rw [lu.out]; exact hlt)⟩
          obtain ⟨b1', o1, u1, rfl, q1, I1⟩ := su.out.cell j _ (cls_at hcj)
          obtain ⟨ac, d, cc, rfl, sc⟩ := I1
          have hd : c.length = d := by have := sc.len; simpa using this
          have hnext := many_next hcj
          rw [hd] at hnext
          have h1 := hmle.out (j + 1)
          rw [hnext] at h1
          replace hnext := hid hnext
          obtain ⟨M, hM⟩ : ∃ M, many ms j = M := ⟨_, rfl⟩
          rw [hM] at h1 hnext ⊢
          clear sc hcj hd hM
          have i1 : (0 : Int) ≤ (j : Int) := by omega
          have i2 : (j : Int) < (mu : Int) := by omega
          go_wp2_with fail
          go_roundw
          case rel => exact ⟨j + 1, by omega, by go_num, by rw [hnext.out]; go_num, trivial⟩
          case measure => simp [intOf]; omega
        · obtain rfl : j = mu := by omega
          rw [hme.out]
          clear hm0 hme hmle hge hj
          obtain ⟨a7, n7, c7, e7, s7⟩ := hs5.out
          obtain ⟨rfl, rfl, rfl⟩ : as_ = a7 ∧ ns = n7 ∧ cs = c7 := by simpa using e7
          replace s7 := hid s7
          clear e7 hs5
          go_wp2_with fail
          go_loopw [13] (fun u wr => ∃ i : Nat, i ≤ ns ∧ u = .int .i64 (i : Int) ∧ w5 = wr) (fun u _ => ns - (intOf u).toNat)
          case atStart => exact ⟨0, by omega, by go_num, rfl⟩
          case round =>
            obtain ⟨i, hi, rfl, rfl⟩ := hrel
            rcases Nat.lt_or_ge i ns with hlt | hge
            · obtain ⟨b1', o1, rfl, q1⟩ := s7.out.cell i _ (clfl_get hlt)
              have i1 : (0 : Int) ≤ (i : Int) := by omega
              have i2 : (i : Int) < (ns : Int) := by omega
              go_wp2_with fail
              go_roundw
              case rel => exact ⟨i + 1, by omega, by go_num, trivial⟩
              case measure => simp [intOf]; omega
            · obtain rfl : i = ns := by omega
              go_wp2_with fail
              refine (sure_ok w5).mono ?_
              rintro e w7 ⟨rfl, b7⟩
              replace b7 : Hid (Below w.heap.size w w7) := b5.out.trans (b7.mono b5.out.size)
              go_wp2_with fail
              go_ret
              exact ⟨rfl, b7.out⟩
    · have c1 := hid (cycles_no _ _ w hv'.out hA (by omega))
      have c2 : Hid (∀ y, Below w.heap.size w y → _) := hid (fun y hy => check_no _ _ y (hv'.out.below hy) (by omega) hA)
      clear hA lv hv'
      replace hg := hid hg
      go_enter Tryd.func6, Tryd.ntmps6
      go_wp2_with fail
      refine c1.out.mono ?_
      rintro e w1 ⟨rfl, b1⟩
      replace b1 := hid b1
      clear c1
      go_wp2_with fail
      refine (num_err 3 w1 (hg.out.below b1.out)).mono ?_
      rintro e w2 ⟨rfl, b2⟩
      replace b2 : Hid (Below w.heap.size w w2) := b1.out.trans (b2.mono b1.out.size)
      clear b1
      go_wp2_with fail
      refine (c2.out w2 b2.out).mono ?_
      rintro e w3 ⟨rfl, b3⟩
      replace b3 : Hid (Below w.heap.size w w3) := b2.out.trans (b3.mono b2.out.size)
      clear b2 c2
      go_wp2_with fail
      refine (num_err 3 w3 (hg.out.below b3.out)).mono ?_
      rintro e w4 ⟨rfl, b4⟩
      replace b4 : Hid (Below w.heap.size w w4) := b3.out.trans (b4.mono b3.out.size)
      clear b3
      go_wp2_with fail
      refine (sure_ok w4).mono ?_
      rintro e w5 ⟨rfl, b5⟩
      replace b5 : Hid (Below w.heap.size w w5) := b4.out.trans (b5.mono b4.out.size)
      go_wp2_with fail
      go_ret
      exact ⟨rfl, b5.out⟩

end Go.Proofs.YtjngdecpomogbaaDoor
