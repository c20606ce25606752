/- 'KinBridges', walked. -/
import Derived.Test.YtghpjljnbdjmaaaGreatDoorBksure
import Derived.Test.YtghpjljnbdjmaaaGreatDoorLaws11
import Derived.Test.YtghpjljnbdjmaaaGreatDoorMade11
import Derived.Test.YtghpjljnbdjmaaaGreatDoorRBr15
import Derived.Deep.CutBlock
namespace Go.Proofs.YtghpjljnbdjmaaaGreatDoor
open Go.RowKit
set_option linter.unusedVariables false

open Pq (fl fl_length fl_succ fl_get fl_congr)

/-- What Bridge answers. -/
def Kb (V E : Nat) (R : Nat → List Nat) (e : Int) (s : Bool) (r : Value) : Prop :=
  ((e < 0 ∨ (E : Int) ≤ e) ∧ s = false ∧ r = .iface 88 (.int .i64 12)) ∨ (∃ k : Nat, e = (k : Int) ∧ k < E ∧ ¬ In V R (2 * k) ∧ s = false ∧ r = .iface 88 (.int .i64 13)) ∨ ∃ k : Nat, e = (k : Int) ∧ k < E ∧ In V R (2 * k) ∧ (s = true ↔ Br V R k) ∧ r = .nilIface

theorem kbridge_any {w : World} {lo tb V E : Nat} {R : Nat → List Nat} (h : TA w lo tb V E R) (hw : Tw V E R) (e : Int) : ∃ s r, Kb V E R e s r ∧ ∀ y, Below w.heap.size w y → Calls Tryz.prog 17 #[.pointer (some ⟨tb, 0, none⟩), .int .i64 e] y fun x w' => x = .returned (.tuple #[.bool s, r]) ∧ Below y.heap.size y w' := by
  classical
  by_cases h1 : e < 0 ∨ (E : Int) ≤ e
  · exact ⟨_, _, .inl ⟨h1, rfl, rfl⟩, fun y hy => kbridge_range (h.more hy) e h1⟩
  · obtain ⟨k, rfl⟩ : ∃ k : Nat, e = (k : Int) := ⟨e.toNat, by omega⟩
    by_cases h2 : In V R (2 * k)
    · exact ⟨decide (Br V R k), _, .inr (.inr ⟨k, rfl, by omega, h2, by simp, rfl⟩), fun y hy => kbridge_ok (h.more hy) hw k (by omega) h2 _ (by simp)⟩
    · exact ⟨_, _, .inr (.inl ⟨k, rfl, by omega, h2, rfl, rfl⟩), fun y hy => kbridge_stale (h.more hy) k (by omega) h2⟩

set_option maxRecDepth 100000 in
set_option maxHeartbeats 8000000 in
theorem bridges_law (n : Int) (v : Value) (l : List Ac) (e : Int) (w : World) (hg : Handle w) (hv : AV w v l) :
    Calls Tryz.prog 4 #[.int .i64 n, v, .int .i64 e] w fun x w' => x = .returned (.bool true) ∧ Below w.heap.size w w' := by
  have hm := hid (made_ok n v l w hg hv)
  have hsu := hid (fun y => sure_ok15 y)
  have hgy : Hid (∀ y, Below w.heap.size w y → Handle y) := hid fun y hy => hg.below hy
  clear hg hv
  go_enter Tryz.func4, Tryz.ntmps4
  go_wp2_with fail
  refine hm.out.mono ?_
  rintro x w1 ⟨tb, V, R, ad, cap, rfl, hV1, hV6, hbo, b1⟩
  have hls := hid (Md.ls hbo b1)
  have hrt : RT (w1.alloc (.cells #[.int .i64 8, .slice ad V cap] 27)) (.agg #[.int .i64 ((8 : Nat) : Int), .slice ad V cap]) 8 V R := hbo.rt.below (balloc _ _)
  obtain ⟨c0, c1⟩ := two_new w1 (.int .i64 8) (.slice ad V cap) 27
  clear hbo b1 hm
  obtain ⟨w2, hw2⟩ : ∃ w2, w1.alloc (.cells #[.int .i64 8, .slice ad V cap] 27) = w2 := ⟨_, rfl⟩
  rw [hw2] at hls hrt c0 c1
  replace hw2 := hid hw2
  have htn := hid hls.out.tn
  have htw := hid hls.out.tw
  have hta := hls.out.ta
  have hbw := hid hls.out.bel
  have hl16 := hid (len16 htn.out)
  have hnum := hid (fun (z : Int) y (hy : Below w2.heap.size w2 y) => num_err z y (hgy.out y (hbw.out.trans (hy.mono hbw.out.size))))
  obtain ⟨s, r, hkb, hbc⟩ := kbridge_any hta htw.out e
  have hbn := hid (fun y => kbridge_nil e y)
  have hbg := hid (fun y (hy : Below w2.heap.size w2 y) => kbridges_ok (hta.more hy) htw.out)
  have hrb := hid (fun y (hy : Below w2.heap.size w2 y) => rbridges_ok _ 8 V R y (hrt.below hy) htn.out htw.out (by decide) hV1 (by omega) hl16.out)
  have hrb1 := hid (fun (k : Nat) (hk : k < 8) (hi : In V R (2 * k)) (s : Bool) (hs : s = true ↔ Br V R k) y (hy : Below w2.heap.size w2 y) => rbridge_ok _ 8 V k R y (hrt.below hy) htn.out htw.out hk hi (by decide) hV1 (by omega) hl16.out s hs)
  have hrf := hid (fun (d : Int) y (hy : Below w2.heap.size w2 y) => rfind_ok _ 8 V R d y (hrt.below hy) (by omega) hl16.out)
  have hcc := hid (fun (y : World) (hy : Below w2.heap.size w2 y) => And.intro ((hy.cell (World.block_lt_of_cell? w2 _ c0)).trans c0) ((hy.cell (World.block_lt_of_cell? w2 _ c1)).trans c1))
  replace hbc := hid hbc
  replace hkb := hid hkb
  clear hrt hta hls c0 c1
  go_upto_region 2 with fail
  try rw [hw2.out]
  clear hw2
  go_wp2_with fail
  refine (hbn.out w2).mono ?_
  rintro x w3 ⟨rfl, b3⟩
  have hbc3 := hid (hbc.out w3 b3)
  replace b3 := hid b3
  clear hbn hbc
  go_wp2_with fail
  refine hbc3.out.mono ?_
  rintro x w4 ⟨rfl, b4⟩
  replace b4 := hid (below_thru b3.out b4)
  clear hbc3 b3
  have hc4 := hid (fun (y : World) (hy : Below w4.heap.size w4 y) => hcc.out y (below_thru b4.out hy))
  have hto := hid (fun (y : World) (hy : Below w4.heap.size w4 y) => below_thru b4.out hy)
  go_wp2_with fail
  go_region_held3 (fun z => z.cell? ⟨w1.heap.size, 0, none⟩ = some (.int .i64 8) ∧ z.cell? ⟨w1.heap.size, 1, none⟩ = some (.slice ad V cap)) (first | with_reducible exact hc4.out _ bS.out | with_reducible exact hc4.out _ (Below.refl _ _).drew | with_reducible exact hc4.out _ (Below.refl _ _) | go_keep) ((first | (go_at_call 12; refine (hnum.out _ _ (by first | exact hto.out _ bS.out | exact hto.out _ (Below.refl _ _).drew)).mono ?_; rintro q ws ⟨rfl, bs1⟩; have bS := hid (below_thru (by first | exact bS.out | exact (Below.refl w4.heap.size w4).drew) bs1); clear bs1) | (go_at_call 10; refine (hbg.out _ (by exact hto.out _ bS.out)).mono ?_; rintro q ws ⟨u1, rfl, hr1, bs1⟩; have hR1 := hid hr1.nl; have bS := hid (below_thru bS.out bs1); clear bs1 hr1) | (go_at_call 18; refine (hrb.out _ (by exact hto.out _ bS.out)).mono ?_; rintro q ws ⟨u2, rfl, hr2, bs1⟩; have hR2 := hid hr2.nl; have hR3 := hid (hR1.out.below bs1); have bS := hid (below_thru bS.out bs1); clear bs1 hr2) | (go_at_call 13; refine (ints_ok _ _ _ _ (by exact hR3.out) (by exact hR2.out)).mono ?_; rintro q wq ⟨rfl, mq, rfl⟩; have bS := hid (belowN bS.out mq))))
  have b5 := hid (hto.out _ bS.out)
  generalize ws.drewN mq = w5 at b5 ⊢
  clear hto hc4 hR1 hR2 hR3 bS hbg hrb b4
  rcases hkb.out with ⟨hr, rfl, rfl⟩ | ⟨k, rfl, hk, hi, rfl, rfl⟩ | ⟨k, rfl, hk, hi, hs, rfl⟩
  · have ways : decide (e < 0) = true ∨ (decide (e < 0) = false ∧ decide (e > 7) = true ∧ decide (7 < e) = true) := by
      by_cases q : e < 0
      · exact .inl (decide_eq_true q)
      · exact .inr ⟨decide_eq_false q, decide_eq_true (by omega), decide_eq_true (by omega)⟩
    clear hkb hr hrb1 hrf hcc
    rcases ways with t1 | ⟨t1, t2, t3⟩
    all_goals
      go_wp2_with fail
      refine (hnum.out 12 w5 b5.out).mono ?_
      rintro x w6 ⟨rfl, b6⟩
      replace b6 := hid (below_thru b5.out b6)
      go_wp2_with fail
      refine (hsu.out _).mono ?_
      rintro x w9 ⟨rfl, b9⟩
      have fin := hid (hbw.out.trans ((below_thru b6.out b9).mono hbw.out.size))
      clear b9
      go_wp2_with fail
      go_ret
      exact ⟨rfl, fin.out⟩
  · have t1 : decide ((k : Int) < 0) = false := decide_eq_false (by omega)
    have t2 : decide ((k : Int) > 7) = false := decide_eq_false (by omega)
    have t3 : decide (7 < (k : Int)) = false := decide_eq_false (by omega)
    have t4 : decide (7 < k) = false := decide_eq_false (by omega)
    obtain ⟨d0, d1⟩ := hcc.out w5 b5.out
    have hfc := hid (hrf.out (2 * (k : Int)) w5 b5.out)
    have hno : Hid (∀ r s, At V R (2 * (k : Int)) r s → r = -1) := hid fun r s ha => (At.notin (k := 2 * k) hi (by rw [show ((2 * k : Nat) : Int) = 2 * (k : Int) by omega]; exact ha)).1
    clear hkb hi hrb1 hrf hcc
    go_wp2_with fail
    refine hfc.out.mono ?_
    rintro x w6 ⟨r6, s6, rfl, hat, b6⟩
    obtain rfl := hno.out r6 s6 hat
    replace b6 := hid (below_thru b5.out b6)
    clear hat hfc hno d0 d1
    go_wp2_with fail
    refine (hnum.out 13 w6 b6.out).mono ?_
    rintro x w7 ⟨rfl, b7⟩
    replace b7 := hid (below_thru b6.out b7)
    go_wp2_with fail
    refine (hsu.out _).mono ?_
    rintro x w9 ⟨rfl, b9⟩
    have fin := hid (hbw.out.trans ((below_thru b7.out b9).mono hbw.out.size))
    clear b9
    go_wp2_with fail
    go_ret
    exact ⟨rfl, fin.out⟩
  · have t1 : decide ((k : Int) < 0) = false := decide_eq_false (by omega)
    have t2 : decide ((k : Int) > 7) = false := decide_eq_false (by omega)
    have t3 : decide (7 < (k : Int)) = false := decide_eq_false (by omega)
    have t4 : decide (7 < k) = false := decide_eq_false (by omega)
    obtain ⟨d0, d1⟩ := hcc.out w5 b5.out
    have hfc := hid (hrf.out (2 * (k : Int)) w5 b5.out)
    have hog : Hid (∀ r s, At V R (2 * (k : Int)) r s → r = (og V R (2 * k) : Int)) := hid fun r s ha => At.og htn.out hi (by rw [show ((2 * k : Nat) : Int) = 2 * (k : Int) by omega]; exact ha)
    obtain ⟨o, ho⟩ : ∃ o, og V R (2 * k) = o := ⟨_, rfl⟩
    rw [ho] at hog
    have hrc := hid (fun y hy => hrb1.out k hk hi s hs y hy)
    have v1 : (s == s) = true := by simp
    clear hkb hi hs hrb1 hrf ho
    go_wp2_with fail
    refine hfc.out.mono ?_
    rintro x w6 ⟨r6, s6, rfl, hat, b6⟩
    obtain rfl := hog.out r6 s6 hat
    replace b6 := hid (below_thru b5.out b6)
    clear hat hfc hog d0 d1
    obtain ⟨d0, d1⟩ := hcc.out w6 b6.out
    have hrc6 := hid (hrc.out w6 b6.out)
    have t5 : decide ((o : Int) < 0) = false := decide_eq_false (by omega)
    go_wp2_with fail
    refine hrc6.out.mono ?_
    rintro x w7 ⟨rfl, b7⟩
    replace b7 := hid (below_thru b6.out b7)
    clear hrc6 d0 d1
    go_wp2_with fail
    refine (hsu.out _).mono ?_
    rintro x w9 ⟨rfl, b9⟩
    have fin := hid (hbw.out.trans ((below_thru b7.out b9).mono hbw.out.size))
    clear b9
    go_wp2_with fail
    go_ret
    exact ⟨rfl, fin.out⟩

end Go.Proofs.YtghpjljnbdjmaaaGreatDoor
