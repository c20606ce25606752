/- 'KinGroups', walked. -/
import Derived.Test.YtghpjljnbdjmaaaGreatDoorBknear
import Derived.Test.YtghpjljnbdjmaaaGreatDoorBkroad
import Derived.Test.YtghpjljnbdjmaaaGreatDoorBksure
import Derived.Test.YtghpjljnbdjmaaaGreatDoorLaws11
import Derived.Test.YtghpjljnbdjmaaaGreatDoorMade11
import Derived.Deep.CutBlock
namespace Go.Proofs.YtghpjljnbdjmaaaGreatDoor
open Go.RowKit
set_option linter.unusedVariables false

open Pq (fl fl_length fl_succ fl_get fl_congr)

theorem kroad_out {w : World} {lo tb V E : Nat} {R : Nat → List Nat} (h : TA w lo tb V E R) (a b : Int) (hab : (a < 0 ∨ (V : Int) ≤ a) ∨ (b < 0 ∨ (V : Int) ≤ b)) : Calls Tryz.prog 11 #[.pointer (some ⟨tb, 0, none⟩), .int .i64 a, .int .i64 b] w fun x w' => x = .returned (.tuple #[.slice none 0 0, .iface 88 (.int .i64 12)]) ∧ Below w.heap.size w w' := by
  by_cases c : a < 0 ∨ (V : Int) ≤ a
  · exact kroad_bad1 _ a b 12 w (degree_range h a c)
  · obtain ⟨k, rfl⟩ : ∃ k : Nat, a = (k : Int) := ⟨a.toNat, by omega⟩
    exact kroad_bad2 _ _ b 12 _ w (degree_ok h k (by omega)) (fun y hy => degree_range (h.more hy) b (hab.resolve_left c))

set_option maxRecDepth 100000 in
set_option maxHeartbeats 8000000 in
theorem groups_law (n : Int) (v : Value) (l : List Ac) (o0 o1 : Int) (w : World) (hg : Handle w) (hv : AV w v l) :
    Calls Tryz.prog 3 #[.int .i64 n, v, .agg #[.int .i64 o0, .int .i64 o1]] w fun x w' => x = .returned (.bool true) ∧ Below w.heap.size w w' := by
  have hbb := balloc w (.cells #[.int .i64 o0, .int .i64 o1] 23)
  have hpb := heap_alloc_new w (.cells #[.int .i64 o0, .int .i64 o1] 23)
  have hpl : w.heap.size < (w.alloc (.cells #[.int .i64 o0, .int .i64 o1] 23)).heap.size := by simp
  have hm := made_ok n v l (w.alloc (.cells #[.int .i64 o0, .int .i64 o1] 23)) (hg.below hbb) (hv.below hbb)
  have hsu := hid (fun y => sure_ok15 y)
  have hgy : Hid (∀ y, Below w.heap.size w y → Handle y) := hid fun y hy => hg.below hy
  obtain ⟨w0, hw0⟩ : ∃ w0, w.alloc (.cells #[.int .i64 o0, .int .i64 o1] 23) = w0 := ⟨_, rfl⟩
  rw [hw0] at hbb hpb hm hpl
  replace hbb := hid hbb
  replace hpb := hid hpb
  replace hm := hid hm
  replace hw0 := hid hw0
  clear hg hv
  go_enter Tryz.func3, Tryz.ntmps3
  go_upto_region 1 with fail
  rw [hw0.out]
  clear hw0
  go_wp2_with fail
  refine hm.out.mono ?_
  rintro x w1 ⟨tb, V, R, ad, cap, rfl, hV1, hV6, hbo, b1⟩
  have hpb1 := (b1.block _ hpl).trans hpb.out
  have hpb2 := al_keep (o' := .cells #[.int .i64 8, .slice ad V cap] 27) hpb1
  have hls := hid (Md.ls hbo b1)
  have hrt : RT (w1.alloc (.cells #[.int .i64 8, .slice ad V cap] 27)) (.agg #[.int .i64 ((8 : Nat) : Int), .slice ad V cap]) 8 V R := hbo.rt.below (balloc _ _)
  obtain ⟨c0, c1⟩ := two_new w1 (.int .i64 8) (.slice ad V cap) 27
  clear hbo b1 hm hpb hpb1
  obtain ⟨w2, hw2⟩ : ∃ w2, w1.alloc (.cells #[.int .i64 8, .slice ad V cap] 27) = w2 := ⟨_, rfl⟩
  rw [hw2] at hls hpb2 hrt c0 c1
  replace hw2 := hid hw2
  have htn := hid hls.out.tn
  have htw := hid hls.out.tw
  have hta := hls.out.ta
  have hl16 := hid (len16 htn.out)
  have hbw : Hid (Below w.heap.size w w2) := hid (hbb.out.trans (hls.out.bel.mono hbb.out.size))
  have p0 : w2.cell? ⟨w.heap.size, 0, none⟩ = some (.int .i64 o0) := by simp [World.cell?, hpb2]
  have p1 : w2.cell? ⟨w.heap.size, 1, none⟩ = some (.int .i64 o1) := by simp [World.cell?, hpb2]
  have hcc := hid (fun (y : World) (hy : Below w2.heap.size w2 y) => And.intro (And.intro ((hy.cell (World.block_lt_of_cell? w2 _ c0)).trans c0) ((hy.cell (World.block_lt_of_cell? w2 _ c1)).trans c1)) (And.intro ((hy.cell (World.block_lt_of_cell? w2 _ p0)).trans p0) ((hy.cell (World.block_lt_of_cell? w2 _ p1)).trans p1)))
  have hnum := hid (fun (z : Int) y (hy : Below w2.heap.size w2 y) => num_err z y (hgy.out y (hbw.out.trans (hy.mono hbw.out.size))))
  have hgn := hid (fun y => kgroups_nil y)
  have hbn := hid (fun y => kbridges_nil y)
  have hrn := hid (fun y => kroad_bad1 none 0 0 1 y (degree_nil 0 y))
  have hgr := hid (fun y (hy : Below w2.heap.size w2 y) => kgroups_ok (hta.more hy) htw.out)
  have hrg := hid (fun y (hy : Below w2.heap.size w2 y) => rgroups_ok _ 8 V R y (hrt.below hy) htn.out htw.out (by decide) hV1 (by omega) hl16.out)
  have hrd := hid (fun (p q : Nat) (hp : p < V) (hq : q < V) y (hy : Below w2.heap.size w2 y) => kroad_main (hta.more hy) htw.out p q hp hq)
  have hrr := hid (fun (p q : Nat) (hp : p < V) (hq : q < V) y (hy : Below w2.heap.size w2 y) => rroad15_ok _ 8 V p q R y (hrt.below hy) htn.out htw.out hp hq (by decide) hV1 (by omega) hl16.out)
  have hro := hid (fun (hab : (o0 < 0 ∨ (V : Int) ≤ o0) ∨ (o1 < 0 ∨ (V : Int) ≤ o1)) y (hy : Below w2.heap.size w2 y) => kroad_out (hta.more hy) o0 o1 hab)
  clear hrt hls hpb2 hta c0 c1 p0 p1
  go_upto_region 2 with fail
  try rw [hw2.out]
  clear hw2
  go_wp2_with fail
  refine (hgn.out w2).mono ?_
  rintro x w3 ⟨u3, rfl, hr3, b3⟩
  obtain ⟨a3, c3, rfl, _, _⟩ := own_any hr3
  replace b3 := hid b3
  clear hgn hr3
  go_wp2_with fail
  refine (hbn.out w3).mono ?_
  rintro x w4 ⟨u4, rfl, hr4, b4⟩
  obtain ⟨a4, c4, rfl, _, _⟩ := own_any hr4
  replace b4 := hid (below_thru b3.out b4)
  clear hbn hr4 b3
  go_wp2_with fail
  refine (hrn.out w4).mono ?_
  rintro x w5 ⟨rfl, b5⟩
  replace b5 := hid (below_thru b4.out b5)
  clear hrn b4
  obtain ⟨⟨c0, c1⟩, p0, p1⟩ := hcc.out w5 b5.out
  by_cases hin : (o0 < 0 ∨ (V : Int) ≤ o0) ∨ (o1 < 0 ∨ (V : Int) ≤ o1)
  · have hro5 := hid (hro.out hin w5 b5.out)
    replace hin := hid hin
    clear hrd hrr hro
    go_wp2_with fail
    refine hro5.out.mono ?_
    rintro x w6 ⟨rfl, b6⟩
    replace b6 := hid (below_thru b5.out b6)
    clear hro5 b5 c0 c1 p0 p1
    have hc6 := hid (fun (y : World) (hy : Below w6.heap.size w6 y) => (hcc.out y (below_thru b6.out hy)).1)
    have hto := hid (fun (y : World) (hy : Below w6.heap.size w6 y) => below_thru b6.out hy)
    go_wp2_with fail
    go_region_held3 (fun z => z.cell? ⟨w1.heap.size, 0, none⟩ = some (.int .i64 8) ∧ z.cell? ⟨w1.heap.size, 1, none⟩ = some (.slice ad V cap)) (first | with_reducible exact hc6.out _ bS.out | with_reducible exact hc6.out _ (Below.refl _ _).drew | with_reducible exact hc6.out _ (Below.refl _ _) | go_keep) ((first | (go_at_call 12; refine (hnum.out _ _ (by first | exact hto.out _ bS.out | exact hto.out _ (Below.refl _ _).drew)).mono ?_; rintro q ws ⟨rfl, bs1⟩; have bS := hid (below_thru (by first | exact bS.out | exact (Below.refl w6.heap.size w6).drew) bs1); clear bs1) | (go_at_call 9; refine (hgr.out _ (by exact hto.out _ bS.out)).mono ?_; rintro q ws ⟨u1, rfl, hr1, bs1⟩; have hR1 := hid hr1.nl; have bS := hid (below_thru bS.out bs1); clear bs1 hr1) | (go_at_call 14; refine (hrg.out _ (by exact hto.out _ bS.out)).mono ?_; rintro q ws ⟨u2, rfl, hr2, bs1⟩; have hR2 := hid hr2.nl; have hR3 := hid (hR1.out.below bs1); have bS := hid (below_thru bS.out bs1); clear bs1 hr2) | (go_at_call 13; refine (ints_ok _ _ _ _ (by exact hR3.out) (by exact hR2.out)).mono ?_; rintro q wq ⟨rfl, mq, rfl⟩; have bS := hid (belowN bS.out mq))))
    have b7 := hid (hto.out _ bS.out)
    generalize ws.drewN mq = w7 at b7 ⊢
    clear hto hc6 hR1 hR2 hR3 hgr hrg
    obtain ⟨⟨c0, c1⟩, p0, p1⟩ := hcc.out w7 b7.out
    clear bS b6
    have ways : (decide (o0 < 0) = true) ∨ (decide (o0 < 0) = false ∧ decide (o0 ≥ (V : Int)) = true ∧ decide ((V : Int) ≤ o0) = true) ∨ (decide (o0 < 0) = false ∧ decide (o0 ≥ (V : Int)) = false ∧ decide ((V : Int) ≤ o0) = false ∧ decide (o1 < 0) = true) ∨ (decide (o0 < 0) = false ∧ decide (o0 ≥ (V : Int)) = false ∧ decide ((V : Int) ≤ o0) = false ∧ decide (o1 < 0) = false ∧ decide (o1 ≥ (V : Int)) = true ∧ decide ((V : Int) ≤ o1) = true) := by
      have := hin.out
      simp only [decide_eq_true_eq, decide_eq_false_iff_not]
      omega
    clear hin
    rcases ways with t1 | ⟨t1, t2, t3⟩ | ⟨t1, t2, t3, t4⟩ | ⟨t1, t2, t3, t4, t5, t6⟩
    all_goals
      go_wp2_with fail
      refine (hnum.out 12 w7 b7.out).mono ?_
      rintro x w8 ⟨rfl, b8⟩
      replace b8 := hid (below_thru b7.out b8)
      go_wp2_with fail
      refine (hsu.out _).mono ?_
      rintro x w9 ⟨rfl, b9⟩
      have fin := hid (hbw.out.trans ((below_thru b8.out b9).mono hbw.out.size))
      clear b9
      go_wp2_with fail
      go_ret
      exact ⟨rfl, fin.out⟩
  · obtain ⟨p, rfl⟩ : ∃ k : Nat, o0 = (k : Int) := ⟨o0.toNat, by omega⟩
    obtain ⟨q, rfl⟩ : ∃ k : Nat, o1 = (k : Int) := ⟨o1.toNat, by omega⟩
    have hpV : p < V := by omega
    have hqV : q < V := by omega
    have t1 : decide ((p : Int) < 0) = false := decide_eq_false (by omega)
    have t2 : decide ((p : Int) ≥ (V : Int)) = false := decide_eq_false (by omega)
    have t3 : decide ((V : Int) ≤ (p : Int)) = false := decide_eq_false (by omega)
    have t3' : decide (V ≤ p) = false := decide_eq_false (by omega)
    have t4 : decide ((q : Int) < 0) = false := decide_eq_false (by omega)
    have t5 : decide ((q : Int) ≥ (V : Int)) = false := decide_eq_false (by omega)
    have t6 : decide ((V : Int) ≤ (q : Int)) = false := decide_eq_false (by omega)
    have t6' : decide (V ≤ q) = false := decide_eq_false (by omega)
    have hrd5 := hid (hrd.out p q hpV hqV w5 b5.out)
    have hrq := hid (fun y hy => hrr.out p q hpV hqV y hy)
    clear hrd hrr hro hin
    go_wp2_with fail
    refine hrd5.out.mono ?_
    rintro x w6 ⟨b6, hres⟩
    replace b6 := hid (below_thru b5.out b6)
    clear hrd5 b5 c0 c1 p0 p1
    rcases hres with ⟨hno, rfl⟩ | ⟨u, r, m, rfl, hr, hdn, hroad⟩
    · replace hno := hid hno
      have hc6 := hid (fun (y : World) (hy : Below w6.heap.size w6 y) => (hcc.out y (below_thru b6.out hy)).1)
      have hto := hid (fun (y : World) (hy : Below w6.heap.size w6 y) => below_thru b6.out hy)
      go_wp2_with fail
      go_region_held3 (fun z => z.cell? ⟨w1.heap.size, 0, none⟩ = some (.int .i64 8) ∧ z.cell? ⟨w1.heap.size, 1, none⟩ = some (.slice ad V cap)) (first | with_reducible exact hc6.out _ bS.out | with_reducible exact hc6.out _ (Below.refl _ _).drew | with_reducible exact hc6.out _ (Below.refl _ _) | go_keep) ((first | (go_at_call 12; refine (hnum.out _ _ (by first | exact hto.out _ bS.out | exact hto.out _ (Below.refl _ _).drew)).mono ?_; rintro q ws ⟨rfl, bs1⟩; have bS := hid (below_thru (by first | exact bS.out | exact (Below.refl w6.heap.size w6).drew) bs1); clear bs1) | (go_at_call 9; refine (hgr.out _ (by exact hto.out _ bS.out)).mono ?_; rintro q ws ⟨u1, rfl, hr1, bs1⟩; have hR1 := hid hr1.nl; have bS := hid (below_thru bS.out bs1); clear bs1 hr1) | (go_at_call 14; refine (hrg.out _ (by exact hto.out _ bS.out)).mono ?_; rintro q ws ⟨u2, rfl, hr2, bs1⟩; have hR2 := hid hr2.nl; have hR3 := hid (hR1.out.below bs1); have bS := hid (below_thru bS.out bs1); clear bs1 hr2) | (go_at_call 13; refine (ints_ok _ _ _ _ (by exact hR3.out) (by exact hR2.out)).mono ?_; rintro q wq ⟨rfl, mq, rfl⟩; have bS := hid (belowN bS.out mq))))
      have b7 := hid (hto.out _ bS.out)
      generalize ws.drewN mq = w7 at b7 ⊢
      clear hto hc6 hR1 hR2 hR3 hgr hrg
      obtain ⟨⟨c0, c1⟩, p0, p1⟩ := hcc.out w7 b7.out
      clear bS b6
      go_wp2_with fail
      refine (hrq.out w7 b7.out).mono ?_
      rintro x w8 ⟨b8, hres⟩
      obtain rfl : x = .returned (.tuple #[.slice none 0 0, .bool false]) := by
        rcases hres with ⟨_, q1⟩ | ⟨_, _, k, _, _, q1, _⟩
        · exact q1
        · exact absurd ⟨k, q1.1⟩ hno.out
      replace b8 := hid (below_thru b7.out b8)
      clear hres hno hrq c0 c1 p0 p1
      go_wp2_with fail
      refine (hnum.out 21 w8 b8.out).mono ?_
      rintro x w9 ⟨rfl, b9⟩
      replace b9 := hid (below_thru b8.out b9)
      go_wp2_with fail
      refine (hsu.out _).mono ?_
      rintro x w10 ⟨rfl, b10⟩
      have fin := hid (hbw.out.trans ((below_thru b9.out b10).mono hbw.out.size))
      clear b10
      go_wp2_with fail
      go_ret
      exact ⟨rfl, fin.out⟩
    · have hnl := hid hr.nl
      have huq : Hid (∀ l2 k, Dn V R (-1) q p k → Rd V R q k p l2 → l2 = r) := hid fun l2 k d2 r2 => by
        obtain rfl := hdn.uniq d2
        exact (hroad.uniq r2).symm
      have hkn : Hid (Kn V R (-1) q p) := hid ⟨m, hdn.1⟩
      clear hr hdn hroad
      have hc6 := hid (fun (y : World) (hy : Below w6.heap.size w6 y) => (hcc.out y (below_thru b6.out hy)).1)
      have hto := hid (fun (y : World) (hy : Below w6.heap.size w6 y) => below_thru b6.out hy)
      go_wp2_with fail
      go_region_held3 (fun z => z.cell? ⟨w1.heap.size, 0, none⟩ = some (.int .i64 8) ∧ z.cell? ⟨w1.heap.size, 1, none⟩ = some (.slice ad V cap)) (first | with_reducible exact hc6.out _ bS.out | with_reducible exact hc6.out _ (Below.refl _ _).drew | with_reducible exact hc6.out _ (Below.refl _ _) | go_keep) ((first | (go_at_call 12; refine (hnum.out _ _ (by first | exact hto.out _ bS.out | exact hto.out _ (Below.refl _ _).drew)).mono ?_; rintro q ws ⟨rfl, bs1⟩; have bS := hid (below_thru (by first | exact bS.out | exact (Below.refl w6.heap.size w6).drew) bs1); clear bs1) | (go_at_call 9; refine (hgr.out _ (by exact hto.out _ bS.out)).mono ?_; rintro q ws ⟨u1, rfl, hr1, bs1⟩; have hR1 := hid hr1.nl; have bS := hid (below_thru bS.out bs1); clear bs1 hr1) | (go_at_call 14; refine (hrg.out _ (by exact hto.out _ bS.out)).mono ?_; rintro q ws ⟨u2, rfl, hr2, bs1⟩; have hR2 := hid hr2.nl; have hR3 := hid (hR1.out.below bs1); have bS := hid (below_thru bS.out bs1); clear bs1 hr2) | (go_at_call 13; refine (ints_ok _ _ _ _ (by exact hR3.out) (by exact hR2.out)).mono ?_; rintro q wq ⟨rfl, mq, rfl⟩; have bS := hid (belowN bS.out mq))))
      have b7 := hid (hto.out _ bS.out)
      have hn7 := hid (hnl.out.below bS.out)
      generalize ws.drewN mq = w7 at b7 hn7 ⊢
      clear hto hc6 hR1 hR2 hR3 hgr hrg
      obtain ⟨⟨c0, c1⟩, p0, p1⟩ := hcc.out w7 b7.out
      clear bS b6 hnl
      go_wp2_with fail
      refine (hrq.out w7 b7.out).mono ?_
      rintro x w8 ⟨b8, hres⟩
      obtain ⟨u8, rfl, hn8⟩ : ∃ u8, x = .returned (.tuple #[u8, .bool true]) ∧ NL w8 u8 r := by
        rcases hres with ⟨q1, _⟩ | ⟨u8, l8, k, q1, q2, q3, q4⟩
        · exact absurd hkn.out q1
        · exact ⟨u8, q1, by have := q2.nl; rw [huq.out l8 k q3 q4] at this; exact this⟩
      have hn9 := hid (hn7.out.below b8)
      replace hn8 := hid hn8
      replace b8 := hid (below_thru b7.out b8)
      clear hres hkn huq hrq c0 c1 p0 p1 hn7
      go_wp2_with fail
      refine (ints_ok _ _ _ _ hn9.out hn8.out).mono ?_
      rintro x w9 ⟨rfl, mq, rfl⟩
      have b9 := hid (belowN b8.out mq)
      generalize w8.drewN mq = w9 at b9 ⊢
      clear hn8 hn9
      go_wp2_with fail
      refine (hsu.out _).mono ?_
      rintro x w10 ⟨rfl, b10⟩
      have fin := hid (hbw.out.trans ((below_thru b9.out b10).mono hbw.out.size))
      clear b10
      go_wp2_with fail
      go_ret
      exact ⟨rfl, fin.out⟩

end Go.Proofs.YtghpjljnbdjmaaaGreatDoor
