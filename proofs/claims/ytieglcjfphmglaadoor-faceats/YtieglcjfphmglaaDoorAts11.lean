/- 'FaceAts', walked. -/
import Derived.Test.YtieglcjfphmglaaDoorLaws11
import Derived.Test.YtieglcjfphmglaaDoorFAt11
namespace Go.Proofs.YtieglcjfphmglaaDoor
open Go.RowKit
set_option linter.unusedVariables false

set_option maxRecDepth 100000 in
set_option maxHeartbeats 4000000 in
theorem ats_law (n : Int) (v : Value) (l : List Ac) (dd : Int) (w : World) (hg : Handle w) (hv : AV w v l) :
    Calls Tryd.prog 8 #[.int .i64 n, v, .int .i64 dd] w fun x w' => x = .returned (.bool true) ∧ Below w.heap.size w w' := by
  have hm := hid (made_ok n v l w hg hv)
  have hsu := hid (fun y => sure_ok y)
  clear hg hv
  go_enter Tryd.func8, Tryd.ntmps8
  go_wp2_with fail
  refine hm.out.mono ?_
  rintro x w1 ⟨tb, V, R, ad, cap, rfl, hV1, hV6, hbo, b1⟩
  have hls := hid (Md.ls hbo b1)
  clear hbo b1 hm
  obtain ⟨w2, hw2⟩ : ∃ w2, w1.alloc (.cells #[.int .i64 8, .slice ad V cap] 26) = w2 := ⟨_, rfl⟩
  rw [hw2] at hls
  replace hw2 := hid hw2
  have htn := hid hls.out.tn
  have htw := hid hls.out.tw
  obtain ⟨ad', cap', hrt, c0, c1⟩ := hls.out.rt
  have hda := hid (rdarts_ok _ 8 V R w2 hrt (by decide) (by omega) (len16 htn.out))
  clear hrt
  go_upto_region 2 with fail
  try rw [hw2.out]
  go_wp2_with fail
  refine hda.out.mono ?_
  rintro e w3 ⟨rv, rfl, hnl, b3⟩
  have hls3 := hid (hls.out.more b3)
  have hml : Hid (∀ x, x ∈ laid V R (2 * 8) → In V R x) := hid (fun x hx => (mem_laid.1 hx).2)
  have hll := laid_len V R (2 * 8)
  generalize laid V R (2 * 8) = ds at *
  obtain ⟨al, nl, cl, rfl, hnlen, ⟨hncap, _, _⟩, hncm, hnc⟩ := hnl
  unfold maxLen at hncm
  have hnb : nl ≤ 16 := by omega
  clear hll hls b3 hda c0 c1
  by_cases h0 : nl = 0
  · subst h0
    have hb := hid hls3.out.bel
    clear hnc hnlen hncm hncap
    go_wp2_with fail
    refine (hsu.out _).mono ?_
    rintro e w9 ⟨rfl, b9⟩
    have hb9 := hid (hb.out.trans (b9.mono hb.out.size))
    clear b9
    go_wp2_with fail
    go_ret
    exact ⟨rfl, hb9.out⟩
  · obtain ⟨k, hk1, hkn, hk2⟩ := mod_inN dd nl (by omega) (by omega)
    obtain ⟨y, hy⟩ : ∃ y, ds[k]? = some y := ⟨_, List.getElem?_eq_getElem (by rw [hnlen]; exact hkn)⟩
    obtain ⟨gb, go, rfl, ey⟩ := hnc k y hy
    have hyi := hid (hml.out y (List.mem_of_getElem? hy))
    have hyl := hyi.out.low htn.out
    have t0 : ((nl : Int) == 0) = false := by simp; omega
    have z2 : ¬ ((nl : Int) = 0) := by omega
    have hun : IntKind.u64.wrap (nl : Int) = (nl : Int) := by rw [IntKind.wrap_u64]; omega
    have i1 : (0 : Int) ≤ (k : Int) := by omega
    have i2 : (k : Int) < (nl : Int) := by omega
    have hor := hid (origin_in hls3.out.ta y hyi.out)
    obtain ⟨u, hu⟩ : ∃ u, og V R y = u := ⟨_, rfl⟩
    have hua : u < V ∧ y ∈ R u := by rw [← hu]; exact og_is hyi.out
    have hco : Hid (Co V R (u : Int) (y : Int)) := ⟨u, rfl, hua.1, .inr ⟨y, rfl, hua.2⟩⟩
    rw [hu] at hor
    replace hnlen := hid hnlen
    have hbit := hid (bits_nat y (by omega))
    have hmem : Hid (vx V R y ∈ Pq.orb (fx V R) (tw y)) := by
      have hti := hyi.out.tw htn.out htw.out
      refine hid (((fx_pm htn.out htw.out).mem_orb (hti.low htn.out)).2 ⟨1, ?_⟩)
      show fx V R (tw y) = vx V R y
      rw [fx_yes hti, tw_tw]
    clear hnc hy hu hua hml
    go_upto_region 7 with fail
    go_wp2_with fail
    refine hor.out.mono ?_
    rintro e w4 ⟨rfl, b4⟩
    clear hk1 hk2 ey
    have hls4 := hid (hls3.out.more b4)
    have hat := hid (fat_ok hls4.out.ta u (y : Int) hco.out)
    rw [fa_some] at hat
    have hnx := hid (fun q (hq : Below w4.heap.size w4 q) => nextv_in (hls4.out.ta.more hq) y hyi.out)
    obtain ⟨a, ha⟩ : ∃ a, vx V R y = a := ⟨_, rfl⟩
    rw [ha] at hat hnx hmem
    clear hls3 b4 hor hco ha
    go_wp2_with fail
    refine hat.out.mono ?_
    rintro e w5 ⟨rfl, b5⟩
    have hls5 := hid (hls4.out.more b5)
    replace hnx := hid (hnx.out w5 b5)
    clear hls4 b5 hat
    go_wp2_with fail
    refine hnx.out.mono ?_
    rintro e w6 ⟨rfl, b6⟩
    have hls6 := hid (hls5.out.more b6)
    have hwk := hid (walk_ok hls6.out.ta htw.out (tw y) (hyi.out.tw htn.out htw.out))
    clear hls5 b6 hnx
    go_wp2_with fail
    rw [hbit.out]
    refine hwk.out.mono ?_
    rintro e w7 ⟨rv, rfl, hrw, b7⟩
    have hls7 := hid (hls6.out.more b7)
    have hnl := hid hrw.nl
    clear hls6 b7 hwk hrw hbit
    generalize Pq.orb (fx V R) (tw y) = ws at *
    have hnl' := hnl.out
    obtain ⟨a7, n7, c7, rfl, hlen7, ⟨hn7, _, _⟩, hc7, hce⟩ := hnl'
    unfold maxLen at hc7
    have t2 : ((a : Int) != (a : Int)) = false := by simp
    replace hlen7 := hid hlen7
    replace hce := hid hce
    go_wp2_with fail
    go_loopw [20, 21] (fun s20 s21 wr => ∃ (j : Nat) (b : Bool), j ≤ n7 ∧ s21 = .int .i64 (j : Int) ∧ s20 = .bool b ∧ Hid (b = true ↔ a ∈ ws.take j) ∧ Hid (wr = w7)) (fun _ s21 _ => n7 - (intOf s21).toNat)
    case atStart => exact ⟨0, false, by omega, by go_num, rfl, hid (by simp), rfl⟩
    case round =>
      obtain ⟨j, b, hj, rfl, rfl, hb, hwr⟩ := hrel
      have hwr' := hwr.out
      subst hwr'
      clear hwr
      rcases Nat.lt_or_ge j n7 with hjl | hjg
      · obtain ⟨z, hz⟩ : ∃ z, ws[j]? = some z := ⟨_, List.getElem?_eq_getElem (by rw [hlen7.out]; exact hjl)⟩
        obtain ⟨b8, o8, rfl, ez⟩ := hce.out j z hz
        have htk : Hid (∀ q : Bool, (q = true ↔ (b = true ∨ z = a)) → (q = true ↔ a ∈ ws.take (j + 1))) := hid (fun q hq => by
          rw [ntake hz, List.mem_append, List.mem_singleton, hq, hb.out]
          exact or_congr Iff.rfl ⟨fun h => h.symm, fun h => h.symm⟩)
        have v1 : decide ((j : Int) < (n7 : Int)) = true := decide_eq_true (by omega)
        have j1 : (0 : Int) ≤ (j : Int) := by omega
        have j2 : (j : Int) < (n7 : Int) := by omega
        clear hz hb
        cases b with
        | true =>
          have hn := hid (htk.out true (by simp))
          clear htk
          go_wp2_with fail
          go_roundw
          case rel => exact ⟨j + 1, true, by omega, by go_num, rfl, hn, by first | exact trivial | exact rfl⟩
          case measure => simp [intOf]; omega
        | false =>
          by_cases ez' : z = a
          · have t3 : ((z : Int) == (a : Int)) = true := by simp [ez']
            have hn := hid (htk.out true (by simp [ez']))
            subst ez'
            clear htk
            go_wp2_with fail
            go_roundw
            case rel => exact ⟨j + 1, true, by omega, by go_num, rfl, hn, by first | exact trivial | exact rfl⟩
            case measure => simp [intOf]; omega
          · have t3 : ((z : Int) == (a : Int)) = false := by simp; omega
            have t4 : ¬ ((z : Int) = (a : Int)) := by omega
            have hn := hid (htk.out false (by simp [ez']))
            clear htk
            go_wp2_with fail
            go_roundw
            case rel => exact ⟨j + 1, false, by omega, by go_num, rfl, hn, by first | exact trivial | exact rfl⟩
            case measure => simp [intOf]; omega
      · obtain rfl : j = n7 := by omega
        obtain rfl : b = true := hb.out.2 (by rw [List.take_of_length_le (by rw [hlen7.out]; exact Nat.le_refl _)]; exact hmem.out)
        have v1 : decide ((j : Int) < (j : Int)) = false := decide_eq_false (by omega)
        have hbl := hid hls7.out.bel
        clear hb
        go_wp2_with fail
        refine (hsu.out _).mono ?_
        rintro e w9 ⟨rfl, b9⟩
        have hb9 := hid (hbl.out.trans (b9.mono hbl.out.size))
        clear b9
        go_wp2_with fail
        go_ret
        exact ⟨rfl, hb9.out⟩

end Go.Proofs.YtieglcjfphmglaaDoor
