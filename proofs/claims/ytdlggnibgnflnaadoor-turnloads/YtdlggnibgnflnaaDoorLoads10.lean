/- TurnLoads, walked. -/
import Derived.Test.YtdlggnibgnflnaaDoorRLoad10
import Derived.Test.YtdlggnibgnflnaaDoorLs10
namespace Go.Proofs.YtdlggnibgnflnaaDoor
open Go.RowKit
set_option linter.unusedVariables false

set_option maxRecDepth 100000 in
set_option maxHeartbeats 8000000 in
theorem loads_law (v e : Int) (u : Value) (ls : List (List Int)) (w : World) (hg : Handle w) (hu : RV w u ls) :
    Calls Tryd.prog 7 #[.int .i64 v, .int .i64 e, u] w fun x w' => x = .returned (.bool true) ∧ Below w.heap.size w w' := by
  have hu0 := hid hu
  have hsu := hid (fun y => sure_ok y)
  obtain ⟨ad, n, cap, rfl, hs⟩ := hu
  have hlen := hs.len
  have hbig := hs.big
  replace hs := hid hs
  replace hg := hid hg
  go_enter Tryd.func7, Tryd.ntmps7
  go_upto_block 0 with fail
  go_cut [7, 8] from 16 to 33 (fun s7 _ wx => ∃ a : Int, s7 = .int .i64 a ∧ w = wx)
  case first =>
    go_wp2_with fail
    go_loop [7, 8] (fun s7 s8 => ∃ (i : Nat) (a : Int), i ≤ n ∧ i ≤ 100 ∧ 0 ≤ a ∧ a ≤ 100 * (i : Int) ∧ s8 = .int .i64 (i : Int) ∧ s7 = .int .i64 a) (fun _ s8 => n - (intOf s8).toNat)
    case atStart => exact ⟨0, 0, by omega, by omega, by omega, by omega, by go_num, by go_num⟩
    case round =>
      obtain ⟨i, a, hi, hi2, ha, ha2, rfl, rfl⟩ := hrel
      by_cases hc : i < n ∧ i < 100
      · have t1 : decide ((i : Int) < (n : Int)) = true := decide_eq_true (by omega)
        have t2 : decide ((i : Int) < 100) = true := decide_eq_true (by omega)
        obtain ⟨l, hz⟩ : ∃ l, ls[i]? = some l := ⟨_, List.getElem?_eq_getElem (by omega)⟩
        obtain ⟨ab, ao, rw, rfl, cz, hiv⟩ := hs.out.cell i l hz
        obtain ⟨ia, im, ic, rfl, hsl⟩ := hiv
        have hib := hsl.big
        clear hsl hz
        by_cases hm : im ≤ 100
        · have t3 : min (im : Int) 100 = (im : Int) := by omega
          go_wp2_with fail
          go_round
          case rel => exact ⟨i + 1, a + (im : Int), by omega, by omega, by omega, by omega, by go_num, by go_num⟩
          case measure => simp [intOf]; omega
        · have t3 : min (im : Int) 100 = 100 := by omega
          go_wp2_with fail
          go_round
          case rel => exact ⟨i + 1, a + 100, by omega, by omega, by omega, by omega, by go_num, by go_num⟩
          case measure => simp [intOf]; omega
      · have hex : (decide ((i : Int) < (n : Int)) = false ∧ decide (i < n) = false) ∨ ((decide ((i : Int) < (n : Int)) = true ∧ decide (i < n) = true) ∧ (decide ((i : Int) < 100) = false ∧ decide (i < 100) = false)) := by
          by_cases q : i < n
          · exact .inr ⟨⟨decide_eq_true (by omega), decide_eq_true q⟩, decide_eq_false (by omega), decide_eq_false (by omega)⟩
          · exact .inl ⟨decide_eq_false (by omega), decide_eq_false q⟩
        clear hc hi hi2 ha ha2
        rcases hex with ⟨t1, t3⟩ | ⟨⟨t1, t3⟩, t2, t4⟩
        all_goals
          go_wp2_with fail
          go_meet
          case rel => exact ⟨a, rfl, rfl⟩
  case rest =>
    obtain ⟨a, rfl, rfl⟩ := hcut
    by_cases ha : 60 < a
    · have qa : decide (a > 60) = true := decide_eq_true (by omega)
      have qa' : decide (60 < a) = true := decide_eq_true (by omega)
      go_wp2_with fail
      refine (hsu.out _).mono ?_
      rintro x w9 ⟨rfl, b9⟩
      replace b9 := hid b9
      go_wp2_with fail
      go_ret
      exact ⟨by first | rfl | simp, b9.out⟩
    · have qa : decide (a > 60) = false := decide_eq_false (by omega)
      have qa' : decide (60 < a) = false := decide_eq_false (by omega)
      by_cases hn : 60 < n
      · have qn : decide ((n : Int) > 60) = true := decide_eq_true (by omega)
        have qn' : decide (60 < (n : Int)) = true := decide_eq_true (by omega)
        go_wp2_with fail
        refine (hsu.out _).mono ?_
        rintro x w9 ⟨rfl, b9⟩
        replace b9 := hid b9
        go_wp2_with fail
        go_ret
        exact ⟨by first | rfl | simp, b9.out⟩
      · have qn : decide ((n : Int) > 60) = false := decide_eq_false (by omega)
        have qn' : decide (60 < (n : Int)) = false := decide_eq_false (by omega)
        by_cases hc1 : 1 ≤ v ∧ v ≤ 1048576 ∧ 1 ≤ e ∧ e ≤ 1048576
        · have p1 : decide (v ≥ 1) = true := decide_eq_true (by omega)
          have p1' : decide (1 ≤ v) = true := decide_eq_true (by omega)
          have p2 : decide (v ≤ 1048576) = true := decide_eq_true (by omega)
          have p2' : decide (v ≤ (1048576 : Int)) = true := decide_eq_true (by omega)
          have p3 : decide (e ≥ 1) = true := decide_eq_true (by omega)
          have p3' : decide (1 ≤ e) = true := decide_eq_true (by omega)
          have p4 : decide (e ≤ 1048576) = true := decide_eq_true (by omega)
          have p4' : decide (e ≤ (1048576 : Int)) = true := decide_eq_true (by omega)
          by_cases hv6 : 60 < v
          · have qv : decide (v > 60) = true := decide_eq_true (by omega)
            have qv' : decide (60 < v) = true := decide_eq_true (by omega)
            clear hc1
            go_wp2_with fail
            refine (hsu.out _).mono ?_
            rintro x w9 ⟨rfl, b9⟩
            replace b9 := hid b9
            go_wp2_with fail
            go_ret
            exact ⟨by first | rfl | simp, b9.out⟩
          · have qv : decide (v > 60) = false := decide_eq_false (by omega)
            have qv' : decide (60 < v) = false := decide_eq_false (by omega)
            by_cases he6 : 60 < e
            · have qe : decide (e > 60) = true := decide_eq_true (by omega)
              have qe' : decide (60 < e) = true := decide_eq_true (by omega)
              clear hc1
              go_wp2_with fail
              refine (hsu.out _).mono ?_
              rintro x w9 ⟨rfl, b9⟩
              replace b9 := hid b9
              go_wp2_with fail
              go_ret
              exact ⟨by first | rfl | simp, b9.out⟩
            · have qe : decide (e > 60) = false := decide_eq_false (by omega)
              have qe' : decide (60 < e) = false := decide_eq_false (by omega)
              obtain ⟨V, rfl⟩ : ∃ V : Nat, v = (V : Int) := ⟨v.toNat, by omega⟩
              obtain ⟨E, rfl⟩ : ∃ E : Nat, e = (E : Int) := ⟨e.toNat, by omega⟩
              have hV1 : 1 ≤ V := by omega
              have hV2 : V ≤ 60 := by omega
              have hE1 : 1 ≤ E := by omega
              have hE2 : E ≤ 60 := by omega
              have hld := hid (load_any (V := V) (E := E) hV1 (by omega) hE1 (by omega) hu0.out)
              have hrl := hid (fun y (hy : Below w.heap.size w y) => rload_any (V := V) (E := E) hV1 (by omega) (by omega) (hu0.out.below hy))
              clear hc1 hv6 he6
              go_wp2_with fail
              refine hld.out.mono ?_
              rintro x w1 ⟨b1, hor⟩
              replace b1 := hid b1
              have hrl1 := hid (hrl.out w1 b1.out)
              clear hrl hld
              by_cases hG : Good V E ls
              · rcases hor with ⟨_, tb, rfl, hta⟩ | ⟨hno, _⟩
                · replace hta := hid hta
                  replace hG := hid hG
                  go_wp2_with fail
                  refine hrl1.out.mono ?_
                  rintro x w2 ⟨b2, hor2⟩
                  rcases hor2 with ⟨_, tv, rfl, hrt⟩ | ⟨hno, _⟩
                  · obtain ⟨lv, rfl, hnr⟩ := hrt
                    have hb2 := hid (b1.out.trans (b2.mono b1.out.size))
                    have htn := hta.out.tn
                    have hbo : Bo w2 w.heap.size tb (.agg #[.int .i64 (E : Int), lv]) V E E (RR ls ls.length 0) := ⟨hta.out.more b2, ⟨lv, rfl, hnr⟩, htn, hG.out.2.2, Nat.le_refl _⟩
                    have hnr' := hnr
                    obtain ⟨ad3, cp3, rfl, _⟩ := hnr'
                    have hg3 := heap_alloc_new w2 (.cells #[.int .i64 (E : Int), .slice ad3 V cp3] 31)
                    have hb3 := balloc w2 (.cells #[.int .i64 (E : Int), .slice ad3 V cp3] 31)
                    have hbo3 := hid (hbo.more hb3)
                    have hbw3 := hid (hb2.out.trans (hb3.mono hb2.out.size))
                    replace hg3 := hid hg3
                    clear hbo htn hnr b2 hb2 hb3 hrl1 hta hG b1
                    go_upto_region 17 with fail
                    try generalize w2.alloc (.cells #[.int .i64 (E : Int), .slice ad3 V cp3] 31) = wo at hg3 hbo3 hbw3 ⊢
                    generalize w2.heap.size = g3 at hg3 ⊢
                    have hto := hid (fun d v' y (hy : Below wo.heap.size wo y) => told_ok (hbo3.out.more hy) d v' (hg.out.below (hbw3.out.trans (hy.mono hbw3.out.size))) (by omega) (by omega))
                    have hF : Hid (∀ y, Below wo.heap.size wo y → y.cell? ⟨g3, 0, none⟩ = some (.int .i64 (E : Int)) ∧ y.cell? ⟨g3, 1, none⟩ = some (.slice ad3 V cp3)) := fun y hy => by
                      obtain ⟨x0, x1, _, _⟩ := blk2 hg3.out
                      exact ⟨(hy.cell (World.block_lt_of_cell? _ _ x0)).trans x0, (hy.cell (World.block_lt_of_cell? _ _ x1)).trans x1⟩
                    have z1 : ¬ (V = 0) := by omega
                    have z2 : ¬ ((V : Int) = 0) := by omega
                    clear hbo3 hg3
                    go_wp2_with fail
                    go_loopw [14] (fun s14 wx => ∃ d : Nat, d ≤ 2 * E ∧ s14 = .int .i64 (d : Int) ∧ Hid (Below wo.heap.size wo wx)) (fun s14 _ => 2 * E - (intOf s14).toNat)
                    case atStart => exact ⟨0, by omega, by go_num, Below.refl _ _⟩
                    case round =>
                      obtain ⟨d, hd, rfl, hs5⟩ := hrel
                      rcases Nat.lt_or_ge d (2 * E) with hdl | hdg
                      · have v1 : decide ((d : Int) < 2 * (E : Int)) = true := decide_eq_true (by omega)
                        obtain ⟨x0, x1⟩ := hF.out _ hs5.out
                        go_wp2_with fail
                        go_region_held3 (fun y => y.cell? ⟨g3, 0, none⟩ = some (.int .i64 (E : Int)) ∧ y.cell? ⟨g3, 1, none⟩ = some (.slice ad3 V cp3)) (first | exact ⟨x0, x1⟩ | exact ⟨g0, g1⟩ | go_keep) ((go_at_call 13; refine (hto.out _ _ _ hs5.out.drew).mono ?_; rintro x w6 ⟨rfl, bq⟩; have b6 : Hid (Below wo.heap.size wo w6) := hs5.out.drew.trans (bq.mono hs5.out.size); obtain ⟨g0, g1⟩ := hF.out _ b6.out; clear bq))
                        go_wp2_with fail
                        go_roundw
                        case rel => exact ⟨d + 1, by omega, by go_num, b6.out⟩
                        case measure => simp [intOf]; omega
                      · have v1 : decide ((d : Int) < 2 * (E : Int)) = false := decide_eq_false (by omega)
                        go_wp2_with fail
                        go_loopw [15] (fun s15 wx => ∃ i : Nat, i ≤ V ∧ s15 = .int .i64 (i : Int) ∧ Hid (Below wo.heap.size wo wx)) (fun s15 _ => V - (intOf s15).toNat)
                        case atStart => exact ⟨0, by omega, by go_num, hs5.out⟩
                        case round =>
                          obtain ⟨i, hi, rfl, hs6⟩ := hrel
                          clear hs5
                          rcases Nat.lt_or_ge i V with hil | hig
                          · have v1 : decide ((i : Int) < (V : Int)) = true := decide_eq_true (by omega)
                            obtain ⟨x0, x1⟩ := hF.out _ hs6.out
                            have hto6 := hid (hto.out 0 (i : Int) _ hs6.out)
                            go_wp2_with fail
                            refine hto6.out.mono ?_
                            rintro x w6 ⟨rfl, bq⟩
                            have b6 : Hid (Below wo.heap.size wo w6) := hs6.out.trans (bq.mono hs6.out.size)
                            clear bq
                            go_wp2_with fail
                            go_roundw
                            case rel => exact ⟨i + 1, by omega, by go_num, b6.out⟩
                            case measure => simp [intOf]; omega
                          · obtain rfl : V = i := by omega
                            have v1 : decide ((V : Int) < (V : Int)) = false := decide_eq_false (by omega)
                            have b8 := hid (hbw3.out.trans (hs6.out.mono hbw3.out.size))
                            go_wp2_with fail
                            refine (hsu.out _).mono ?_
                            rintro x w9 ⟨rfl, bq⟩
                            have b9 : Hid (Below w.heap.size w w9) := b8.out.trans (bq.mono b8.out.size)
                            clear bq
                            go_wp2_with fail
                            go_ret
                            exact ⟨by first | rfl | simp, b9.out⟩
                  · exact absurd hG.out hno
                · exact absurd hG hno
              · rcases hor with ⟨hno, _⟩ | ⟨_, rfl⟩
                · exact absurd hno hG
                · replace hG := hid hG
                  go_wp2_with fail
                  refine hrl1.out.mono ?_
                  rintro x w2 ⟨b2, hor2⟩
                  rcases hor2 with ⟨hno, _⟩ | ⟨_, rfl⟩
                  · exact absurd hno hG.out
                  · have hb2 := hid (b1.out.trans (b2.mono b1.out.size))
                    have hb3 := hid (hb2.out.alloc hb2.out.size (.cells #[.int .i64 0, .slice none 0 0] 31))
                    have hnu := hid (fun y (hy : Below w.heap.size w y) => num_any (.iface 65 (.int .i64 3)) 3 y (hg.out.below hy) (.inr ⟨rfl, by decide⟩))
                    clear b2 hb2 hrl1 b1
                    go_wp2_with fail
                    refine (hnu.out _ hb3.out).mono ?_
                    rintro x w4 ⟨rfl, b4⟩
                    have hb4 := hid (hb3.out.trans (b4.mono hb3.out.size))
                    clear b4
                    go_wp2_with fail
                    refine (hsu.out _).mono ?_
                    rintro x w9 ⟨rfl, bq⟩
                    have b9 : Hid (Below w.heap.size w w9) := hb4.out.trans (bq.mono hb4.out.size)
                    clear bq
                    go_wp2_with fail
                    go_ret
                    exact ⟨by first | rfl | simp, b9.out⟩
        · by_cases k1 : 1 ≤ v
          · by_cases k2 : v ≤ 1048576
            · by_cases k3 : 1 ≤ e
              · have p1 : decide (v ≥ 1) = true := decide_eq_true (by omega)
                have p1' : decide (1 ≤ v) = true := decide_eq_true (by omega)
                have p2 : decide (v ≤ 1048576) = true := decide_eq_true (by omega)
                have p2' : decide (v ≤ (1048576 : Int)) = true := decide_eq_true (by omega)
                have p3 : decide (e ≥ 1) = true := decide_eq_true (by omega)
                have p3' : decide (1 ≤ e) = true := decide_eq_true (by omega)
                have p4 : decide (e ≤ 1048576) = false := decide_eq_false (by omega)
                have p4' : decide (e ≤ (1048576 : Int)) = false := decide_eq_false (by omega)
                have hA := hid (fun y => load_arg v e (.slice ad n cap) y (by omega))
                clear hc1
                go_wp2_with fail
                refine (hA.out _).mono ?_
                rintro x w1 ⟨rfl, rfl⟩
                go_wp2_with fail
                refine (num_any _ 1 w hg.out (.inr ⟨rfl, by decide⟩)).mono ?_
                rintro x w2 ⟨rfl, b2⟩
                replace b2 := hid b2
                go_wp2_with fail
                refine (hsu.out _).mono ?_
                rintro x w9 ⟨rfl, b9⟩
                have b9' := hid (b2.out.trans (b9.mono b2.out.size))
                clear b9
                go_wp2_with fail
                go_ret
                exact ⟨by first | rfl | simp, b9'.out⟩
              · have p1 : decide (v ≥ 1) = true := decide_eq_true (by omega)
                have p1' : decide (1 ≤ v) = true := decide_eq_true (by omega)
                have p2 : decide (v ≤ 1048576) = true := decide_eq_true (by omega)
                have p2' : decide (v ≤ (1048576 : Int)) = true := decide_eq_true (by omega)
                have p3 : decide (e ≥ 1) = false := decide_eq_false (by omega)
                have p3' : decide (1 ≤ e) = false := decide_eq_false (by omega)
                have hA := hid (fun y => load_arg v e (.slice ad n cap) y (by omega))
                clear hc1
                go_wp2_with fail
                refine (hA.out _).mono ?_
                rintro x w1 ⟨rfl, rfl⟩
                go_wp2_with fail
                refine (num_any _ 1 w hg.out (.inr ⟨rfl, by decide⟩)).mono ?_
                rintro x w2 ⟨rfl, b2⟩
                replace b2 := hid b2
                go_wp2_with fail
                refine (hsu.out _).mono ?_
                rintro x w9 ⟨rfl, b9⟩
                have b9' := hid (b2.out.trans (b9.mono b2.out.size))
                clear b9
                go_wp2_with fail
                go_ret
                exact ⟨by first | rfl | simp, b9'.out⟩
            · have p1 : decide (v ≥ 1) = true := decide_eq_true (by omega)
              have p1' : decide (1 ≤ v) = true := decide_eq_true (by omega)
              have p2 : decide (v ≤ 1048576) = false := decide_eq_false (by omega)
              have p2' : decide (v ≤ (1048576 : Int)) = false := decide_eq_false (by omega)
              have hA := hid (fun y => load_arg v e (.slice ad n cap) y (by omega))
              clear hc1
              go_wp2_with fail
              refine (hA.out _).mono ?_
              rintro x w1 ⟨rfl, rfl⟩
              go_wp2_with fail
              refine (num_any _ 1 w hg.out (.inr ⟨rfl, by decide⟩)).mono ?_
              rintro x w2 ⟨rfl, b2⟩
              replace b2 := hid b2
              go_wp2_with fail
              refine (hsu.out _).mono ?_
              rintro x w9 ⟨rfl, b9⟩
              have b9' := hid (b2.out.trans (b9.mono b2.out.size))
              clear b9
              go_wp2_with fail
              go_ret
              exact ⟨by first | rfl | simp, b9'.out⟩
          · have p1 : decide (v ≥ 1) = false := decide_eq_false (by omega)
            have p1' : decide (1 ≤ v) = false := decide_eq_false (by omega)
            have hA := hid (fun y => load_arg v e (.slice ad n cap) y (by omega))
            clear hc1
            go_wp2_with fail
            refine (hA.out _).mono ?_
            rintro x w1 ⟨rfl, rfl⟩
            go_wp2_with fail
            refine (num_any _ 1 w hg.out (.inr ⟨rfl, by decide⟩)).mono ?_
            rintro x w2 ⟨rfl, b2⟩
            replace b2 := hid b2
            go_wp2_with fail
            refine (hsu.out _).mono ?_
            rintro x w9 ⟨rfl, b9⟩
            have b9' := hid (b2.out.trans (b9.mono b2.out.size))
            clear b9
            go_wp2_with fail
            go_ret
            exact ⟨by first | rfl | simp, b9'.out⟩

end Go.Proofs.YtdlggnibgnflnaaDoor
