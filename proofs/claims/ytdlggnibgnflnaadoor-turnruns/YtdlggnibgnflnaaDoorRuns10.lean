/- 'TurnRuns', walked. -/
import Derived.Test.YtdlggnibgnflnaaDoorChecks10
import Derived.Test.YtdlggnibgnflnaaDoorRegion
namespace Go.Proofs.YtdlggnibgnflnaaDoor
open Go.RowKit
set_option linter.unusedVariables false

set_option maxRecDepth 100000 in
set_option maxHeartbeats 4000000 in
theorem runs_law (n : Int) (v : Value) (l : List Ac) (w : World) (hg : Handle w) (hv : AV w v l) :
    Calls Tryd.prog 3 #[.int .i64 n, v] w fun x w' => x = .returned (.bool true) ∧ Below w.heap.size w w' := by
  obtain ⟨V, hV, hV1, hV6⟩ := mod_up n 6 (by decide) (by decide)
  have hlo : 0 < w.heap.size := hg.lt
  have hnew := hid (new_ok V 8 w (by omega) (by omega) (by decide) (by decide))
  have hrn := hid (fun y => rnew_ok 8 V y (by decide) (by omega))
  have hav := hid hv
  obtain ⟨sa, m, sc, rfl, hlen, hmc, hcm, _⟩ := hv
  unfold maxLen at hcm
  replace hlen := hid hlen
  replace hg := hid hg
  go_enter Tryd.func3, Tryd.ntmps3
  go_upto_region 2 with fail
  try rw [hV]
  clear hV
  go_wp2_with fail
  refine hnew.out.mono ?_
  rintro x w1 ⟨rfl, a1, b1⟩
  replace a1 := hid a1
  replace b1 := hid b1
  clear hnew
  go_wp2_with fail
  refine (hrn.out w1).mono ?_
  rintro x w2 ⟨xv, rfl, hx, b2⟩
  obtain ⟨ad0, cap0, rfl, hls0⟩ := Ls.new (a1.out.more b2) (b1.out.trans (b2.mono b1.out.size)) hx (Nat.le_refl 8)
  replace hls0 := hid hls0
  clear b2 hx a1 b1 hrn
  go_wp2_with fail
  obtain ⟨w3, hw3⟩ : ∃ w3, w2.alloc (.cells #[.int .i64 8, .slice ad0 V cap0] 31) = w3 := ⟨_, rfl⟩
  have hls1 : Hid (Ls w w.heap.size w2.heap.size V 8 8 (fun _ => []) w3) := by rw [← hw3]; exact hls0
  try rw [hw3]
  clear hls0 hw3
  go_loopw [10, 11, 12, 13, 14] (fun s10 _ _ _ _ wr => ∃ (j : Nat) (R : Nat → List Nat), j ≤ m ∧ j ≤ 60 ∧ s10 = .int .i64 (j : Int) ∧ Hid (Ls w w.heap.size w2.heap.size V 8 8 R wr)) (fun s10 _ _ _ _ _ => 60 - (intOf s10).toNat)
  case atStart => exact ⟨0, _, by omega, by omega, by go_num, hls1.out⟩
  case round =>
    obtain ⟨j, R, hj, hj40, rfl, hst⟩ := hrel
    clear hls1
    by_cases hlt : j < m ∧ j < 60
    · obtain ⟨q, hq⟩ : ∃ q, l[j]? = some q := ⟨_, List.getElem?_eq_getElem (by rw [hlen.out]; exact hlt.1)⟩
      obtain ⟨ad, cap, hbo, hgb, hgl, hbw⟩ := hst.out
      have hdo := hid (fun y (hy : Below wr.heap.size wr y) => do_ok (hbo.more hy) q (hg.out.below (hbw.trans (hy.mono hbw.size))) hlo hV1 (by omega) (by decide) (by omega))
      obtain ⟨b0, o0, n0, c0', e0, hbl, k0, k1, k2, k3, k4, k5⟩ := hav.out.six hbw hq
      simp only [Value.slice.injEq] at e0
      obtain ⟨rfl, rfl, rfl⟩ := e0
      obtain ⟨qk, qe, qa0, qa1, qb0, qb1⟩ := q
      clear k0 k1 k2 k3 k4 k5
      have hglt : w2.heap.size < wr.heap.size := (Array.getElem?_eq_some_iff.1 hgb).1
      have i1 : (0 : Int) ≤ (j : Int) := by omega
      have i2 : (j : Int) < (m : Int) := by omega
      have t1 : decide ((j : Int) < (m : Int)) = true := decide_eq_true (by omega)
      have t2 : decide ((j : Int) < 60) = true := decide_eq_true (by omega)
      have hq' := hid hq
      have hgb' := hid hgb
      have hbw' := hid hbw
      have hwl := hbw.size
      clear hst hbo hgb hbw hq
      go_upto_region 9 with fail
      go_cut [11, 12] from 48 to 57 (fun s11 s12 wx => ∃ P, s11 = .pointer (some ⟨P, 0, none⟩) ∧ s12 = .bool true ∧ Hid (w.heap.size ≤ P ∧ P ≠ w2.heap.size ∧ Yd w w.heap.size w2.heap.size V 8 8 P (.int .i64 8) (.slice ad V cap) wx))
      case first =>
        have E0 := hid (fun (y : World) (hb : Below w.heap.size w y) (hg : y.heap[w2.heap.size]? = some (.cells #[.int .i64 8, .slice ad V cap] 31 (0, 0))) => eight hav.out hq'.out rfl hb hg)
        go_region_held3 (fun y => y.cell? ⟨w2.heap.size, 0, none⟩ = some (.int .i64 8) ∧ y.cell? ⟨w2.heap.size, 1, none⟩ = some (.slice ad V cap) ∧ y.cell? ⟨b0, o0 + j * 6, none⟩ = some (.int .i64 qk) ∧ y.cell? ⟨b0, o0 + j * 6 + 1, none⟩ = some (.int .i64 qe) ∧ y.cell? ⟨b0, o0 + j * 6 + 2, none⟩ = some (.int .i64 qa0) ∧ y.cell? ⟨b0, o0 + j * 6 + 3, none⟩ = some (.int .i64 qa1) ∧ y.cell? ⟨b0, o0 + j * 6 + 4, none⟩ = some (.int .i64 qb0) ∧ y.cell? ⟨b0, o0 + j * 6 + 5, none⟩ = some (.int .i64 qb1))
          (first | exact E0.out wr.drew hbw'.out.drew hgb'.out | exact E0.out _ hbw'.out.drew hgb'.out | exact E0.out _ (hbw'.out.drew.alloc hwl _) (al_keep (y := wr.drew) hgb'.out) | exact E0.out _ hb4.out hg4.out | exact E0.out _ (hb4.out.alloc hb4.out.size _) (al_keep hg4.out) | exact E0.out _ (below2 hb4.out (by omega) _ _) (by rw [Below.heap_setCell _ _ _ _ (by show w2.heap.size ≠ wr.heap.size; omega), Below.heap_setCell _ _ _ _ (by show w2.heap.size ≠ wr.heap.size; omega)]; exact hg4.out) | exact E0.out _ (below2 (hb4.out.alloc hb4.out.size _) hb4.out.size _ _) (by rw [Below.heap_setCell _ _ _ _ (by show w2.heap.size ≠ w4.heap.size; omega), Below.heap_setCell _ _ _ _ (by show w2.heap.size ≠ w4.heap.size; omega)]; exact al_keep hg4.out) | go_keep)
          ((go_at_call 11; refine (hdo.out _ (by first | exact (Below.refl _ _).drew | exact (Below.refl _ _).drew.alloc (Nat.le_refl _) _)).mono ?_; rintro x w4 ⟨xv', R', rfl, hbo', hkp⟩; obtain ⟨lv', hxe, ad', cap', hlv, _⟩ := id hbo'.rt; subst hxe; subst hlv; have hg4 := hid ((hkp.keep (k := w2.heap.size) ⟨_, _, (by first | exact hgb'.out | exact al_keep (y := wr.drew) hgb'.out)⟩ (by decide) (by decide) (by decide)).trans (by first | exact hgb'.out | exact al_keep (y := wr.drew) hgb'.out)); have hb4 : Hid (Below w.heap.size w w4) := Below.trans (by first | exact hbw'.out.drew | exact hbw'.out.drew.alloc hwl _) (hkp.below (by first | exact hwl | (simp; omega))); have hz4 := hkp.size; try simp at hz4; (first | (have hP4 := (hkp.keep (k := wr.heap.size) ⟨_, _, heap_alloc_new wr.drew (.cells #[.int .i64 0, .slice none 0 0] 31)⟩ (by decide) (by decide) (by decide)).trans (heap_alloc_new wr.drew (.cells #[.int .i64 0, .slice none 0 0] 31)); obtain ⟨z0, z1, z2, z3⟩ := blk2 hP4; replace hP4 := hid hP4) | skip); replace hbo' := hid hbo'; clear hkp))
        all_goals
          go_wp2_with fail
          go_meet
          case rel => first
            | exact ⟨w4.heap.size, rfl, rfl, hb4.out.size, (by omega), Yd.alloc hbo'.out hg4.out hb4.out⟩
            | exact ⟨wr.heap.size, rfl, rfl, hwl, (by omega), Yd.set hbo'.out hg4.out hP4.out (by omega) hwl hb4.out⟩
      case rest =>
        obtain ⟨P, rfl, rfl, hst'⟩ := hcut
        obtain ⟨hP1, hP2, R', ad', cap', hbo', hg', hP', hb'⟩ := hst'.out
        obtain ⟨z0, z1, _, _⟩ := blk2 hP'
        obtain ⟨y0, y1, y2, y3⟩ := blk2 hg'
        have fin := hid (Ls.store hbo' hg' hgl hb')
        clear hst' hbo' hg' hP' hb' hdo hgb' hbw'
        go_upto_region 11 with fail
        generalize (wc.setCell ⟨w2.heap.size, 0, none⟩ (.int .i64 8)).setCell ⟨w2.heap.size, 1, none⟩ (.slice ad' V cap') = wd at fin ⊢
        clear z0 z1 y0 y1 y2 y3
        obtain ⟨ad2, cap2, hbo2, hg2, _, hb2⟩ := fin.out
        have hnd := hbo2.tn
        have hfi := hid (fun d y (hy : Below wd.heap.size wd y) => rfind_ok _ 8 V R' d y (hbo2.rt.below hy) (by omega) (fun u hu => by have := hnd.len hu; omega))
        have hto := hid (fun d v' y (hy : Below wd.heap.size wd y) => told_ok (hbo2.more hy) d v' (hg.out.below (hb2.trans (hy.mono hb2.size))) (by omega) (by decide))
        have hha := hid (fun (e : Nat) (b : Bool) (he : e < 8) (hb : b = true ↔ In V R' (2 * e)) y (hy : Below wd.heap.size wd y) => has_ok (hbo2.ta.more hy) e b he hb)
        have E1 := hid (fun (y : World) (hy : Below wd.heap.size wd y) => eight hav.out hq'.out rfl (hb2.trans (hy.mono hb2.size)) ((hy.block _ (Array.getElem?_eq_some_iff.1 hg2).1).trans hg2))
        have hls2 := hid (fun (y : World) (hy : Below wd.heap.size wd y) => fin.out.more hy)
        clear fin hbo2 hg2 hb2 hnd
        go_cut [13, 14] from 59 to 71 (fun s13 s14 wx => ∃ (r s : Int), s13 = .int .i64 r ∧ s14 = .int .i64 s ∧ Hid (Below wd.heap.size wd wx ∧ (0 ≤ qe → qe < 8 → (0 ≤ r ↔ In V R' (2 * qe.toNat)))))
        case first =>
          obtain ⟨x0, x1, f0, f1, f2, f3, f4, f5⟩ := E1.out wd (Below.refl _ _)
          clear f0 f2 f3 f4 f5
          have hq3 : (100 < qe) ∨ (¬ 100 < qe ∧ qe < -1) ∨ (¬ 100 < qe ∧ ¬ qe < -1) := by omega
          rcases hq3 with hq1 | ⟨hq1, hq2⟩ | ⟨hq1, hq2⟩
          · skip
            go_region_held3 (fun y => y.cell? ⟨w2.heap.size, 0, none⟩ = some (.int .i64 8) ∧ y.cell? ⟨w2.heap.size, 1, none⟩ = some (.slice ad2 V cap2) ∧ y.cell? ⟨b0, o0 + j * 6 + 1, none⟩ = some (.int .i64 qe)) (first | exact ⟨x0, x1, f1⟩ | exact ⟨g0, g1, g2⟩ | go_keep) ((go_at_call 12; refine (hfi.out _ _ (Below.refl _ _).drew).mono ?_; rintro x w6 ⟨r, s, rfl, hat, bq⟩; have b6 : Hid (Below wd.heap.size wd w6) := (Below.refl _ _).drew.trans bq; obtain ⟨g0, g1, _, g2, _, _, _, _⟩ := E1.out w6 b6.out; replace hat := hid hat; clear bq))
            go_wp2_with fail
            go_meet
            case rel => exact ⟨r, s, rfl, rfl, b6.out, fun h1 h2 => by omega⟩
          · skip
            go_region_held3 (fun y => y.cell? ⟨w2.heap.size, 0, none⟩ = some (.int .i64 8) ∧ y.cell? ⟨w2.heap.size, 1, none⟩ = some (.slice ad2 V cap2) ∧ y.cell? ⟨b0, o0 + j * 6 + 1, none⟩ = some (.int .i64 qe)) (first | exact ⟨x0, x1, f1⟩ | exact ⟨g0, g1, g2⟩ | go_keep) ((go_at_call 12; refine (hfi.out _ _ (Below.refl _ _).drew).mono ?_; rintro x w6 ⟨r, s, rfl, hat, bq⟩; have b6 : Hid (Below wd.heap.size wd w6) := (Below.refl _ _).drew.trans bq; obtain ⟨g0, g1, _, g2, _, _, _, _⟩ := E1.out w6 b6.out; replace hat := hid hat; clear bq))
            go_wp2_with fail
            go_meet
            case rel => exact ⟨r, s, rfl, rfl, b6.out, fun h1 h2 => by omega⟩
          · have hfin : Hid (∀ r s, At V R' (IntKind.i64.wrap (2 * qe)) r s → 0 ≤ qe → qe < 8 → (0 ≤ r ↔ In V R' (2 * qe.toNat))) := fun r s hat h1 h2 => by
              rw [show IntKind.i64.wrap (2 * qe) = ((2 * qe.toNat : Nat) : Int) from by rw [IntKind.wrap_i64]; omega] at hat
              rcases hat.in with ⟨h3, h4⟩ | ⟨h3, h4⟩
              · exact ⟨fun _ => h4, fun _ => h3⟩
              · exact ⟨fun h5 => by omega, fun h5 => absurd h5 h4⟩
            go_region_held3 (fun y => y.cell? ⟨w2.heap.size, 0, none⟩ = some (.int .i64 8) ∧ y.cell? ⟨w2.heap.size, 1, none⟩ = some (.slice ad2 V cap2) ∧ y.cell? ⟨b0, o0 + j * 6 + 1, none⟩ = some (.int .i64 qe)) (first | exact ⟨x0, x1, f1⟩ | exact ⟨g0, g1, g2⟩ | go_keep) ((go_at_call 12; refine (hfi.out _ _ (Below.refl _ _).drew).mono ?_; rintro x w6 ⟨r, s, rfl, hat, bq⟩; have b6 : Hid (Below wd.heap.size wd w6) := (Below.refl _ _).drew.trans bq; obtain ⟨g0, g1, _, g2, _, _, _, _⟩ := E1.out w6 b6.out; replace hat := hid hat; clear bq))
            go_wp2_with fail
            go_meet
            case rel => exact ⟨r, s, rfl, rfl, b6.out, fun h1 h2 => hfin.out r s hat.out h1 h2⟩
        case rest =>
          obtain ⟨r, s, rfl, rfl, hc⟩ := hcut
          obtain ⟨hcb, hcr⟩ := hc.out
          replace hcb := hid hcb
          clear hc hfi
          obtain ⟨x0, x1, f0, f1, f2, f3, f4, f5⟩ := E1.out wc hcb.out
          go_upto_region 12 with fail
          go_cut [120] from 72 to 119 (fun s120 wx => s120 = .bool false ∧ Hid (Below wd.heap.size wd wx))
          case first =>
            by_cases hA : 0 ≤ qe ∧ qe < 8
            · obtain ⟨e, rfl⟩ : ∃ e : Nat, qe = (e : Int) := ⟨qe.toNat, by omega⟩
              have hrr : (0 ≤ r ↔ In V R' (2 * e)) := hcr hA.1 hA.2
              obtain ⟨bb, hbb, hbr⟩ : ∃ bb : Bool, (bb = true ↔ In V R' (2 * e)) ∧ decide (r ≥ 0) = bb := by
                refine ⟨decide (r ≥ 0), ?_, rfl⟩
                rw [decide_eq_true_iff]
                exact hrr
              have hhb := hid (fun y hy => hha.out e bb (by omega) hbb y hy)
              have d1 : decide ((e : Int) ≥ 0) = true := decide_eq_true (by omega)
              have d2 : decide ((e : Int) < 8) = true := decide_eq_true (by omega)
              have d3 : decide (0 ≤ r) = bb := hbr
              clear hcr hrr hbb hha hA
              refine wp_region_noPanic ?_
              refine wp_region_held_drew (S := fun y => y.cell? ⟨w2.heap.size, 0, none⟩ = some (.int .i64 8) ∧ y.cell? ⟨w2.heap.size, 1, none⟩ = some (.slice ad2 V cap2) ∧ y.cell? ⟨b0, o0 + j * 6 + 1, none⟩ = some (.int .i64 (e : Int)) ∧ y.cell? ⟨b0, o0 + j * 6 + 3, none⟩ = some (.int .i64 qa1) ∧ y.cell? ⟨b0, o0 + j * 6 + 4, none⟩ = some (.int .i64 qb0)) (by kernel_rfl) ⟨x0, x1, f1, f3, f4⟩ (fun hHeld => ?_)
              refine takeH (i := 0) (v := ?_) (a' := ?_) ({ dst := some 72, op := Op.move (Operand.tmp 12), type := 4, pos := "law.go:118", after := #[], guard := none }) rfl (by kernel_rfl) (by kernel_rfl) (by kernel_rfl) (fun _ _ _ h => h) (by rfl) ?_ (by assumption) ?_ ?_
              rotate_left 2
              · (intro w' hSw; obtain ⟨s0, s1, s2, s3, s4⟩ := hSw; go_simp; try with_reducible rfl)
              · (simp only [Act.put, List.setIfInBounds_toArray, List.set_cons_zero, List.set_cons_succ]; try rfl)
              refine takeH (i := 1) (v := .bool false) (a' := ?_) ({ dst := some 73, op := Op.unOp UnOp.not 4 (Operand.tmp 72), type := 4, pos := "law.go:118", after := #[{ on := 0, ground := Ground.data }], guard := none }) rfl (by kernel_rfl) (by kernel_rfl) (by kernel_rfl) (fun _ _ _ h => h) (by rfl) ?_ (by assumption) ?_ ?_
              rotate_left 1
              · (intro w' hSw; obtain ⟨s0, s1, s2, s3, s4⟩ := hSw; go_simp; try rfl)
              · (simp only [Act.put, List.setIfInBounds_toArray, List.set_cons_zero, List.set_cons_succ]; try rfl)
              refine takeH (i := 2) (v := ?_) (a' := ?_) ({ dst := some 74, op := Op.move (Operand.tmp 73), type := 4, pos := "law.go:118", after := #[{ on := 1, ground := Ground.data }], guard := none }) rfl (by kernel_rfl) (by kernel_rfl) (by kernel_rfl) (fun _ _ _ h => h) (by rfl) ?_ (by assumption) ?_ ?_
              rotate_left 2
              · (intro w' hSw; obtain ⟨s0, s1, s2, s3, s4⟩ := hSw; go_simp; try with_reducible rfl)
              · (simp only [Act.put, List.setIfInBounds_toArray, List.set_cons_zero, List.set_cons_succ]; try rfl)
              refine takeH (i := 3) (v := ?_) (a' := ?_) ({ dst := some 75, op := Op.move (Operand.tmp 7), type := 24, pos := "law.go:118", after := #[{ on := 2, ground := Ground.guard }], guard := some (2, false) }) rfl (by kernel_rfl) (by kernel_rfl) (by kernel_rfl) (fun _ _ _ h => h) (by rfl) ?_ (by assumption) ?_ ?_
              rotate_left 2
              · (intro w' hSw; obtain ⟨s0, s1, s2, s3, s4⟩ := hSw; go_simp; try with_reducible rfl)
              · (simp only [Act.put, List.setIfInBounds_toArray, List.set_cons_zero, List.set_cons_succ]; try rfl)
              refine takeH (i := 4) (v := ?_) (a' := ?_) ({ dst := some 76, op := Op.load 31 (Operand.tmp 9), type := 31, pos := "law.go:118", after := #[{ on := 2, ground := Ground.guard }], guard := some (2, false) }) rfl (by kernel_rfl) (by kernel_rfl) (by kernel_rfl) (fun _ _ _ h => h) (by rfl) ?_ (by assumption) ?_ ?_
              rotate_left 2
              · (intro w' hSw; obtain ⟨s0, s1, s2, s3, s4⟩ := hSw; go_simp; try with_reducible rfl)
              · (simp only [Act.put, List.setIfInBounds_toArray, List.set_cons_zero, List.set_cons_succ]; try rfl)
              refine takeH (i := 5) (v := ?_) (a' := ?_) ({ dst := some 77, op := Op.move (Operand.tmp 1), type := 22, pos := "law.go:118", after := #[{ on := 2, ground := Ground.guard }], guard := some (2, false) }) rfl (by kernel_rfl) (by kernel_rfl) (by kernel_rfl) (fun _ _ _ h => h) (by rfl) ?_ (by assumption) ?_ ?_
              rotate_left 2
              · (intro w' hSw; obtain ⟨s0, s1, s2, s3, s4⟩ := hSw; go_simp; try with_reducible rfl)
              · (simp only [Act.put, List.setIfInBounds_toArray, List.set_cons_zero, List.set_cons_succ]; try rfl)
              refine takeH (i := 6) (v := ?_) (a' := ?_) ({ dst := some 78, op := Op.move (Operand.tmp 10), type := 3, pos := "law.go:118", after := #[{ on := 2, ground := Ground.guard }], guard := some (2, false) }) rfl (by kernel_rfl) (by kernel_rfl) (by kernel_rfl) (fun _ _ _ h => h) (by rfl) ?_ (by assumption) ?_ ?_
              rotate_left 2
              · (intro w' hSw; obtain ⟨s0, s1, s2, s3, s4⟩ := hSw; go_simp; try with_reducible rfl)
              · (simp only [Act.put, List.setIfInBounds_toArray, List.set_cons_zero, List.set_cons_succ]; try rfl)
              refine takeH (i := 7) (v := ?_) (a' := ?_) ({ dst := some 79, op := Op.indexAddr 22 (Operand.tmp 77) (Operand.tmp 78), type := 0, pos := "law.go:118", after := #[{ on := 5, ground := Ground.data }, { on := 6, ground := Ground.data }, { on := 2, ground := Ground.guard }], guard := some (2, false) }) rfl (by kernel_rfl) (by kernel_rfl) (by kernel_rfl) (fun _ _ _ h => h) (by rfl) ?_ (by assumption) ?_ ?_
              rotate_left 2
              · (intro w' hSw; obtain ⟨s0, s1, s2, s3, s4⟩ := hSw; go_simp; try with_reducible rfl)
              · (simp only [Act.put, List.setIfInBounds_toArray, List.set_cons_zero, List.set_cons_succ]; try rfl)
              refine takeH (i := 8) (v := ?_) (a' := ?_) ({ dst := some 80, op := Op.fieldAddr 37 (Operand.tmp 79) 2, type := 0, pos := "law.go:118", after := #[{ on := 7, ground := Ground.data }, { on := 2, ground := Ground.guard }], guard := some (2, false) }) rfl (by kernel_rfl) (by kernel_rfl) (by kernel_rfl) (fun _ _ _ h => h) (by rfl) ?_ (by assumption) ?_ ?_
              rotate_left 2
              · (intro w' hSw; obtain ⟨s0, s1, s2, s3, s4⟩ := hSw; go_simp; try with_reducible rfl)
              · (simp only [Act.put, List.setIfInBounds_toArray, List.set_cons_zero, List.set_cons_succ]; try rfl)
              refine takeH (i := 9) (v := ?_) (a' := ?_) ({ dst := some 81, op := Op.indexAddr 35 (Operand.tmp 80) (Operand.const (Value.int IntKind.i64 1)), type := 0, pos := "law.go:118", after := #[{ on := 8, ground := Ground.data }, { on := 2, ground := Ground.guard }], guard := some (2, false) }) rfl (by kernel_rfl) (by kernel_rfl) (by kernel_rfl) (fun _ _ _ h => h) (by rfl) ?_ (by assumption) ?_ ?_
              rotate_left 2
              · (intro w' hSw; obtain ⟨s0, s1, s2, s3, s4⟩ := hSw; go_simp; try with_reducible rfl)
              · (simp only [Act.put, List.setIfInBounds_toArray, List.set_cons_zero, List.set_cons_succ]; try rfl)
              refine takeH (i := 10) (v := ?_) (a' := ?_) ({ dst := some 82, op := Op.load 3 (Operand.tmp 81), type := 3, pos := "law.go:118", after := #[{ on := 9, ground := Ground.data }, { on := 2, ground := Ground.guard }], guard := some (2, false) }) rfl (by kernel_rfl) (by kernel_rfl) (by kernel_rfl) (fun _ _ _ h => h) (by rfl) ?_ (by assumption) ?_ ?_
              rotate_left 2
              · (intro w' hSw; obtain ⟨s0, s1, s2, s3, s4⟩ := hSw; go_simp; try with_reducible rfl)
              · (simp only [Act.put, List.setIfInBounds_toArray, List.set_cons_zero, List.set_cons_succ]; try rfl)
              refine takeH (i := 11) (v := ?_) (a' := ?_) ({ dst := some 83, op := Op.move (Operand.tmp 1), type := 22, pos := "law.go:118", after := #[{ on := 2, ground := Ground.guard }], guard := some (2, false) }) rfl (by kernel_rfl) (by kernel_rfl) (by kernel_rfl) (fun _ _ _ h => h) (by rfl) ?_ (by assumption) ?_ ?_
              rotate_left 2
              · (intro w' hSw; obtain ⟨s0, s1, s2, s3, s4⟩ := hSw; go_simp; try with_reducible rfl)
              · (simp only [Act.put, List.setIfInBounds_toArray, List.set_cons_zero, List.set_cons_succ]; try rfl)
              refine takeH (i := 12) (v := ?_) (a' := ?_) ({ dst := some 84, op := Op.move (Operand.tmp 10), type := 3, pos := "law.go:118", after := #[{ on := 2, ground := Ground.guard }], guard := some (2, false) }) rfl (by kernel_rfl) (by kernel_rfl) (by kernel_rfl) (fun _ _ _ h => h) (by rfl) ?_ (by assumption) ?_ ?_
              rotate_left 2
              · (intro w' hSw; obtain ⟨s0, s1, s2, s3, s4⟩ := hSw; go_simp; try with_reducible rfl)
              · (simp only [Act.put, List.setIfInBounds_toArray, List.set_cons_zero, List.set_cons_succ]; try rfl)
              refine takeH (i := 13) (v := ?_) (a' := ?_) ({ dst := some 85, op := Op.indexAddr 22 (Operand.tmp 83) (Operand.tmp 84), type := 0, pos := "law.go:118", after := #[{ on := 11, ground := Ground.data }, { on := 12, ground := Ground.data }, { on := 2, ground := Ground.guard }], guard := some (2, false) }) rfl (by kernel_rfl) (by kernel_rfl) (by kernel_rfl) (fun _ _ _ h => h) (by rfl) ?_ (by assumption) ?_ ?_
              rotate_left 2
              · (intro w' hSw; obtain ⟨s0, s1, s2, s3, s4⟩ := hSw; go_simp; try with_reducible rfl)
              · (simp only [Act.put, List.setIfInBounds_toArray, List.set_cons_zero, List.set_cons_succ]; try rfl)
              refine takeH (i := 14) (v := ?_) (a' := ?_) ({ dst := some 86, op := Op.fieldAddr 37 (Operand.tmp 85) 3, type := 0, pos := "law.go:118", after := #[{ on := 13, ground := Ground.data }, { on := 2, ground := Ground.guard }], guard := some (2, false) }) rfl (by kernel_rfl) (by kernel_rfl) (by kernel_rfl) (fun _ _ _ h => h) (by rfl) ?_ (by assumption) ?_ ?_
              rotate_left 2
              · (intro w' hSw; obtain ⟨s0, s1, s2, s3, s4⟩ := hSw; go_simp; try with_reducible rfl)
              · (simp only [Act.put, List.setIfInBounds_toArray, List.set_cons_zero, List.set_cons_succ]; try rfl)
              refine takeH (i := 15) (v := ?_) (a' := ?_) ({ dst := some 87, op := Op.indexAddr 35 (Operand.tmp 86) (Operand.const (Value.int IntKind.i64 0)), type := 0, pos := "law.go:118", after := #[{ on := 14, ground := Ground.data }, { on := 2, ground := Ground.guard }], guard := some (2, false) }) rfl (by kernel_rfl) (by kernel_rfl) (by kernel_rfl) (fun _ _ _ h => h) (by rfl) ?_ (by assumption) ?_ ?_
              rotate_left 2
              · (intro w' hSw; obtain ⟨s0, s1, s2, s3, s4⟩ := hSw; go_simp; try with_reducible rfl)
              · (simp only [Act.put, List.setIfInBounds_toArray, List.set_cons_zero, List.set_cons_succ]; try rfl)
              refine takeH (i := 16) (v := ?_) (a' := ?_) ({ dst := some 88, op := Op.load 3 (Operand.tmp 87), type := 3, pos := "law.go:118", after := #[{ on := 15, ground := Ground.data }, { on := 2, ground := Ground.guard }], guard := some (2, false) }) rfl (by kernel_rfl) (by kernel_rfl) (by kernel_rfl) (fun _ _ _ h => h) (by rfl) ?_ (by assumption) ?_ ?_
              rotate_left 2
              · (intro w' hSw; obtain ⟨s0, s1, s2, s3, s4⟩ := hSw; go_simp; try with_reducible rfl)
              · (simp only [Act.put, List.setIfInBounds_toArray, List.set_cons_zero, List.set_cons_succ]; try rfl)
              refine wpAnyH_ready (rs := [17]) (by kernel_rfl) (by simp) ?_
              refine AllReadyH.cons (o := { dst := some 89, op := Op.call { callee := Callee.value (Operand.func 13), args := #[Operand.tmp 75, Operand.tmp 76, Operand.tmp 82, Operand.tmp 88], argTypes := #[24, 31, 3, 3] }, type := 4, pos := "law.go:118", after := #[{ on := 3, ground := Ground.data }, { on := 4, ground := Ground.data }, { on := 10, ground := Ground.data }, { on := 16, ground := Ground.data }, { on := 2, ground := Ground.chain }, { on := 2, ground := Ground.guard }], guard := some (2, false) }) rfl (fun K hK => ?_) AllReadyH.nil
              go_simp
              refine (hto.out _ _ _ hcb.out.drew).mono ?_
              rintro x w7 ⟨rfl, bq⟩
              have b7 : Hid (Below wd.heap.size wd w7) := hcb.out.drew.trans (bq.mono hcb.out.size)
              obtain ⟨u0, u1, v0, v1, v2, v3, v4, v5⟩ := E1.out w7 b7.out
              clear bq
              try go_wp2_with fail
              refine hK.out _ _ ⟨u0, u1, v1, v3, v4⟩ (fun hHeld => ?_)
              clear hK K
              try simp only [Act.put, List.setIfInBounds_toArray, List.set_cons_zero, List.set_cons_succ]
              refine takeH (i := 18) (v := .bool false) (a' := ?_) ({ dst := some 90, op := Op.unOp UnOp.not 4 (Operand.tmp 89), type := 4, pos := "law.go:118", after := #[{ on := 17, ground := Ground.data }, { on := 2, ground := Ground.guard }], guard := some (2, false) }) rfl (by kernel_rfl) (by kernel_rfl) (by kernel_rfl) (fun _ _ _ h => h) (by rfl) ?_ (by assumption) ?_ ?_
              rotate_left 1
              · (intro w' hSw; obtain ⟨s0, s1, s2, s3, s4⟩ := hSw; go_simp; try rfl)
              · (simp only [Act.put, List.setIfInBounds_toArray, List.set_cons_zero, List.set_cons_succ]; try rfl)
              refine takeH (i := 19) (v := .bool false) (a' := ?_) ({ dst := some 91, op := Op.pick (Operand.tmp 74) (Operand.const (Value.bool true)) (Operand.tmp 90), type := 4, pos := "law.go:118", after := #[{ on := 2, ground := Ground.data }, { on := 18, ground := Ground.data }], guard := none }) rfl (by kernel_rfl) (by kernel_rfl) (by kernel_rfl) (fun _ _ _ h => h) (by rfl) ?_ (by assumption) ?_ ?_
              rotate_left 1
              · (intro w' hSw; obtain ⟨s0, s1, s2, s3, s4⟩ := hSw; go_simp; try rfl)
              · (simp only [Act.put, List.setIfInBounds_toArray, List.set_cons_zero, List.set_cons_succ]; try rfl)
              refine takeH (i := 20) (v := ?_) (a' := ?_) ({ dst := some 92, op := Op.move (Operand.tmp 91), type := 4, pos := "law.go:118", after := #[{ on := 19, ground := Ground.data }, { on := 17, ground := Ground.chain }], guard := none }) rfl (by kernel_rfl) (by kernel_rfl) (by kernel_rfl) (fun _ _ _ h => h) (by rfl) ?_ (by assumption) ?_ ?_
              rotate_left 2
              · (intro w' hSw; obtain ⟨s0, s1, s2, s3, s4⟩ := hSw; go_simp; try with_reducible rfl)
              · (simp only [Act.put, List.setIfInBounds_toArray, List.set_cons_zero, List.set_cons_succ]; try rfl)
              refine takeH (i := 21) (v := ?_) (a' := ?_) ({ dst := some 93, op := Op.move (Operand.tmp 1), type := 22, pos := "law.go:118", after := #[{ on := 20, ground := Ground.guard }], guard := some (20, false) }) rfl (by kernel_rfl) (by kernel_rfl) (by kernel_rfl) (fun _ _ _ h => h) (by rfl) ?_ (by assumption) ?_ ?_
              rotate_left 2
              · (intro w' hSw; obtain ⟨s0, s1, s2, s3, s4⟩ := hSw; go_simp; try with_reducible rfl)
              · (simp only [Act.put, List.setIfInBounds_toArray, List.set_cons_zero, List.set_cons_succ]; try rfl)
              refine takeH (i := 22) (v := ?_) (a' := ?_) ({ dst := some 94, op := Op.move (Operand.tmp 10), type := 3, pos := "law.go:118", after := #[{ on := 20, ground := Ground.guard }], guard := some (20, false) }) rfl (by kernel_rfl) (by kernel_rfl) (by kernel_rfl) (fun _ _ _ h => h) (by rfl) ?_ (by assumption) ?_ ?_
              rotate_left 2
              · (intro w' hSw; obtain ⟨s0, s1, s2, s3, s4⟩ := hSw; go_simp; try with_reducible rfl)
              · (simp only [Act.put, List.setIfInBounds_toArray, List.set_cons_zero, List.set_cons_succ]; try rfl)
              refine takeH (i := 23) (v := ?_) (a' := ?_) ({ dst := some 95, op := Op.indexAddr 22 (Operand.tmp 93) (Operand.tmp 94), type := 0, pos := "law.go:118", after := #[{ on := 21, ground := Ground.data }, { on := 22, ground := Ground.data }, { on := 20, ground := Ground.guard }], guard := some (20, false) }) rfl (by kernel_rfl) (by kernel_rfl) (by kernel_rfl) (fun _ _ _ h => h) (by rfl) ?_ (by assumption) ?_ ?_
              rotate_left 2
              · (intro w' hSw; obtain ⟨s0, s1, s2, s3, s4⟩ := hSw; go_simp; try with_reducible rfl)
              · (simp only [Act.put, List.setIfInBounds_toArray, List.set_cons_zero, List.set_cons_succ]; try rfl)
              refine takeH (i := 24) (v := ?_) (a' := ?_) ({ dst := some 96, op := Op.fieldAddr 37 (Operand.tmp 95) 1, type := 0, pos := "law.go:118", after := #[{ on := 23, ground := Ground.data }, { on := 20, ground := Ground.guard }], guard := some (20, false) }) rfl (by kernel_rfl) (by kernel_rfl) (by kernel_rfl) (fun _ _ _ h => h) (by rfl) ?_ (by assumption) ?_ ?_
              rotate_left 2
              · (intro w' hSw; obtain ⟨s0, s1, s2, s3, s4⟩ := hSw; go_simp; try with_reducible rfl)
              · (simp only [Act.put, List.setIfInBounds_toArray, List.set_cons_zero, List.set_cons_succ]; try rfl)
              refine takeH (i := 25) (v := ?_) (a' := ?_) ({ dst := some 97, op := Op.load 3 (Operand.tmp 96), type := 3, pos := "law.go:118", after := #[{ on := 24, ground := Ground.data }, { on := 20, ground := Ground.guard }], guard := some (20, false) }) rfl (by kernel_rfl) (by kernel_rfl) (by kernel_rfl) (fun _ _ _ h => h) (by rfl) ?_ (by assumption) ?_ ?_
              rotate_left 2
              · (intro w' hSw; obtain ⟨s0, s1, s2, s3, s4⟩ := hSw; go_simp; try with_reducible rfl)
              · (simp only [Act.put, List.setIfInBounds_toArray, List.set_cons_zero, List.set_cons_succ]; try rfl)
              refine takeH (i := 26) (v := .bool true) (a' := ?_) ({ dst := some 98, op := Op.binOp BinOp.geq 3 (Operand.tmp 97) (Operand.const (Value.int IntKind.i64 0)) 3, type := 4, pos := "law.go:118", after := #[{ on := 25, ground := Ground.data }, { on := 20, ground := Ground.guard }], guard := some (20, false) }) rfl (by kernel_rfl) (by kernel_rfl) (by kernel_rfl) (fun _ _ _ h => h) (by rfl) ?_ (by assumption) ?_ ?_
              rotate_left 1
              · (intro w' hSw; obtain ⟨s0, s1, s2, s3, s4⟩ := hSw; go_simp; first | done | rfl | simp [d1])
              · (simp only [Act.put, List.setIfInBounds_toArray, List.set_cons_zero, List.set_cons_succ]; try rfl)
              refine takeH (i := 27) (v := ?_) (a' := ?_) ({ dst := some 99, op := Op.move (Operand.tmp 98), type := 4, pos := "law.go:118", after := #[{ on := 26, ground := Ground.data }, { on := 20, ground := Ground.chain }, { on := 20, ground := Ground.guard }], guard := some (20, false) }) rfl (by kernel_rfl) (by kernel_rfl) (by kernel_rfl) (fun _ _ _ h => h) (by rfl) ?_ (by assumption) ?_ ?_
              rotate_left 2
              · (intro w' hSw; obtain ⟨s0, s1, s2, s3, s4⟩ := hSw; go_simp; try with_reducible rfl)
              · (simp only [Act.put, List.setIfInBounds_toArray, List.set_cons_zero, List.set_cons_succ]; try rfl)
              refine takeH (i := 28) (v := ?_) (a' := ?_) ({ dst := some 100, op := Op.move (Operand.tmp 1), type := 22, pos := "law.go:118", after := #[{ on := 27, ground := Ground.guard }], guard := some (27, true) }) rfl (by kernel_rfl) (by kernel_rfl) (by kernel_rfl) (fun _ _ _ h => h) (by rfl) ?_ (by assumption) ?_ ?_
              rotate_left 2
              · (intro w' hSw; obtain ⟨s0, s1, s2, s3, s4⟩ := hSw; go_simp; try with_reducible rfl)
              · (simp only [Act.put, List.setIfInBounds_toArray, List.set_cons_zero, List.set_cons_succ]; try rfl)
              refine takeH (i := 29) (v := ?_) (a' := ?_) ({ dst := some 101, op := Op.move (Operand.tmp 10), type := 3, pos := "law.go:118", after := #[{ on := 27, ground := Ground.guard }], guard := some (27, true) }) rfl (by kernel_rfl) (by kernel_rfl) (by kernel_rfl) (fun _ _ _ h => h) (by rfl) ?_ (by assumption) ?_ ?_
              rotate_left 2
              · (intro w' hSw; obtain ⟨s0, s1, s2, s3, s4⟩ := hSw; go_simp; try with_reducible rfl)
              · (simp only [Act.put, List.setIfInBounds_toArray, List.set_cons_zero, List.set_cons_succ]; try rfl)
              refine takeH (i := 30) (v := ?_) (a' := ?_) ({ dst := some 102, op := Op.indexAddr 22 (Operand.tmp 100) (Operand.tmp 101), type := 0, pos := "law.go:118", after := #[{ on := 28, ground := Ground.data }, { on := 29, ground := Ground.data }, { on := 27, ground := Ground.guard }], guard := some (27, true) }) rfl (by kernel_rfl) (by kernel_rfl) (by kernel_rfl) (fun _ _ _ h => h) (by rfl) ?_ (by assumption) ?_ ?_
              rotate_left 2
              · (intro w' hSw; obtain ⟨s0, s1, s2, s3, s4⟩ := hSw; go_simp; try with_reducible rfl)
              · (simp only [Act.put, List.setIfInBounds_toArray, List.set_cons_zero, List.set_cons_succ]; try rfl)
              refine takeH (i := 31) (v := ?_) (a' := ?_) ({ dst := some 103, op := Op.fieldAddr 37 (Operand.tmp 102) 1, type := 0, pos := "law.go:118", after := #[{ on := 30, ground := Ground.data }, { on := 27, ground := Ground.guard }], guard := some (27, true) }) rfl (by kernel_rfl) (by kernel_rfl) (by kernel_rfl) (fun _ _ _ h => h) (by rfl) ?_ (by assumption) ?_ ?_
              rotate_left 2
              · (intro w' hSw; obtain ⟨s0, s1, s2, s3, s4⟩ := hSw; go_simp; try with_reducible rfl)
              · (simp only [Act.put, List.setIfInBounds_toArray, List.set_cons_zero, List.set_cons_succ]; try rfl)
              refine takeH (i := 32) (v := ?_) (a' := ?_) ({ dst := some 104, op := Op.load 3 (Operand.tmp 103), type := 3, pos := "law.go:118", after := #[{ on := 31, ground := Ground.data }, { on := 27, ground := Ground.guard }], guard := some (27, true) }) rfl (by kernel_rfl) (by kernel_rfl) (by kernel_rfl) (fun _ _ _ h => h) (by rfl) ?_ (by assumption) ?_ ?_
              rotate_left 2
              · (intro w' hSw; obtain ⟨s0, s1, s2, s3, s4⟩ := hSw; go_simp; try with_reducible rfl)
              · (simp only [Act.put, List.setIfInBounds_toArray, List.set_cons_zero, List.set_cons_succ]; try rfl)
              refine takeH (i := 33) (v := ?_) (a' := ?_) ({ dst := some 105, op := Op.move (Operand.tmp 6), type := 3, pos := "law.go:118", after := #[{ on := 27, ground := Ground.guard }], guard := some (27, true) }) rfl (by kernel_rfl) (by kernel_rfl) (by kernel_rfl) (fun _ _ _ h => h) (by rfl) ?_ (by assumption) ?_ ?_
              rotate_left 2
              · (intro w' hSw; obtain ⟨s0, s1, s2, s3, s4⟩ := hSw; go_simp; try with_reducible rfl)
              · (simp only [Act.put, List.setIfInBounds_toArray, List.set_cons_zero, List.set_cons_succ]; try rfl)
              refine takeH (i := 34) (v := .bool true) (a' := ?_) ({ dst := some 106, op := Op.binOp BinOp.lss 3 (Operand.tmp 104) (Operand.tmp 105) 3, type := 4, pos := "law.go:118", after := #[{ on := 32, ground := Ground.data }, { on := 33, ground := Ground.data }, { on := 27, ground := Ground.guard }], guard := some (27, true) }) rfl (by kernel_rfl) (by kernel_rfl) (by kernel_rfl) (fun _ _ _ h => h) (by rfl) ?_ (by assumption) ?_ ?_
              rotate_left 1
              · (intro w' hSw; obtain ⟨s0, s1, s2, s3, s4⟩ := hSw; go_simp; first | done | rfl | simp [d2])
              · (simp only [Act.put, List.setIfInBounds_toArray, List.set_cons_zero, List.set_cons_succ]; try rfl)
              refine takeH (i := 35) (v := .bool true) (a' := ?_) ({ dst := some 107, op := Op.pick (Operand.tmp 99) (Operand.tmp 106) (Operand.const (Value.bool false)), type := 4, pos := "law.go:118", after := #[{ on := 27, ground := Ground.data }, { on := 34, ground := Ground.data }, { on := 20, ground := Ground.guard }], guard := some (20, false) }) rfl (by kernel_rfl) (by kernel_rfl) (by kernel_rfl) (fun _ _ _ h => h) (by rfl) ?_ (by assumption) ?_ ?_
              rotate_left 1
              · (intro w' hSw; obtain ⟨s0, s1, s2, s3, s4⟩ := hSw; go_simp; try rfl)
              · (simp only [Act.put, List.setIfInBounds_toArray, List.set_cons_zero, List.set_cons_succ]; try rfl)
              refine takeH (i := 36) (v := ?_) (a' := ?_) ({ dst := some 108, op := Op.move (Operand.tmp 107), type := 4, pos := "law.go:118", after := #[{ on := 35, ground := Ground.data }, { on := 27, ground := Ground.chain }, { on := 20, ground := Ground.guard }], guard := some (20, false) }) rfl (by kernel_rfl) (by kernel_rfl) (by kernel_rfl) (fun _ _ _ h => h) (by rfl) ?_ (by assumption) ?_ ?_
              rotate_left 2
              · (intro w' hSw; obtain ⟨s0, s1, s2, s3, s4⟩ := hSw; go_simp; try with_reducible rfl)
              · (simp only [Act.put, List.setIfInBounds_toArray, List.set_cons_zero, List.set_cons_succ]; try rfl)
              refine takeH (i := 37) (v := ?_) (a' := ?_) ({ dst := some 109, op := Op.move (Operand.tmp 7), type := 24, pos := "law.go:118", after := #[{ on := 36, ground := Ground.guard }], guard := some (36, true) }) rfl (by kernel_rfl) (by kernel_rfl) (by kernel_rfl) (fun _ _ _ h => h) (by rfl) ?_ (by assumption) ?_ ?_
              rotate_left 2
              · (intro w' hSw; obtain ⟨s0, s1, s2, s3, s4⟩ := hSw; go_simp; try with_reducible rfl)
              · (simp only [Act.put, List.setIfInBounds_toArray, List.set_cons_zero, List.set_cons_succ]; try rfl)
              refine takeH (i := 38) (v := ?_) (a' := ?_) ({ dst := some 110, op := Op.move (Operand.tmp 1), type := 22, pos := "law.go:118", after := #[{ on := 36, ground := Ground.guard }], guard := some (36, true) }) rfl (by kernel_rfl) (by kernel_rfl) (by kernel_rfl) (fun _ _ _ h => h) (by rfl) ?_ (by assumption) ?_ ?_
              rotate_left 2
              · (intro w' hSw; obtain ⟨s0, s1, s2, s3, s4⟩ := hSw; go_simp; try with_reducible rfl)
              · (simp only [Act.put, List.setIfInBounds_toArray, List.set_cons_zero, List.set_cons_succ]; try rfl)
              refine takeH (i := 39) (v := ?_) (a' := ?_) ({ dst := some 111, op := Op.move (Operand.tmp 10), type := 3, pos := "law.go:118", after := #[{ on := 36, ground := Ground.guard }], guard := some (36, true) }) rfl (by kernel_rfl) (by kernel_rfl) (by kernel_rfl) (fun _ _ _ h => h) (by rfl) ?_ (by assumption) ?_ ?_
              rotate_left 2
              · (intro w' hSw; obtain ⟨s0, s1, s2, s3, s4⟩ := hSw; go_simp; try with_reducible rfl)
              · (simp only [Act.put, List.setIfInBounds_toArray, List.set_cons_zero, List.set_cons_succ]; try rfl)
              refine takeH (i := 40) (v := ?_) (a' := ?_) ({ dst := some 112, op := Op.indexAddr 22 (Operand.tmp 110) (Operand.tmp 111), type := 0, pos := "law.go:118", after := #[{ on := 38, ground := Ground.data }, { on := 39, ground := Ground.data }, { on := 36, ground := Ground.guard }], guard := some (36, true) }) rfl (by kernel_rfl) (by kernel_rfl) (by kernel_rfl) (fun _ _ _ h => h) (by rfl) ?_ (by assumption) ?_ ?_
              rotate_left 2
              · (intro w' hSw; obtain ⟨s0, s1, s2, s3, s4⟩ := hSw; go_simp; try with_reducible rfl)
              · (simp only [Act.put, List.setIfInBounds_toArray, List.set_cons_zero, List.set_cons_succ]; try rfl)
              refine takeH (i := 41) (v := ?_) (a' := ?_) ({ dst := some 113, op := Op.fieldAddr 37 (Operand.tmp 112) 1, type := 0, pos := "law.go:118", after := #[{ on := 40, ground := Ground.data }, { on := 36, ground := Ground.guard }], guard := some (36, true) }) rfl (by kernel_rfl) (by kernel_rfl) (by kernel_rfl) (fun _ _ _ h => h) (by rfl) ?_ (by assumption) ?_ ?_
              rotate_left 2
              · (intro w' hSw; obtain ⟨s0, s1, s2, s3, s4⟩ := hSw; go_simp; try with_reducible rfl)
              · (simp only [Act.put, List.setIfInBounds_toArray, List.set_cons_zero, List.set_cons_succ]; try rfl)
              refine takeH (i := 42) (v := ?_) (a' := ?_) ({ dst := some 114, op := Op.load 3 (Operand.tmp 113), type := 3, pos := "law.go:118", after := #[{ on := 41, ground := Ground.data }, { on := 36, ground := Ground.guard }], guard := some (36, true) }) rfl (by kernel_rfl) (by kernel_rfl) (by kernel_rfl) (fun _ _ _ h => h) (by rfl) ?_ (by assumption) ?_ ?_
              rotate_left 2
              · (intro w' hSw; obtain ⟨s0, s1, s2, s3, s4⟩ := hSw; go_simp; try with_reducible rfl)
              · (simp only [Act.put, List.setIfInBounds_toArray, List.set_cons_zero, List.set_cons_succ]; try rfl)
              refine takeH (i := 44) (v := ?_) (a' := ?_) ({ dst := some 116, op := Op.move (Operand.tmp 13), type := 3, pos := "law.go:118", after := #[{ on := 36, ground := Ground.guard }], guard := some (36, true) }) rfl (by kernel_rfl) (by kernel_rfl) (by kernel_rfl) (fun _ _ _ h => h) (by rfl) ?_ (by assumption) ?_ ?_
              rotate_left 2
              · (intro w' hSw; obtain ⟨s0, s1, s2, s3, s4⟩ := hSw; go_simp; try with_reducible rfl)
              · (simp only [Act.put, List.setIfInBounds_toArray, List.set_cons_zero, List.set_cons_succ]; try rfl)
              refine takeH (i := 45) (v := .bool bb) (a' := ?_) ({ dst := some 117, op := Op.binOp BinOp.geq 3 (Operand.tmp 116) (Operand.const (Value.int IntKind.i64 0)) 3, type := 4, pos := "law.go:118", after := #[{ on := 44, ground := Ground.data }, { on := 36, ground := Ground.guard }], guard := some (36, true) }) rfl (by kernel_rfl) (by kernel_rfl) (by kernel_rfl) (fun _ _ _ h => h) (by rfl) ?_ (by assumption) ?_ ?_
              rotate_left 1
              · (intro w' hSw; obtain ⟨s0, s1, s2, s3, s4⟩ := hSw; go_simp; first | done | rfl | simp [d3])
              · (simp only [Act.put, List.setIfInBounds_toArray, List.set_cons_zero, List.set_cons_succ]; try rfl)
              refine wpAnyH_ready (rs := [43]) (by kernel_rfl) (by simp) ?_
              refine AllReadyH.cons (o := { dst := some 115, op := Op.call { callee := Callee.value (Operand.func 14), args := #[Operand.tmp 109, Operand.tmp 114], argTypes := #[24, 3] }, type := 4, pos := "law.go:118", after := #[{ on := 37, ground := Ground.data }, { on := 42, ground := Ground.data }, { on := 36, ground := Ground.chain }, { on := 36, ground := Ground.guard }], guard := some (36, true) }) rfl (fun K hK => ?_) AllReadyH.nil
              go_simp
              refine (hhb.out _ b7.out).mono ?_
              rintro x w8 ⟨rfl, bq⟩
              have b8 : Hid (Below wd.heap.size wd w8) := b7.out.trans (bq.mono b7.out.size)
              obtain ⟨y0, y1, z0, z1, z2, z3, z4, z5⟩ := E1.out w8 b8.out
              clear bq
              try go_wp2_with fail
              refine hK.out _ _ ⟨y0, y1, z1, z3, z4⟩ (fun hHeld => ?_)
              clear hK K
              try simp only [Act.put, List.setIfInBounds_toArray, List.set_cons_zero, List.set_cons_succ]
              refine takeH (i := 46) (v := .bool false) (a' := ?_) ({ dst := some 118, op := Op.binOp BinOp.neq 4 (Operand.tmp 115) (Operand.tmp 117) 4, type := 4, pos := "law.go:118", after := #[{ on := 43, ground := Ground.data }, { on := 45, ground := Ground.data }, { on := 36, ground := Ground.guard }], guard := some (36, true) }) rfl (by kernel_rfl) (by kernel_rfl) (by kernel_rfl) (fun _ _ _ h => h) (by rfl) ?_ (by assumption) ?_ ?_
              rotate_left 1
              · (intro w' hSw; obtain ⟨s0, s1, s2, s3, s4⟩ := hSw; go_simp; first | done | rfl | simp)
              · (simp only [Act.put, List.setIfInBounds_toArray, List.set_cons_zero, List.set_cons_succ]; try rfl)
              refine takeH (i := 47) (v := .bool false) (a' := ?_) ({ dst := some 119, op := Op.pick (Operand.tmp 108) (Operand.tmp 118) (Operand.const (Value.bool false)), type := 4, pos := "law.go:118", after := #[{ on := 36, ground := Ground.data }, { on := 46, ground := Ground.data }, { on := 20, ground := Ground.guard }], guard := some (20, false) }) rfl (by kernel_rfl) (by kernel_rfl) (by kernel_rfl) (fun _ _ _ h => h) (by rfl) ?_ (by assumption) ?_ ?_
              rotate_left 1
              · (intro w' hSw; obtain ⟨s0, s1, s2, s3, s4⟩ := hSw; go_simp; try rfl)
              · (simp only [Act.put, List.setIfInBounds_toArray, List.set_cons_zero, List.set_cons_succ]; try rfl)
              refine takeH (i := 48) (v := .bool false) (a' := ?_) ({ dst := some 120, op := Op.pick (Operand.tmp 92) (Operand.const (Value.bool true)) (Operand.tmp 119), type := 4, pos := "law.go:118", after := #[{ on := 20, ground := Ground.data }, { on := 47, ground := Ground.data }], guard := none }) rfl (by kernel_rfl) (by kernel_rfl) (by kernel_rfl) (fun _ _ _ h => h) (by rfl) ?_ (by assumption) ?_ ?_
              rotate_left 1
              · (intro w' hSw; obtain ⟨s0, s1, s2, s3, s4⟩ := hSw; go_simp; try rfl)
              · (simp only [Act.put, List.setIfInBounds_toArray, List.set_cons_zero, List.set_cons_succ]; try rfl)
              refine wpAnyH_done (by kernel_rfl) ?_ _
              refine NoPanic.normal ?_
              go_wp2_with fail
              go_meet
              case rel => exact ⟨rfl, b8.out⟩
            · rcases Int.lt_or_le qe 0 with hq1 | hq1
              · have d1 : decide (qe ≥ 0) = false := decide_eq_false (by omega)
                have d1' : decide (0 ≤ qe) = false := decide_eq_false (by omega)
                clear hcr hha hA
                refine wp_region_noPanic ?_
                refine wp_region_held_drew (S := fun y => y.cell? ⟨w2.heap.size, 0, none⟩ = some (.int .i64 8) ∧ y.cell? ⟨w2.heap.size, 1, none⟩ = some (.slice ad2 V cap2) ∧ y.cell? ⟨b0, o0 + j * 6 + 1, none⟩ = some (.int .i64 qe) ∧ y.cell? ⟨b0, o0 + j * 6 + 3, none⟩ = some (.int .i64 qa1) ∧ y.cell? ⟨b0, o0 + j * 6 + 4, none⟩ = some (.int .i64 qb0)) (by kernel_rfl) ⟨x0, x1, f1, f3, f4⟩ (fun hHeld => ?_)
                refine takeH (i := 0) (v := ?_) (a' := ?_) ({ dst := some 72, op := Op.move (Operand.tmp 12), type := 4, pos := "law.go:118", after := #[], guard := none }) rfl (by kernel_rfl) (by kernel_rfl) (by kernel_rfl) (fun _ _ _ h => h) (by rfl) ?_ (by assumption) ?_ ?_
                rotate_left 2
                · (intro w' hSw; obtain ⟨s0, s1, s2, s3, s4⟩ := hSw; go_simp; try with_reducible rfl)
                · (simp only [Act.put, List.setIfInBounds_toArray, List.set_cons_zero, List.set_cons_succ]; try rfl)
                refine takeH (i := 1) (v := .bool false) (a' := ?_) ({ dst := some 73, op := Op.unOp UnOp.not 4 (Operand.tmp 72), type := 4, pos := "law.go:118", after := #[{ on := 0, ground := Ground.data }], guard := none }) rfl (by kernel_rfl) (by kernel_rfl) (by kernel_rfl) (fun _ _ _ h => h) (by rfl) ?_ (by assumption) ?_ ?_
                rotate_left 1
                · (intro w' hSw; obtain ⟨s0, s1, s2, s3, s4⟩ := hSw; go_simp; try rfl)
                · (simp only [Act.put, List.setIfInBounds_toArray, List.set_cons_zero, List.set_cons_succ]; try rfl)
                refine takeH (i := 2) (v := ?_) (a' := ?_) ({ dst := some 74, op := Op.move (Operand.tmp 73), type := 4, pos := "law.go:118", after := #[{ on := 1, ground := Ground.data }], guard := none }) rfl (by kernel_rfl) (by kernel_rfl) (by kernel_rfl) (fun _ _ _ h => h) (by rfl) ?_ (by assumption) ?_ ?_
                rotate_left 2
                · (intro w' hSw; obtain ⟨s0, s1, s2, s3, s4⟩ := hSw; go_simp; try with_reducible rfl)
                · (simp only [Act.put, List.setIfInBounds_toArray, List.set_cons_zero, List.set_cons_succ]; try rfl)
                refine takeH (i := 3) (v := ?_) (a' := ?_) ({ dst := some 75, op := Op.move (Operand.tmp 7), type := 24, pos := "law.go:118", after := #[{ on := 2, ground := Ground.guard }], guard := some (2, false) }) rfl (by kernel_rfl) (by kernel_rfl) (by kernel_rfl) (fun _ _ _ h => h) (by rfl) ?_ (by assumption) ?_ ?_
                rotate_left 2
                · (intro w' hSw; obtain ⟨s0, s1, s2, s3, s4⟩ := hSw; go_simp; try with_reducible rfl)
                · (simp only [Act.put, List.setIfInBounds_toArray, List.set_cons_zero, List.set_cons_succ]; try rfl)
                refine takeH (i := 4) (v := ?_) (a' := ?_) ({ dst := some 76, op := Op.load 31 (Operand.tmp 9), type := 31, pos := "law.go:118", after := #[{ on := 2, ground := Ground.guard }], guard := some (2, false) }) rfl (by kernel_rfl) (by kernel_rfl) (by kernel_rfl) (fun _ _ _ h => h) (by rfl) ?_ (by assumption) ?_ ?_
                rotate_left 2
                · (intro w' hSw; obtain ⟨s0, s1, s2, s3, s4⟩ := hSw; go_simp; try with_reducible rfl)
                · (simp only [Act.put, List.setIfInBounds_toArray, List.set_cons_zero, List.set_cons_succ]; try rfl)
                refine takeH (i := 5) (v := ?_) (a' := ?_) ({ dst := some 77, op := Op.move (Operand.tmp 1), type := 22, pos := "law.go:118", after := #[{ on := 2, ground := Ground.guard }], guard := some (2, false) }) rfl (by kernel_rfl) (by kernel_rfl) (by kernel_rfl) (fun _ _ _ h => h) (by rfl) ?_ (by assumption) ?_ ?_
                rotate_left 2
                · (intro w' hSw; obtain ⟨s0, s1, s2, s3, s4⟩ := hSw; go_simp; try with_reducible rfl)
                · (simp only [Act.put, List.setIfInBounds_toArray, List.set_cons_zero, List.set_cons_succ]; try rfl)
                refine takeH (i := 6) (v := ?_) (a' := ?_) ({ dst := some 78, op := Op.move (Operand.tmp 10), type := 3, pos := "law.go:118", after := #[{ on := 2, ground := Ground.guard }], guard := some (2, false) }) rfl (by kernel_rfl) (by kernel_rfl) (by kernel_rfl) (fun _ _ _ h => h) (by rfl) ?_ (by assumption) ?_ ?_
                rotate_left 2
                · (intro w' hSw; obtain ⟨s0, s1, s2, s3, s4⟩ := hSw; go_simp; try with_reducible rfl)
                · (simp only [Act.put, List.setIfInBounds_toArray, List.set_cons_zero, List.set_cons_succ]; try rfl)
                refine takeH (i := 7) (v := ?_) (a' := ?_) ({ dst := some 79, op := Op.indexAddr 22 (Operand.tmp 77) (Operand.tmp 78), type := 0, pos := "law.go:118", after := #[{ on := 5, ground := Ground.data }, { on := 6, ground := Ground.data }, { on := 2, ground := Ground.guard }], guard := some (2, false) }) rfl (by kernel_rfl) (by kernel_rfl) (by kernel_rfl) (fun _ _ _ h => h) (by rfl) ?_ (by assumption) ?_ ?_
                rotate_left 2
                · (intro w' hSw; obtain ⟨s0, s1, s2, s3, s4⟩ := hSw; go_simp; try with_reducible rfl)
                · (simp only [Act.put, List.setIfInBounds_toArray, List.set_cons_zero, List.set_cons_succ]; try rfl)
                refine takeH (i := 8) (v := ?_) (a' := ?_) ({ dst := some 80, op := Op.fieldAddr 37 (Operand.tmp 79) 2, type := 0, pos := "law.go:118", after := #[{ on := 7, ground := Ground.data }, { on := 2, ground := Ground.guard }], guard := some (2, false) }) rfl (by kernel_rfl) (by kernel_rfl) (by kernel_rfl) (fun _ _ _ h => h) (by rfl) ?_ (by assumption) ?_ ?_
                rotate_left 2
                · (intro w' hSw; obtain ⟨s0, s1, s2, s3, s4⟩ := hSw; go_simp; try with_reducible rfl)
                · (simp only [Act.put, List.setIfInBounds_toArray, List.set_cons_zero, List.set_cons_succ]; try rfl)
                refine takeH (i := 9) (v := ?_) (a' := ?_) ({ dst := some 81, op := Op.indexAddr 35 (Operand.tmp 80) (Operand.const (Value.int IntKind.i64 1)), type := 0, pos := "law.go:118", after := #[{ on := 8, ground := Ground.data }, { on := 2, ground := Ground.guard }], guard := some (2, false) }) rfl (by kernel_rfl) (by kernel_rfl) (by kernel_rfl) (fun _ _ _ h => h) (by rfl) ?_ (by assumption) ?_ ?_
                rotate_left 2
                · (intro w' hSw; obtain ⟨s0, s1, s2, s3, s4⟩ := hSw; go_simp; try with_reducible rfl)
                · (simp only [Act.put, List.setIfInBounds_toArray, List.set_cons_zero, List.set_cons_succ]; try rfl)
                refine takeH (i := 10) (v := ?_) (a' := ?_) ({ dst := some 82, op := Op.load 3 (Operand.tmp 81), type := 3, pos := "law.go:118", after := #[{ on := 9, ground := Ground.data }, { on := 2, ground := Ground.guard }], guard := some (2, false) }) rfl (by kernel_rfl) (by kernel_rfl) (by kernel_rfl) (fun _ _ _ h => h) (by rfl) ?_ (by assumption) ?_ ?_
                rotate_left 2
                · (intro w' hSw; obtain ⟨s0, s1, s2, s3, s4⟩ := hSw; go_simp; try with_reducible rfl)
                · (simp only [Act.put, List.setIfInBounds_toArray, List.set_cons_zero, List.set_cons_succ]; try rfl)
                refine takeH (i := 11) (v := ?_) (a' := ?_) ({ dst := some 83, op := Op.move (Operand.tmp 1), type := 22, pos := "law.go:118", after := #[{ on := 2, ground := Ground.guard }], guard := some (2, false) }) rfl (by kernel_rfl) (by kernel_rfl) (by kernel_rfl) (fun _ _ _ h => h) (by rfl) ?_ (by assumption) ?_ ?_
                rotate_left 2
                · (intro w' hSw; obtain ⟨s0, s1, s2, s3, s4⟩ := hSw; go_simp; try with_reducible rfl)
                · (simp only [Act.put, List.setIfInBounds_toArray, List.set_cons_zero, List.set_cons_succ]; try rfl)
                refine takeH (i := 12) (v := ?_) (a' := ?_) ({ dst := some 84, op := Op.move (Operand.tmp 10), type := 3, pos := "law.go:118", after := #[{ on := 2, ground := Ground.guard }], guard := some (2, false) }) rfl (by kernel_rfl) (by kernel_rfl) (by kernel_rfl) (fun _ _ _ h => h) (by rfl) ?_ (by assumption) ?_ ?_
                rotate_left 2
                · (intro w' hSw; obtain ⟨s0, s1, s2, s3, s4⟩ := hSw; go_simp; try with_reducible rfl)
                · (simp only [Act.put, List.setIfInBounds_toArray, List.set_cons_zero, List.set_cons_succ]; try rfl)
                refine takeH (i := 13) (v := ?_) (a' := ?_) ({ dst := some 85, op := Op.indexAddr 22 (Operand.tmp 83) (Operand.tmp 84), type := 0, pos := "law.go:118", after := #[{ on := 11, ground := Ground.data }, { on := 12, ground := Ground.data }, { on := 2, ground := Ground.guard }], guard := some (2, false) }) rfl (by kernel_rfl) (by kernel_rfl) (by kernel_rfl) (fun _ _ _ h => h) (by rfl) ?_ (by assumption) ?_ ?_
                rotate_left 2
                · (intro w' hSw; obtain ⟨s0, s1, s2, s3, s4⟩ := hSw; go_simp; try with_reducible rfl)
                · (simp only [Act.put, List.setIfInBounds_toArray, List.set_cons_zero, List.set_cons_succ]; try rfl)
                refine takeH (i := 14) (v := ?_) (a' := ?_) ({ dst := some 86, op := Op.fieldAddr 37 (Operand.tmp 85) 3, type := 0, pos := "law.go:118", after := #[{ on := 13, ground := Ground.data }, { on := 2, ground := Ground.guard }], guard := some (2, false) }) rfl (by kernel_rfl) (by kernel_rfl) (by kernel_rfl) (fun _ _ _ h => h) (by rfl) ?_ (by assumption) ?_ ?_
                rotate_left 2
                · (intro w' hSw; obtain ⟨s0, s1, s2, s3, s4⟩ := hSw; go_simp; try with_reducible rfl)
                · (simp only [Act.put, List.setIfInBounds_toArray, List.set_cons_zero, List.set_cons_succ]; try rfl)
                refine takeH (i := 15) (v := ?_) (a' := ?_) ({ dst := some 87, op := Op.indexAddr 35 (Operand.tmp 86) (Operand.const (Value.int IntKind.i64 0)), type := 0, pos := "law.go:118", after := #[{ on := 14, ground := Ground.data }, { on := 2, ground := Ground.guard }], guard := some (2, false) }) rfl (by kernel_rfl) (by kernel_rfl) (by kernel_rfl) (fun _ _ _ h => h) (by rfl) ?_ (by assumption) ?_ ?_
                rotate_left 2
                · (intro w' hSw; obtain ⟨s0, s1, s2, s3, s4⟩ := hSw; go_simp; try with_reducible rfl)
                · (simp only [Act.put, List.setIfInBounds_toArray, List.set_cons_zero, List.set_cons_succ]; try rfl)
                refine takeH (i := 16) (v := ?_) (a' := ?_) ({ dst := some 88, op := Op.load 3 (Operand.tmp 87), type := 3, pos := "law.go:118", after := #[{ on := 15, ground := Ground.data }, { on := 2, ground := Ground.guard }], guard := some (2, false) }) rfl (by kernel_rfl) (by kernel_rfl) (by kernel_rfl) (fun _ _ _ h => h) (by rfl) ?_ (by assumption) ?_ ?_
                rotate_left 2
                · (intro w' hSw; obtain ⟨s0, s1, s2, s3, s4⟩ := hSw; go_simp; try with_reducible rfl)
                · (simp only [Act.put, List.setIfInBounds_toArray, List.set_cons_zero, List.set_cons_succ]; try rfl)
                refine wpAnyH_ready (rs := [17]) (by kernel_rfl) (by simp) ?_
                refine AllReadyH.cons (o := { dst := some 89, op := Op.call { callee := Callee.value (Operand.func 13), args := #[Operand.tmp 75, Operand.tmp 76, Operand.tmp 82, Operand.tmp 88], argTypes := #[24, 31, 3, 3] }, type := 4, pos := "law.go:118", after := #[{ on := 3, ground := Ground.data }, { on := 4, ground := Ground.data }, { on := 10, ground := Ground.data }, { on := 16, ground := Ground.data }, { on := 2, ground := Ground.chain }, { on := 2, ground := Ground.guard }], guard := some (2, false) }) rfl (fun K hK => ?_) AllReadyH.nil
                go_simp
                refine (hto.out _ _ _ hcb.out.drew).mono ?_
                rintro x w7 ⟨rfl, bq⟩
                have b7 : Hid (Below wd.heap.size wd w7) := hcb.out.drew.trans (bq.mono hcb.out.size)
                obtain ⟨u0, u1, v0, v1, v2, v3, v4, v5⟩ := E1.out w7 b7.out
                clear bq
                try go_wp2_with fail
                refine hK.out _ _ ⟨u0, u1, v1, v3, v4⟩ (fun hHeld => ?_)
                clear hK K
                try simp only [Act.put, List.setIfInBounds_toArray, List.set_cons_zero, List.set_cons_succ]
                refine takeH (i := 18) (v := .bool false) (a' := ?_) ({ dst := some 90, op := Op.unOp UnOp.not 4 (Operand.tmp 89), type := 4, pos := "law.go:118", after := #[{ on := 17, ground := Ground.data }, { on := 2, ground := Ground.guard }], guard := some (2, false) }) rfl (by kernel_rfl) (by kernel_rfl) (by kernel_rfl) (fun _ _ _ h => h) (by rfl) ?_ (by assumption) ?_ ?_
                rotate_left 1
                · (intro w' hSw; obtain ⟨s0, s1, s2, s3, s4⟩ := hSw; go_simp; try rfl)
                · (simp only [Act.put, List.setIfInBounds_toArray, List.set_cons_zero, List.set_cons_succ]; try rfl)
                refine takeH (i := 19) (v := .bool false) (a' := ?_) ({ dst := some 91, op := Op.pick (Operand.tmp 74) (Operand.const (Value.bool true)) (Operand.tmp 90), type := 4, pos := "law.go:118", after := #[{ on := 2, ground := Ground.data }, { on := 18, ground := Ground.data }], guard := none }) rfl (by kernel_rfl) (by kernel_rfl) (by kernel_rfl) (fun _ _ _ h => h) (by rfl) ?_ (by assumption) ?_ ?_
                rotate_left 1
                · (intro w' hSw; obtain ⟨s0, s1, s2, s3, s4⟩ := hSw; go_simp; try rfl)
                · (simp only [Act.put, List.setIfInBounds_toArray, List.set_cons_zero, List.set_cons_succ]; try rfl)
                refine takeH (i := 20) (v := ?_) (a' := ?_) ({ dst := some 92, op := Op.move (Operand.tmp 91), type := 4, pos := "law.go:118", after := #[{ on := 19, ground := Ground.data }, { on := 17, ground := Ground.chain }], guard := none }) rfl (by kernel_rfl) (by kernel_rfl) (by kernel_rfl) (fun _ _ _ h => h) (by rfl) ?_ (by assumption) ?_ ?_
                rotate_left 2
                · (intro w' hSw; obtain ⟨s0, s1, s2, s3, s4⟩ := hSw; go_simp; try with_reducible rfl)
                · (simp only [Act.put, List.setIfInBounds_toArray, List.set_cons_zero, List.set_cons_succ]; try rfl)
                refine takeH (i := 21) (v := ?_) (a' := ?_) ({ dst := some 93, op := Op.move (Operand.tmp 1), type := 22, pos := "law.go:118", after := #[{ on := 20, ground := Ground.guard }], guard := some (20, false) }) rfl (by kernel_rfl) (by kernel_rfl) (by kernel_rfl) (fun _ _ _ h => h) (by rfl) ?_ (by assumption) ?_ ?_
                rotate_left 2
                · (intro w' hSw; obtain ⟨s0, s1, s2, s3, s4⟩ := hSw; go_simp; try with_reducible rfl)
                · (simp only [Act.put, List.setIfInBounds_toArray, List.set_cons_zero, List.set_cons_succ]; try rfl)
                refine takeH (i := 22) (v := ?_) (a' := ?_) ({ dst := some 94, op := Op.move (Operand.tmp 10), type := 3, pos := "law.go:118", after := #[{ on := 20, ground := Ground.guard }], guard := some (20, false) }) rfl (by kernel_rfl) (by kernel_rfl) (by kernel_rfl) (fun _ _ _ h => h) (by rfl) ?_ (by assumption) ?_ ?_
                rotate_left 2
                · (intro w' hSw; obtain ⟨s0, s1, s2, s3, s4⟩ := hSw; go_simp; try with_reducible rfl)
                · (simp only [Act.put, List.setIfInBounds_toArray, List.set_cons_zero, List.set_cons_succ]; try rfl)
                refine takeH (i := 23) (v := ?_) (a' := ?_) ({ dst := some 95, op := Op.indexAddr 22 (Operand.tmp 93) (Operand.tmp 94), type := 0, pos := "law.go:118", after := #[{ on := 21, ground := Ground.data }, { on := 22, ground := Ground.data }, { on := 20, ground := Ground.guard }], guard := some (20, false) }) rfl (by kernel_rfl) (by kernel_rfl) (by kernel_rfl) (fun _ _ _ h => h) (by rfl) ?_ (by assumption) ?_ ?_
                rotate_left 2
                · (intro w' hSw; obtain ⟨s0, s1, s2, s3, s4⟩ := hSw; go_simp; try with_reducible rfl)
                · (simp only [Act.put, List.setIfInBounds_toArray, List.set_cons_zero, List.set_cons_succ]; try rfl)
                refine takeH (i := 24) (v := ?_) (a' := ?_) ({ dst := some 96, op := Op.fieldAddr 37 (Operand.tmp 95) 1, type := 0, pos := "law.go:118", after := #[{ on := 23, ground := Ground.data }, { on := 20, ground := Ground.guard }], guard := some (20, false) }) rfl (by kernel_rfl) (by kernel_rfl) (by kernel_rfl) (fun _ _ _ h => h) (by rfl) ?_ (by assumption) ?_ ?_
                rotate_left 2
                · (intro w' hSw; obtain ⟨s0, s1, s2, s3, s4⟩ := hSw; go_simp; try with_reducible rfl)
                · (simp only [Act.put, List.setIfInBounds_toArray, List.set_cons_zero, List.set_cons_succ]; try rfl)
                refine takeH (i := 25) (v := ?_) (a' := ?_) ({ dst := some 97, op := Op.load 3 (Operand.tmp 96), type := 3, pos := "law.go:118", after := #[{ on := 24, ground := Ground.data }, { on := 20, ground := Ground.guard }], guard := some (20, false) }) rfl (by kernel_rfl) (by kernel_rfl) (by kernel_rfl) (fun _ _ _ h => h) (by rfl) ?_ (by assumption) ?_ ?_
                rotate_left 2
                · (intro w' hSw; obtain ⟨s0, s1, s2, s3, s4⟩ := hSw; go_simp; try with_reducible rfl)
                · (simp only [Act.put, List.setIfInBounds_toArray, List.set_cons_zero, List.set_cons_succ]; try rfl)
                refine takeH (i := 26) (v := .bool false) (a' := ?_) ({ dst := some 98, op := Op.binOp BinOp.geq 3 (Operand.tmp 97) (Operand.const (Value.int IntKind.i64 0)) 3, type := 4, pos := "law.go:118", after := #[{ on := 25, ground := Ground.data }, { on := 20, ground := Ground.guard }], guard := some (20, false) }) rfl (by kernel_rfl) (by kernel_rfl) (by kernel_rfl) (fun _ _ _ h => h) (by rfl) ?_ (by assumption) ?_ ?_
                rotate_left 1
                · (intro w' hSw; obtain ⟨s0, s1, s2, s3, s4⟩ := hSw; go_simp; first | done | rfl | simp [d1])
                · (simp only [Act.put, List.setIfInBounds_toArray, List.set_cons_zero, List.set_cons_succ]; try rfl)
                refine takeH (i := 27) (v := ?_) (a' := ?_) ({ dst := some 99, op := Op.move (Operand.tmp 98), type := 4, pos := "law.go:118", after := #[{ on := 26, ground := Ground.data }, { on := 20, ground := Ground.chain }, { on := 20, ground := Ground.guard }], guard := some (20, false) }) rfl (by kernel_rfl) (by kernel_rfl) (by kernel_rfl) (fun _ _ _ h => h) (by rfl) ?_ (by assumption) ?_ ?_
                rotate_left 2
                · (intro w' hSw; obtain ⟨s0, s1, s2, s3, s4⟩ := hSw; go_simp; try with_reducible rfl)
                · (simp only [Act.put, List.setIfInBounds_toArray, List.set_cons_zero, List.set_cons_succ]; try rfl)
                refine skipH (i := 28) (a' := ?_) ({ dst := some 100, op := Op.move (Operand.tmp 1), type := 22, pos := "law.go:118", after := #[{ on := 27, ground := Ground.guard }], guard := some (27, true) }) rfl (by kernel_rfl) (by kernel_rfl) (by kernel_rfl) (fun _ _ _ h => h) (by rfl) (by assumption) ?_ ?_
                rotate_left 1
                · (simp only [Act.put, List.setIfInBounds_toArray, List.set_cons_zero, List.set_cons_succ]; try rfl)
                refine skipH (i := 29) (a' := ?_) ({ dst := some 101, op := Op.move (Operand.tmp 10), type := 3, pos := "law.go:118", after := #[{ on := 27, ground := Ground.guard }], guard := some (27, true) }) rfl (by kernel_rfl) (by kernel_rfl) (by kernel_rfl) (fun _ _ _ h => h) (by rfl) (by assumption) ?_ ?_
                rotate_left 1
                · (simp only [Act.put, List.setIfInBounds_toArray, List.set_cons_zero, List.set_cons_succ]; try rfl)
                refine skipH (i := 30) (a' := ?_) ({ dst := some 102, op := Op.indexAddr 22 (Operand.tmp 100) (Operand.tmp 101), type := 0, pos := "law.go:118", after := #[{ on := 28, ground := Ground.data }, { on := 29, ground := Ground.data }, { on := 27, ground := Ground.guard }], guard := some (27, true) }) rfl (by kernel_rfl) (by kernel_rfl) (by kernel_rfl) (fun _ _ _ h => h) (by rfl) (by assumption) ?_ ?_
                rotate_left 1
                · (simp only [Act.put, List.setIfInBounds_toArray, List.set_cons_zero, List.set_cons_succ]; try rfl)
                refine skipH (i := 31) (a' := ?_) ({ dst := some 103, op := Op.fieldAddr 37 (Operand.tmp 102) 1, type := 0, pos := "law.go:118", after := #[{ on := 30, ground := Ground.data }, { on := 27, ground := Ground.guard }], guard := some (27, true) }) rfl (by kernel_rfl) (by kernel_rfl) (by kernel_rfl) (fun _ _ _ h => h) (by rfl) (by assumption) ?_ ?_
                rotate_left 1
                · (simp only [Act.put, List.setIfInBounds_toArray, List.set_cons_zero, List.set_cons_succ]; try rfl)
                refine skipH (i := 32) (a' := ?_) ({ dst := some 104, op := Op.load 3 (Operand.tmp 103), type := 3, pos := "law.go:118", after := #[{ on := 31, ground := Ground.data }, { on := 27, ground := Ground.guard }], guard := some (27, true) }) rfl (by kernel_rfl) (by kernel_rfl) (by kernel_rfl) (fun _ _ _ h => h) (by rfl) (by assumption) ?_ ?_
                rotate_left 1
                · (simp only [Act.put, List.setIfInBounds_toArray, List.set_cons_zero, List.set_cons_succ]; try rfl)
                refine skipH (i := 33) (a' := ?_) ({ dst := some 105, op := Op.move (Operand.tmp 6), type := 3, pos := "law.go:118", after := #[{ on := 27, ground := Ground.guard }], guard := some (27, true) }) rfl (by kernel_rfl) (by kernel_rfl) (by kernel_rfl) (fun _ _ _ h => h) (by rfl) (by assumption) ?_ ?_
                rotate_left 1
                · (simp only [Act.put, List.setIfInBounds_toArray, List.set_cons_zero, List.set_cons_succ]; try rfl)
                refine skipH (i := 34) (a' := ?_) ({ dst := some 106, op := Op.binOp BinOp.lss 3 (Operand.tmp 104) (Operand.tmp 105) 3, type := 4, pos := "law.go:118", after := #[{ on := 32, ground := Ground.data }, { on := 33, ground := Ground.data }, { on := 27, ground := Ground.guard }], guard := some (27, true) }) rfl (by kernel_rfl) (by kernel_rfl) (by kernel_rfl) (fun _ _ _ h => h) (by rfl) (by assumption) ?_ ?_
                rotate_left 1
                · (simp only [Act.put, List.setIfInBounds_toArray, List.set_cons_zero, List.set_cons_succ]; try rfl)
                refine takeH (i := 35) (v := .bool false) (a' := ?_) ({ dst := some 107, op := Op.pick (Operand.tmp 99) (Operand.tmp 106) (Operand.const (Value.bool false)), type := 4, pos := "law.go:118", after := #[{ on := 27, ground := Ground.data }, { on := 34, ground := Ground.data }, { on := 20, ground := Ground.guard }], guard := some (20, false) }) rfl (by kernel_rfl) (by kernel_rfl) (by kernel_rfl) (fun _ _ _ h => h) (by rfl) ?_ (by assumption) ?_ ?_
                rotate_left 1
                · (intro w' hSw; obtain ⟨s0, s1, s2, s3, s4⟩ := hSw; go_simp; try rfl)
                · (simp only [Act.put, List.setIfInBounds_toArray, List.set_cons_zero, List.set_cons_succ]; try rfl)
                refine takeH (i := 36) (v := ?_) (a' := ?_) ({ dst := some 108, op := Op.move (Operand.tmp 107), type := 4, pos := "law.go:118", after := #[{ on := 35, ground := Ground.data }, { on := 27, ground := Ground.chain }, { on := 20, ground := Ground.guard }], guard := some (20, false) }) rfl (by kernel_rfl) (by kernel_rfl) (by kernel_rfl) (fun _ _ _ h => h) (by rfl) ?_ (by assumption) ?_ ?_
                rotate_left 2
                · (intro w' hSw; obtain ⟨s0, s1, s2, s3, s4⟩ := hSw; go_simp; try with_reducible rfl)
                · (simp only [Act.put, List.setIfInBounds_toArray, List.set_cons_zero, List.set_cons_succ]; try rfl)
                refine skipH (i := 37) (a' := ?_) ({ dst := some 109, op := Op.move (Operand.tmp 7), type := 24, pos := "law.go:118", after := #[{ on := 36, ground := Ground.guard }], guard := some (36, true) }) rfl (by kernel_rfl) (by kernel_rfl) (by kernel_rfl) (fun _ _ _ h => h) (by rfl) (by assumption) ?_ ?_
                rotate_left 1
                · (simp only [Act.put, List.setIfInBounds_toArray, List.set_cons_zero, List.set_cons_succ]; try rfl)
                refine skipH (i := 38) (a' := ?_) ({ dst := some 110, op := Op.move (Operand.tmp 1), type := 22, pos := "law.go:118", after := #[{ on := 36, ground := Ground.guard }], guard := some (36, true) }) rfl (by kernel_rfl) (by kernel_rfl) (by kernel_rfl) (fun _ _ _ h => h) (by rfl) (by assumption) ?_ ?_
                rotate_left 1
                · (simp only [Act.put, List.setIfInBounds_toArray, List.set_cons_zero, List.set_cons_succ]; try rfl)
                refine skipH (i := 39) (a' := ?_) ({ dst := some 111, op := Op.move (Operand.tmp 10), type := 3, pos := "law.go:118", after := #[{ on := 36, ground := Ground.guard }], guard := some (36, true) }) rfl (by kernel_rfl) (by kernel_rfl) (by kernel_rfl) (fun _ _ _ h => h) (by rfl) (by assumption) ?_ ?_
                rotate_left 1
                · (simp only [Act.put, List.setIfInBounds_toArray, List.set_cons_zero, List.set_cons_succ]; try rfl)
                refine skipH (i := 40) (a' := ?_) ({ dst := some 112, op := Op.indexAddr 22 (Operand.tmp 110) (Operand.tmp 111), type := 0, pos := "law.go:118", after := #[{ on := 38, ground := Ground.data }, { on := 39, ground := Ground.data }, { on := 36, ground := Ground.guard }], guard := some (36, true) }) rfl (by kernel_rfl) (by kernel_rfl) (by kernel_rfl) (fun _ _ _ h => h) (by rfl) (by assumption) ?_ ?_
                rotate_left 1
                · (simp only [Act.put, List.setIfInBounds_toArray, List.set_cons_zero, List.set_cons_succ]; try rfl)
                refine skipH (i := 41) (a' := ?_) ({ dst := some 113, op := Op.fieldAddr 37 (Operand.tmp 112) 1, type := 0, pos := "law.go:118", after := #[{ on := 40, ground := Ground.data }, { on := 36, ground := Ground.guard }], guard := some (36, true) }) rfl (by kernel_rfl) (by kernel_rfl) (by kernel_rfl) (fun _ _ _ h => h) (by rfl) (by assumption) ?_ ?_
                rotate_left 1
                · (simp only [Act.put, List.setIfInBounds_toArray, List.set_cons_zero, List.set_cons_succ]; try rfl)
                refine skipH (i := 42) (a' := ?_) ({ dst := some 114, op := Op.load 3 (Operand.tmp 113), type := 3, pos := "law.go:118", after := #[{ on := 41, ground := Ground.data }, { on := 36, ground := Ground.guard }], guard := some (36, true) }) rfl (by kernel_rfl) (by kernel_rfl) (by kernel_rfl) (fun _ _ _ h => h) (by rfl) (by assumption) ?_ ?_
                rotate_left 1
                · (simp only [Act.put, List.setIfInBounds_toArray, List.set_cons_zero, List.set_cons_succ]; try rfl)
                refine skipH (i := 43) (a' := ?_) ({ dst := some 115, op := Op.call { callee := Callee.value (Operand.func 14), args := #[Operand.tmp 109, Operand.tmp 114], argTypes := #[24, 3] }, type := 4, pos := "law.go:118", after := #[{ on := 37, ground := Ground.data }, { on := 42, ground := Ground.data }, { on := 36, ground := Ground.chain }, { on := 36, ground := Ground.guard }], guard := some (36, true) }) rfl (by kernel_rfl) (by kernel_rfl) (by kernel_rfl) (fun _ _ _ h => h) (by rfl) (by assumption) ?_ ?_
                rotate_left 1
                · (simp only [Act.put, List.setIfInBounds_toArray, List.set_cons_zero, List.set_cons_succ]; try rfl)
                refine skipH (i := 44) (a' := ?_) ({ dst := some 116, op := Op.move (Operand.tmp 13), type := 3, pos := "law.go:118", after := #[{ on := 36, ground := Ground.guard }], guard := some (36, true) }) rfl (by kernel_rfl) (by kernel_rfl) (by kernel_rfl) (fun _ _ _ h => h) (by rfl) (by assumption) ?_ ?_
                rotate_left 1
                · (simp only [Act.put, List.setIfInBounds_toArray, List.set_cons_zero, List.set_cons_succ]; try rfl)
                refine skipH (i := 45) (a' := ?_) ({ dst := some 117, op := Op.binOp BinOp.geq 3 (Operand.tmp 116) (Operand.const (Value.int IntKind.i64 0)) 3, type := 4, pos := "law.go:118", after := #[{ on := 44, ground := Ground.data }, { on := 36, ground := Ground.guard }], guard := some (36, true) }) rfl (by kernel_rfl) (by kernel_rfl) (by kernel_rfl) (fun _ _ _ h => h) (by rfl) (by assumption) ?_ ?_
                rotate_left 1
                · (simp only [Act.put, List.setIfInBounds_toArray, List.set_cons_zero, List.set_cons_succ]; try rfl)
                refine skipH (i := 46) (a' := ?_) ({ dst := some 118, op := Op.binOp BinOp.neq 4 (Operand.tmp 115) (Operand.tmp 117) 4, type := 4, pos := "law.go:118", after := #[{ on := 43, ground := Ground.data }, { on := 45, ground := Ground.data }, { on := 36, ground := Ground.guard }], guard := some (36, true) }) rfl (by kernel_rfl) (by kernel_rfl) (by kernel_rfl) (fun _ _ _ h => h) (by rfl) (by assumption) ?_ ?_
                rotate_left 1
                · (simp only [Act.put, List.setIfInBounds_toArray, List.set_cons_zero, List.set_cons_succ]; try rfl)
                refine takeH (i := 47) (v := .bool false) (a' := ?_) ({ dst := some 119, op := Op.pick (Operand.tmp 108) (Operand.tmp 118) (Operand.const (Value.bool false)), type := 4, pos := "law.go:118", after := #[{ on := 36, ground := Ground.data }, { on := 46, ground := Ground.data }, { on := 20, ground := Ground.guard }], guard := some (20, false) }) rfl (by kernel_rfl) (by kernel_rfl) (by kernel_rfl) (fun _ _ _ h => h) (by rfl) ?_ (by assumption) ?_ ?_
                rotate_left 1
                · (intro w' hSw; obtain ⟨s0, s1, s2, s3, s4⟩ := hSw; go_simp; try rfl)
                · (simp only [Act.put, List.setIfInBounds_toArray, List.set_cons_zero, List.set_cons_succ]; try rfl)
                refine takeH (i := 48) (v := .bool false) (a' := ?_) ({ dst := some 120, op := Op.pick (Operand.tmp 92) (Operand.const (Value.bool true)) (Operand.tmp 119), type := 4, pos := "law.go:118", after := #[{ on := 20, ground := Ground.data }, { on := 47, ground := Ground.data }], guard := none }) rfl (by kernel_rfl) (by kernel_rfl) (by kernel_rfl) (fun _ _ _ h => h) (by rfl) ?_ (by assumption) ?_ ?_
                rotate_left 1
                · (intro w' hSw; obtain ⟨s0, s1, s2, s3, s4⟩ := hSw; go_simp; try rfl)
                · (simp only [Act.put, List.setIfInBounds_toArray, List.set_cons_zero, List.set_cons_succ]; try rfl)
                refine wpAnyH_done (by kernel_rfl) ?_ _
                refine NoPanic.normal ?_
                go_wp2_with fail
                go_meet
                case rel => exact ⟨rfl, b7.out⟩
              · have d1 : decide (qe ≥ 0) = true := decide_eq_true (by omega)
                have d1' : decide (0 ≤ qe) = true := decide_eq_true (by omega)
                have d2 : decide (qe < 8) = false := decide_eq_false (by omega)
                clear hcr hha hA
                refine wp_region_noPanic ?_
                refine wp_region_held_drew (S := fun y => y.cell? ⟨w2.heap.size, 0, none⟩ = some (.int .i64 8) ∧ y.cell? ⟨w2.heap.size, 1, none⟩ = some (.slice ad2 V cap2) ∧ y.cell? ⟨b0, o0 + j * 6 + 1, none⟩ = some (.int .i64 qe) ∧ y.cell? ⟨b0, o0 + j * 6 + 3, none⟩ = some (.int .i64 qa1) ∧ y.cell? ⟨b0, o0 + j * 6 + 4, none⟩ = some (.int .i64 qb0)) (by kernel_rfl) ⟨x0, x1, f1, f3, f4⟩ (fun hHeld => ?_)
                refine takeH (i := 0) (v := ?_) (a' := ?_) ({ dst := some 72, op := Op.move (Operand.tmp 12), type := 4, pos := "law.go:118", after := #[], guard := none }) rfl (by kernel_rfl) (by kernel_rfl) (by kernel_rfl) (fun _ _ _ h => h) (by rfl) ?_ (by assumption) ?_ ?_
                rotate_left 2
                · (intro w' hSw; obtain ⟨s0, s1, s2, s3, s4⟩ := hSw; go_simp; try with_reducible rfl)
                · (simp only [Act.put, List.setIfInBounds_toArray, List.set_cons_zero, List.set_cons_succ]; try rfl)
                refine takeH (i := 1) (v := .bool false) (a' := ?_) ({ dst := some 73, op := Op.unOp UnOp.not 4 (Operand.tmp 72), type := 4, pos := "law.go:118", after := #[{ on := 0, ground := Ground.data }], guard := none }) rfl (by kernel_rfl) (by kernel_rfl) (by kernel_rfl) (fun _ _ _ h => h) (by rfl) ?_ (by assumption) ?_ ?_
                rotate_left 1
                · (intro w' hSw; obtain ⟨s0, s1, s2, s3, s4⟩ := hSw; go_simp; try rfl)
                · (simp only [Act.put, List.setIfInBounds_toArray, List.set_cons_zero, List.set_cons_succ]; try rfl)
                refine takeH (i := 2) (v := ?_) (a' := ?_) ({ dst := some 74, op := Op.move (Operand.tmp 73), type := 4, pos := "law.go:118", after := #[{ on := 1, ground := Ground.data }], guard := none }) rfl (by kernel_rfl) (by kernel_rfl) (by kernel_rfl) (fun _ _ _ h => h) (by rfl) ?_ (by assumption) ?_ ?_
                rotate_left 2
                · (intro w' hSw; obtain ⟨s0, s1, s2, s3, s4⟩ := hSw; go_simp; try with_reducible rfl)
                · (simp only [Act.put, List.setIfInBounds_toArray, List.set_cons_zero, List.set_cons_succ]; try rfl)
                refine takeH (i := 3) (v := ?_) (a' := ?_) ({ dst := some 75, op := Op.move (Operand.tmp 7), type := 24, pos := "law.go:118", after := #[{ on := 2, ground := Ground.guard }], guard := some (2, false) }) rfl (by kernel_rfl) (by kernel_rfl) (by kernel_rfl) (fun _ _ _ h => h) (by rfl) ?_ (by assumption) ?_ ?_
                rotate_left 2
                · (intro w' hSw; obtain ⟨s0, s1, s2, s3, s4⟩ := hSw; go_simp; try with_reducible rfl)
                · (simp only [Act.put, List.setIfInBounds_toArray, List.set_cons_zero, List.set_cons_succ]; try rfl)
                refine takeH (i := 4) (v := ?_) (a' := ?_) ({ dst := some 76, op := Op.load 31 (Operand.tmp 9), type := 31, pos := "law.go:118", after := #[{ on := 2, ground := Ground.guard }], guard := some (2, false) }) rfl (by kernel_rfl) (by kernel_rfl) (by kernel_rfl) (fun _ _ _ h => h) (by rfl) ?_ (by assumption) ?_ ?_
                rotate_left 2
                · (intro w' hSw; obtain ⟨s0, s1, s2, s3, s4⟩ := hSw; go_simp; try with_reducible rfl)
                · (simp only [Act.put, List.setIfInBounds_toArray, List.set_cons_zero, List.set_cons_succ]; try rfl)
                refine takeH (i := 5) (v := ?_) (a' := ?_) ({ dst := some 77, op := Op.move (Operand.tmp 1), type := 22, pos := "law.go:118", after := #[{ on := 2, ground := Ground.guard }], guard := some (2, false) }) rfl (by kernel_rfl) (by kernel_rfl) (by kernel_rfl) (fun _ _ _ h => h) (by rfl) ?_ (by assumption) ?_ ?_
                rotate_left 2
                · (intro w' hSw; obtain ⟨s0, s1, s2, s3, s4⟩ := hSw; go_simp; try with_reducible rfl)
                · (simp only [Act.put, List.setIfInBounds_toArray, List.set_cons_zero, List.set_cons_succ]; try rfl)
                refine takeH (i := 6) (v := ?_) (a' := ?_) ({ dst := some 78, op := Op.move (Operand.tmp 10), type := 3, pos := "law.go:118", after := #[{ on := 2, ground := Ground.guard }], guard := some (2, false) }) rfl (by kernel_rfl) (by kernel_rfl) (by kernel_rfl) (fun _ _ _ h => h) (by rfl) ?_ (by assumption) ?_ ?_
                rotate_left 2
                · (intro w' hSw; obtain ⟨s0, s1, s2, s3, s4⟩ := hSw; go_simp; try with_reducible rfl)
                · (simp only [Act.put, List.setIfInBounds_toArray, List.set_cons_zero, List.set_cons_succ]; try rfl)
                refine takeH (i := 7) (v := ?_) (a' := ?_) ({ dst := some 79, op := Op.indexAddr 22 (Operand.tmp 77) (Operand.tmp 78), type := 0, pos := "law.go:118", after := #[{ on := 5, ground := Ground.data }, { on := 6, ground := Ground.data }, { on := 2, ground := Ground.guard }], guard := some (2, false) }) rfl (by kernel_rfl) (by kernel_rfl) (by kernel_rfl) (fun _ _ _ h => h) (by rfl) ?_ (by assumption) ?_ ?_
                rotate_left 2
                · (intro w' hSw; obtain ⟨s0, s1, s2, s3, s4⟩ := hSw; go_simp; try with_reducible rfl)
                · (simp only [Act.put, List.setIfInBounds_toArray, List.set_cons_zero, List.set_cons_succ]; try rfl)
                refine takeH (i := 8) (v := ?_) (a' := ?_) ({ dst := some 80, op := Op.fieldAddr 37 (Operand.tmp 79) 2, type := 0, pos := "law.go:118", after := #[{ on := 7, ground := Ground.data }, { on := 2, ground := Ground.guard }], guard := some (2, false) }) rfl (by kernel_rfl) (by kernel_rfl) (by kernel_rfl) (fun _ _ _ h => h) (by rfl) ?_ (by assumption) ?_ ?_
                rotate_left 2
                · (intro w' hSw; obtain ⟨s0, s1, s2, s3, s4⟩ := hSw; go_simp; try with_reducible rfl)
                · (simp only [Act.put, List.setIfInBounds_toArray, List.set_cons_zero, List.set_cons_succ]; try rfl)
                refine takeH (i := 9) (v := ?_) (a' := ?_) ({ dst := some 81, op := Op.indexAddr 35 (Operand.tmp 80) (Operand.const (Value.int IntKind.i64 1)), type := 0, pos := "law.go:118", after := #[{ on := 8, ground := Ground.data }, { on := 2, ground := Ground.guard }], guard := some (2, false) }) rfl (by kernel_rfl) (by kernel_rfl) (by kernel_rfl) (fun _ _ _ h => h) (by rfl) ?_ (by assumption) ?_ ?_
                rotate_left 2
                · (intro w' hSw; obtain ⟨s0, s1, s2, s3, s4⟩ := hSw; go_simp; try with_reducible rfl)
                · (simp only [Act.put, List.setIfInBounds_toArray, List.set_cons_zero, List.set_cons_succ]; try rfl)
                refine takeH (i := 10) (v := ?_) (a' := ?_) ({ dst := some 82, op := Op.load 3 (Operand.tmp 81), type := 3, pos := "law.go:118", after := #[{ on := 9, ground := Ground.data }, { on := 2, ground := Ground.guard }], guard := some (2, false) }) rfl (by kernel_rfl) (by kernel_rfl) (by kernel_rfl) (fun _ _ _ h => h) (by rfl) ?_ (by assumption) ?_ ?_
                rotate_left 2
                · (intro w' hSw; obtain ⟨s0, s1, s2, s3, s4⟩ := hSw; go_simp; try with_reducible rfl)
                · (simp only [Act.put, List.setIfInBounds_toArray, List.set_cons_zero, List.set_cons_succ]; try rfl)
                refine takeH (i := 11) (v := ?_) (a' := ?_) ({ dst := some 83, op := Op.move (Operand.tmp 1), type := 22, pos := "law.go:118", after := #[{ on := 2, ground := Ground.guard }], guard := some (2, false) }) rfl (by kernel_rfl) (by kernel_rfl) (by kernel_rfl) (fun _ _ _ h => h) (by rfl) ?_ (by assumption) ?_ ?_
                rotate_left 2
                · (intro w' hSw; obtain ⟨s0, s1, s2, s3, s4⟩ := hSw; go_simp; try with_reducible rfl)
                · (simp only [Act.put, List.setIfInBounds_toArray, List.set_cons_zero, List.set_cons_succ]; try rfl)
                refine takeH (i := 12) (v := ?_) (a' := ?_) ({ dst := some 84, op := Op.move (Operand.tmp 10), type := 3, pos := "law.go:118", after := #[{ on := 2, ground := Ground.guard }], guard := some (2, false) }) rfl (by kernel_rfl) (by kernel_rfl) (by kernel_rfl) (fun _ _ _ h => h) (by rfl) ?_ (by assumption) ?_ ?_
                rotate_left 2
                · (intro w' hSw; obtain ⟨s0, s1, s2, s3, s4⟩ := hSw; go_simp; try with_reducible rfl)
                · (simp only [Act.put, List.setIfInBounds_toArray, List.set_cons_zero, List.set_cons_succ]; try rfl)
                refine takeH (i := 13) (v := ?_) (a' := ?_) ({ dst := some 85, op := Op.indexAddr 22 (Operand.tmp 83) (Operand.tmp 84), type := 0, pos := "law.go:118", after := #[{ on := 11, ground := Ground.data }, { on := 12, ground := Ground.data }, { on := 2, ground := Ground.guard }], guard := some (2, false) }) rfl (by kernel_rfl) (by kernel_rfl) (by kernel_rfl) (fun _ _ _ h => h) (by rfl) ?_ (by assumption) ?_ ?_
                rotate_left 2
                · (intro w' hSw; obtain ⟨s0, s1, s2, s3, s4⟩ := hSw; go_simp; try with_reducible rfl)
                · (simp only [Act.put, List.setIfInBounds_toArray, List.set_cons_zero, List.set_cons_succ]; try rfl)
                refine takeH (i := 14) (v := ?_) (a' := ?_) ({ dst := some 86, op := Op.fieldAddr 37 (Operand.tmp 85) 3, type := 0, pos := "law.go:118", after := #[{ on := 13, ground := Ground.data }, { on := 2, ground := Ground.guard }], guard := some (2, false) }) rfl (by kernel_rfl) (by kernel_rfl) (by kernel_rfl) (fun _ _ _ h => h) (by rfl) ?_ (by assumption) ?_ ?_
                rotate_left 2
                · (intro w' hSw; obtain ⟨s0, s1, s2, s3, s4⟩ := hSw; go_simp; try with_reducible rfl)
                · (simp only [Act.put, List.setIfInBounds_toArray, List.set_cons_zero, List.set_cons_succ]; try rfl)
                refine takeH (i := 15) (v := ?_) (a' := ?_) ({ dst := some 87, op := Op.indexAddr 35 (Operand.tmp 86) (Operand.const (Value.int IntKind.i64 0)), type := 0, pos := "law.go:118", after := #[{ on := 14, ground := Ground.data }, { on := 2, ground := Ground.guard }], guard := some (2, false) }) rfl (by kernel_rfl) (by kernel_rfl) (by kernel_rfl) (fun _ _ _ h => h) (by rfl) ?_ (by assumption) ?_ ?_
                rotate_left 2
                · (intro w' hSw; obtain ⟨s0, s1, s2, s3, s4⟩ := hSw; go_simp; try with_reducible rfl)
                · (simp only [Act.put, List.setIfInBounds_toArray, List.set_cons_zero, List.set_cons_succ]; try rfl)
                refine takeH (i := 16) (v := ?_) (a' := ?_) ({ dst := some 88, op := Op.load 3 (Operand.tmp 87), type := 3, pos := "law.go:118", after := #[{ on := 15, ground := Ground.data }, { on := 2, ground := Ground.guard }], guard := some (2, false) }) rfl (by kernel_rfl) (by kernel_rfl) (by kernel_rfl) (fun _ _ _ h => h) (by rfl) ?_ (by assumption) ?_ ?_
                rotate_left 2
                · (intro w' hSw; obtain ⟨s0, s1, s2, s3, s4⟩ := hSw; go_simp; try with_reducible rfl)
                · (simp only [Act.put, List.setIfInBounds_toArray, List.set_cons_zero, List.set_cons_succ]; try rfl)
                refine wpAnyH_ready (rs := [17]) (by kernel_rfl) (by simp) ?_
                refine AllReadyH.cons (o := { dst := some 89, op := Op.call { callee := Callee.value (Operand.func 13), args := #[Operand.tmp 75, Operand.tmp 76, Operand.tmp 82, Operand.tmp 88], argTypes := #[24, 31, 3, 3] }, type := 4, pos := "law.go:118", after := #[{ on := 3, ground := Ground.data }, { on := 4, ground := Ground.data }, { on := 10, ground := Ground.data }, { on := 16, ground := Ground.data }, { on := 2, ground := Ground.chain }, { on := 2, ground := Ground.guard }], guard := some (2, false) }) rfl (fun K hK => ?_) AllReadyH.nil
                go_simp
                refine (hto.out _ _ _ hcb.out.drew).mono ?_
                rintro x w7 ⟨rfl, bq⟩
                have b7 : Hid (Below wd.heap.size wd w7) := hcb.out.drew.trans (bq.mono hcb.out.size)
                obtain ⟨u0, u1, v0, v1, v2, v3, v4, v5⟩ := E1.out w7 b7.out
                clear bq
                try go_wp2_with fail
                refine hK.out _ _ ⟨u0, u1, v1, v3, v4⟩ (fun hHeld => ?_)
                clear hK K
                try simp only [Act.put, List.setIfInBounds_toArray, List.set_cons_zero, List.set_cons_succ]
                refine takeH (i := 18) (v := .bool false) (a' := ?_) ({ dst := some 90, op := Op.unOp UnOp.not 4 (Operand.tmp 89), type := 4, pos := "law.go:118", after := #[{ on := 17, ground := Ground.data }, { on := 2, ground := Ground.guard }], guard := some (2, false) }) rfl (by kernel_rfl) (by kernel_rfl) (by kernel_rfl) (fun _ _ _ h => h) (by rfl) ?_ (by assumption) ?_ ?_
                rotate_left 1
                · (intro w' hSw; obtain ⟨s0, s1, s2, s3, s4⟩ := hSw; go_simp; try rfl)
                · (simp only [Act.put, List.setIfInBounds_toArray, List.set_cons_zero, List.set_cons_succ]; try rfl)
                refine takeH (i := 19) (v := .bool false) (a' := ?_) ({ dst := some 91, op := Op.pick (Operand.tmp 74) (Operand.const (Value.bool true)) (Operand.tmp 90), type := 4, pos := "law.go:118", after := #[{ on := 2, ground := Ground.data }, { on := 18, ground := Ground.data }], guard := none }) rfl (by kernel_rfl) (by kernel_rfl) (by kernel_rfl) (fun _ _ _ h => h) (by rfl) ?_ (by assumption) ?_ ?_
                rotate_left 1
                · (intro w' hSw; obtain ⟨s0, s1, s2, s3, s4⟩ := hSw; go_simp; try rfl)
                · (simp only [Act.put, List.setIfInBounds_toArray, List.set_cons_zero, List.set_cons_succ]; try rfl)
                refine takeH (i := 20) (v := ?_) (a' := ?_) ({ dst := some 92, op := Op.move (Operand.tmp 91), type := 4, pos := "law.go:118", after := #[{ on := 19, ground := Ground.data }, { on := 17, ground := Ground.chain }], guard := none }) rfl (by kernel_rfl) (by kernel_rfl) (by kernel_rfl) (fun _ _ _ h => h) (by rfl) ?_ (by assumption) ?_ ?_
                rotate_left 2
                · (intro w' hSw; obtain ⟨s0, s1, s2, s3, s4⟩ := hSw; go_simp; try with_reducible rfl)
                · (simp only [Act.put, List.setIfInBounds_toArray, List.set_cons_zero, List.set_cons_succ]; try rfl)
                refine takeH (i := 21) (v := ?_) (a' := ?_) ({ dst := some 93, op := Op.move (Operand.tmp 1), type := 22, pos := "law.go:118", after := #[{ on := 20, ground := Ground.guard }], guard := some (20, false) }) rfl (by kernel_rfl) (by kernel_rfl) (by kernel_rfl) (fun _ _ _ h => h) (by rfl) ?_ (by assumption) ?_ ?_
                rotate_left 2
                · (intro w' hSw; obtain ⟨s0, s1, s2, s3, s4⟩ := hSw; go_simp; try with_reducible rfl)
                · (simp only [Act.put, List.setIfInBounds_toArray, List.set_cons_zero, List.set_cons_succ]; try rfl)
                refine takeH (i := 22) (v := ?_) (a' := ?_) ({ dst := some 94, op := Op.move (Operand.tmp 10), type := 3, pos := "law.go:118", after := #[{ on := 20, ground := Ground.guard }], guard := some (20, false) }) rfl (by kernel_rfl) (by kernel_rfl) (by kernel_rfl) (fun _ _ _ h => h) (by rfl) ?_ (by assumption) ?_ ?_
                rotate_left 2
                · (intro w' hSw; obtain ⟨s0, s1, s2, s3, s4⟩ := hSw; go_simp; try with_reducible rfl)
                · (simp only [Act.put, List.setIfInBounds_toArray, List.set_cons_zero, List.set_cons_succ]; try rfl)
                refine takeH (i := 23) (v := ?_) (a' := ?_) ({ dst := some 95, op := Op.indexAddr 22 (Operand.tmp 93) (Operand.tmp 94), type := 0, pos := "law.go:118", after := #[{ on := 21, ground := Ground.data }, { on := 22, ground := Ground.data }, { on := 20, ground := Ground.guard }], guard := some (20, false) }) rfl (by kernel_rfl) (by kernel_rfl) (by kernel_rfl) (fun _ _ _ h => h) (by rfl) ?_ (by assumption) ?_ ?_
                rotate_left 2
                · (intro w' hSw; obtain ⟨s0, s1, s2, s3, s4⟩ := hSw; go_simp; try with_reducible rfl)
                · (simp only [Act.put, List.setIfInBounds_toArray, List.set_cons_zero, List.set_cons_succ]; try rfl)
                refine takeH (i := 24) (v := ?_) (a' := ?_) ({ dst := some 96, op := Op.fieldAddr 37 (Operand.tmp 95) 1, type := 0, pos := "law.go:118", after := #[{ on := 23, ground := Ground.data }, { on := 20, ground := Ground.guard }], guard := some (20, false) }) rfl (by kernel_rfl) (by kernel_rfl) (by kernel_rfl) (fun _ _ _ h => h) (by rfl) ?_ (by assumption) ?_ ?_
                rotate_left 2
                · (intro w' hSw; obtain ⟨s0, s1, s2, s3, s4⟩ := hSw; go_simp; try with_reducible rfl)
                · (simp only [Act.put, List.setIfInBounds_toArray, List.set_cons_zero, List.set_cons_succ]; try rfl)
                refine takeH (i := 25) (v := ?_) (a' := ?_) ({ dst := some 97, op := Op.load 3 (Operand.tmp 96), type := 3, pos := "law.go:118", after := #[{ on := 24, ground := Ground.data }, { on := 20, ground := Ground.guard }], guard := some (20, false) }) rfl (by kernel_rfl) (by kernel_rfl) (by kernel_rfl) (fun _ _ _ h => h) (by rfl) ?_ (by assumption) ?_ ?_
                rotate_left 2
                · (intro w' hSw; obtain ⟨s0, s1, s2, s3, s4⟩ := hSw; go_simp; try with_reducible rfl)
                · (simp only [Act.put, List.setIfInBounds_toArray, List.set_cons_zero, List.set_cons_succ]; try rfl)
                refine takeH (i := 26) (v := .bool true) (a' := ?_) ({ dst := some 98, op := Op.binOp BinOp.geq 3 (Operand.tmp 97) (Operand.const (Value.int IntKind.i64 0)) 3, type := 4, pos := "law.go:118", after := #[{ on := 25, ground := Ground.data }, { on := 20, ground := Ground.guard }], guard := some (20, false) }) rfl (by kernel_rfl) (by kernel_rfl) (by kernel_rfl) (fun _ _ _ h => h) (by rfl) ?_ (by assumption) ?_ ?_
                rotate_left 1
                · (intro w' hSw; obtain ⟨s0, s1, s2, s3, s4⟩ := hSw; go_simp; first | done | rfl | simp [d1])
                · (simp only [Act.put, List.setIfInBounds_toArray, List.set_cons_zero, List.set_cons_succ]; try rfl)
                refine takeH (i := 27) (v := ?_) (a' := ?_) ({ dst := some 99, op := Op.move (Operand.tmp 98), type := 4, pos := "law.go:118", after := #[{ on := 26, ground := Ground.data }, { on := 20, ground := Ground.chain }, { on := 20, ground := Ground.guard }], guard := some (20, false) }) rfl (by kernel_rfl) (by kernel_rfl) (by kernel_rfl) (fun _ _ _ h => h) (by rfl) ?_ (by assumption) ?_ ?_
                rotate_left 2
                · (intro w' hSw; obtain ⟨s0, s1, s2, s3, s4⟩ := hSw; go_simp; try with_reducible rfl)
                · (simp only [Act.put, List.setIfInBounds_toArray, List.set_cons_zero, List.set_cons_succ]; try rfl)
                refine takeH (i := 28) (v := ?_) (a' := ?_) ({ dst := some 100, op := Op.move (Operand.tmp 1), type := 22, pos := "law.go:118", after := #[{ on := 27, ground := Ground.guard }], guard := some (27, true) }) rfl (by kernel_rfl) (by kernel_rfl) (by kernel_rfl) (fun _ _ _ h => h) (by rfl) ?_ (by assumption) ?_ ?_
                rotate_left 2
                · (intro w' hSw; obtain ⟨s0, s1, s2, s3, s4⟩ := hSw; go_simp; try with_reducible rfl)
                · (simp only [Act.put, List.setIfInBounds_toArray, List.set_cons_zero, List.set_cons_succ]; try rfl)
                refine takeH (i := 29) (v := ?_) (a' := ?_) ({ dst := some 101, op := Op.move (Operand.tmp 10), type := 3, pos := "law.go:118", after := #[{ on := 27, ground := Ground.guard }], guard := some (27, true) }) rfl (by kernel_rfl) (by kernel_rfl) (by kernel_rfl) (fun _ _ _ h => h) (by rfl) ?_ (by assumption) ?_ ?_
                rotate_left 2
                · (intro w' hSw; obtain ⟨s0, s1, s2, s3, s4⟩ := hSw; go_simp; try with_reducible rfl)
                · (simp only [Act.put, List.setIfInBounds_toArray, List.set_cons_zero, List.set_cons_succ]; try rfl)
                refine takeH (i := 30) (v := ?_) (a' := ?_) ({ dst := some 102, op := Op.indexAddr 22 (Operand.tmp 100) (Operand.tmp 101), type := 0, pos := "law.go:118", after := #[{ on := 28, ground := Ground.data }, { on := 29, ground := Ground.data }, { on := 27, ground := Ground.guard }], guard := some (27, true) }) rfl (by kernel_rfl) (by kernel_rfl) (by kernel_rfl) (fun _ _ _ h => h) (by rfl) ?_ (by assumption) ?_ ?_
                rotate_left 2
                · (intro w' hSw; obtain ⟨s0, s1, s2, s3, s4⟩ := hSw; go_simp; try with_reducible rfl)
                · (simp only [Act.put, List.setIfInBounds_toArray, List.set_cons_zero, List.set_cons_succ]; try rfl)
                refine takeH (i := 31) (v := ?_) (a' := ?_) ({ dst := some 103, op := Op.fieldAddr 37 (Operand.tmp 102) 1, type := 0, pos := "law.go:118", after := #[{ on := 30, ground := Ground.data }, { on := 27, ground := Ground.guard }], guard := some (27, true) }) rfl (by kernel_rfl) (by kernel_rfl) (by kernel_rfl) (fun _ _ _ h => h) (by rfl) ?_ (by assumption) ?_ ?_
                rotate_left 2
                · (intro w' hSw; obtain ⟨s0, s1, s2, s3, s4⟩ := hSw; go_simp; try with_reducible rfl)
                · (simp only [Act.put, List.setIfInBounds_toArray, List.set_cons_zero, List.set_cons_succ]; try rfl)
                refine takeH (i := 32) (v := ?_) (a' := ?_) ({ dst := some 104, op := Op.load 3 (Operand.tmp 103), type := 3, pos := "law.go:118", after := #[{ on := 31, ground := Ground.data }, { on := 27, ground := Ground.guard }], guard := some (27, true) }) rfl (by kernel_rfl) (by kernel_rfl) (by kernel_rfl) (fun _ _ _ h => h) (by rfl) ?_ (by assumption) ?_ ?_
                rotate_left 2
                · (intro w' hSw; obtain ⟨s0, s1, s2, s3, s4⟩ := hSw; go_simp; try with_reducible rfl)
                · (simp only [Act.put, List.setIfInBounds_toArray, List.set_cons_zero, List.set_cons_succ]; try rfl)
                refine takeH (i := 33) (v := ?_) (a' := ?_) ({ dst := some 105, op := Op.move (Operand.tmp 6), type := 3, pos := "law.go:118", after := #[{ on := 27, ground := Ground.guard }], guard := some (27, true) }) rfl (by kernel_rfl) (by kernel_rfl) (by kernel_rfl) (fun _ _ _ h => h) (by rfl) ?_ (by assumption) ?_ ?_
                rotate_left 2
                · (intro w' hSw; obtain ⟨s0, s1, s2, s3, s4⟩ := hSw; go_simp; try with_reducible rfl)
                · (simp only [Act.put, List.setIfInBounds_toArray, List.set_cons_zero, List.set_cons_succ]; try rfl)
                refine takeH (i := 34) (v := .bool false) (a' := ?_) ({ dst := some 106, op := Op.binOp BinOp.lss 3 (Operand.tmp 104) (Operand.tmp 105) 3, type := 4, pos := "law.go:118", after := #[{ on := 32, ground := Ground.data }, { on := 33, ground := Ground.data }, { on := 27, ground := Ground.guard }], guard := some (27, true) }) rfl (by kernel_rfl) (by kernel_rfl) (by kernel_rfl) (fun _ _ _ h => h) (by rfl) ?_ (by assumption) ?_ ?_
                rotate_left 1
                · (intro w' hSw; obtain ⟨s0, s1, s2, s3, s4⟩ := hSw; go_simp; first | done | rfl | simp [d2])
                · (simp only [Act.put, List.setIfInBounds_toArray, List.set_cons_zero, List.set_cons_succ]; try rfl)
                refine takeH (i := 35) (v := .bool false) (a' := ?_) ({ dst := some 107, op := Op.pick (Operand.tmp 99) (Operand.tmp 106) (Operand.const (Value.bool false)), type := 4, pos := "law.go:118", after := #[{ on := 27, ground := Ground.data }, { on := 34, ground := Ground.data }, { on := 20, ground := Ground.guard }], guard := some (20, false) }) rfl (by kernel_rfl) (by kernel_rfl) (by kernel_rfl) (fun _ _ _ h => h) (by rfl) ?_ (by assumption) ?_ ?_
                rotate_left 1
                · (intro w' hSw; obtain ⟨s0, s1, s2, s3, s4⟩ := hSw; go_simp; try rfl)
                · (simp only [Act.put, List.setIfInBounds_toArray, List.set_cons_zero, List.set_cons_succ]; try rfl)
                refine takeH (i := 36) (v := ?_) (a' := ?_) ({ dst := some 108, op := Op.move (Operand.tmp 107), type := 4, pos := "law.go:118", after := #[{ on := 35, ground := Ground.data }, { on := 27, ground := Ground.chain }, { on := 20, ground := Ground.guard }], guard := some (20, false) }) rfl (by kernel_rfl) (by kernel_rfl) (by kernel_rfl) (fun _ _ _ h => h) (by rfl) ?_ (by assumption) ?_ ?_
                rotate_left 2
                · (intro w' hSw; obtain ⟨s0, s1, s2, s3, s4⟩ := hSw; go_simp; try with_reducible rfl)
                · (simp only [Act.put, List.setIfInBounds_toArray, List.set_cons_zero, List.set_cons_succ]; try rfl)
                refine skipH (i := 37) (a' := ?_) ({ dst := some 109, op := Op.move (Operand.tmp 7), type := 24, pos := "law.go:118", after := #[{ on := 36, ground := Ground.guard }], guard := some (36, true) }) rfl (by kernel_rfl) (by kernel_rfl) (by kernel_rfl) (fun _ _ _ h => h) (by rfl) (by assumption) ?_ ?_
                rotate_left 1
                · (simp only [Act.put, List.setIfInBounds_toArray, List.set_cons_zero, List.set_cons_succ]; try rfl)
                refine skipH (i := 38) (a' := ?_) ({ dst := some 110, op := Op.move (Operand.tmp 1), type := 22, pos := "law.go:118", after := #[{ on := 36, ground := Ground.guard }], guard := some (36, true) }) rfl (by kernel_rfl) (by kernel_rfl) (by kernel_rfl) (fun _ _ _ h => h) (by rfl) (by assumption) ?_ ?_
                rotate_left 1
                · (simp only [Act.put, List.setIfInBounds_toArray, List.set_cons_zero, List.set_cons_succ]; try rfl)
                refine skipH (i := 39) (a' := ?_) ({ dst := some 111, op := Op.move (Operand.tmp 10), type := 3, pos := "law.go:118", after := #[{ on := 36, ground := Ground.guard }], guard := some (36, true) }) rfl (by kernel_rfl) (by kernel_rfl) (by kernel_rfl) (fun _ _ _ h => h) (by rfl) (by assumption) ?_ ?_
                rotate_left 1
                · (simp only [Act.put, List.setIfInBounds_toArray, List.set_cons_zero, List.set_cons_succ]; try rfl)
                refine skipH (i := 40) (a' := ?_) ({ dst := some 112, op := Op.indexAddr 22 (Operand.tmp 110) (Operand.tmp 111), type := 0, pos := "law.go:118", after := #[{ on := 38, ground := Ground.data }, { on := 39, ground := Ground.data }, { on := 36, ground := Ground.guard }], guard := some (36, true) }) rfl (by kernel_rfl) (by kernel_rfl) (by kernel_rfl) (fun _ _ _ h => h) (by rfl) (by assumption) ?_ ?_
                rotate_left 1
                · (simp only [Act.put, List.setIfInBounds_toArray, List.set_cons_zero, List.set_cons_succ]; try rfl)
                refine skipH (i := 41) (a' := ?_) ({ dst := some 113, op := Op.fieldAddr 37 (Operand.tmp 112) 1, type := 0, pos := "law.go:118", after := #[{ on := 40, ground := Ground.data }, { on := 36, ground := Ground.guard }], guard := some (36, true) }) rfl (by kernel_rfl) (by kernel_rfl) (by kernel_rfl) (fun _ _ _ h => h) (by rfl) (by assumption) ?_ ?_
                rotate_left 1
                · (simp only [Act.put, List.setIfInBounds_toArray, List.set_cons_zero, List.set_cons_succ]; try rfl)
                refine skipH (i := 42) (a' := ?_) ({ dst := some 114, op := Op.load 3 (Operand.tmp 113), type := 3, pos := "law.go:118", after := #[{ on := 41, ground := Ground.data }, { on := 36, ground := Ground.guard }], guard := some (36, true) }) rfl (by kernel_rfl) (by kernel_rfl) (by kernel_rfl) (fun _ _ _ h => h) (by rfl) (by assumption) ?_ ?_
                rotate_left 1
                · (simp only [Act.put, List.setIfInBounds_toArray, List.set_cons_zero, List.set_cons_succ]; try rfl)
                refine skipH (i := 43) (a' := ?_) ({ dst := some 115, op := Op.call { callee := Callee.value (Operand.func 14), args := #[Operand.tmp 109, Operand.tmp 114], argTypes := #[24, 3] }, type := 4, pos := "law.go:118", after := #[{ on := 37, ground := Ground.data }, { on := 42, ground := Ground.data }, { on := 36, ground := Ground.chain }, { on := 36, ground := Ground.guard }], guard := some (36, true) }) rfl (by kernel_rfl) (by kernel_rfl) (by kernel_rfl) (fun _ _ _ h => h) (by rfl) (by assumption) ?_ ?_
                rotate_left 1
                · (simp only [Act.put, List.setIfInBounds_toArray, List.set_cons_zero, List.set_cons_succ]; try rfl)
                refine skipH (i := 44) (a' := ?_) ({ dst := some 116, op := Op.move (Operand.tmp 13), type := 3, pos := "law.go:118", after := #[{ on := 36, ground := Ground.guard }], guard := some (36, true) }) rfl (by kernel_rfl) (by kernel_rfl) (by kernel_rfl) (fun _ _ _ h => h) (by rfl) (by assumption) ?_ ?_
                rotate_left 1
                · (simp only [Act.put, List.setIfInBounds_toArray, List.set_cons_zero, List.set_cons_succ]; try rfl)
                refine skipH (i := 45) (a' := ?_) ({ dst := some 117, op := Op.binOp BinOp.geq 3 (Operand.tmp 116) (Operand.const (Value.int IntKind.i64 0)) 3, type := 4, pos := "law.go:118", after := #[{ on := 44, ground := Ground.data }, { on := 36, ground := Ground.guard }], guard := some (36, true) }) rfl (by kernel_rfl) (by kernel_rfl) (by kernel_rfl) (fun _ _ _ h => h) (by rfl) (by assumption) ?_ ?_
                rotate_left 1
                · (simp only [Act.put, List.setIfInBounds_toArray, List.set_cons_zero, List.set_cons_succ]; try rfl)
                refine skipH (i := 46) (a' := ?_) ({ dst := some 118, op := Op.binOp BinOp.neq 4 (Operand.tmp 115) (Operand.tmp 117) 4, type := 4, pos := "law.go:118", after := #[{ on := 43, ground := Ground.data }, { on := 45, ground := Ground.data }, { on := 36, ground := Ground.guard }], guard := some (36, true) }) rfl (by kernel_rfl) (by kernel_rfl) (by kernel_rfl) (fun _ _ _ h => h) (by rfl) (by assumption) ?_ ?_
                rotate_left 1
                · (simp only [Act.put, List.setIfInBounds_toArray, List.set_cons_zero, List.set_cons_succ]; try rfl)
                refine takeH (i := 47) (v := .bool false) (a' := ?_) ({ dst := some 119, op := Op.pick (Operand.tmp 108) (Operand.tmp 118) (Operand.const (Value.bool false)), type := 4, pos := "law.go:118", after := #[{ on := 36, ground := Ground.data }, { on := 46, ground := Ground.data }, { on := 20, ground := Ground.guard }], guard := some (20, false) }) rfl (by kernel_rfl) (by kernel_rfl) (by kernel_rfl) (fun _ _ _ h => h) (by rfl) ?_ (by assumption) ?_ ?_
                rotate_left 1
                · (intro w' hSw; obtain ⟨s0, s1, s2, s3, s4⟩ := hSw; go_simp; try rfl)
                · (simp only [Act.put, List.setIfInBounds_toArray, List.set_cons_zero, List.set_cons_succ]; try rfl)
                refine takeH (i := 48) (v := .bool false) (a' := ?_) ({ dst := some 120, op := Op.pick (Operand.tmp 92) (Operand.const (Value.bool true)) (Operand.tmp 119), type := 4, pos := "law.go:118", after := #[{ on := 20, ground := Ground.data }, { on := 47, ground := Ground.data }], guard := none }) rfl (by kernel_rfl) (by kernel_rfl) (by kernel_rfl) (fun _ _ _ h => h) (by rfl) ?_ (by assumption) ?_ ?_
                rotate_left 1
                · (intro w' hSw; obtain ⟨s0, s1, s2, s3, s4⟩ := hSw; go_simp; try rfl)
                · (simp only [Act.put, List.setIfInBounds_toArray, List.set_cons_zero, List.set_cons_succ]; try rfl)
                refine wpAnyH_done (by kernel_rfl) ?_ _
                refine NoPanic.normal ?_
                go_wp2_with fail
                go_meet
                case rel => exact ⟨rfl, b7.out⟩
          case rest =>
            obtain ⟨rfl, hb9⟩ := hcut
            have hls9 := hid (hls2.out wc hb9.out)
            clear hto hha E1 hls2 hb9 hcb x0 x1 f0 f1 f2 f3 f4 f5 hcr
            go_wp2_with fail
            go_roundw
            case rel => exact ⟨j + 1, R', by omega, by omega, by go_num, hls9.out⟩
            case measure => simp [intOf]; omega
    · have hex : (decide ((j : Int) < (m : Int)) = false ∧ decide (j < m) = false) ∨ ((decide ((j : Int) < (m : Int)) = true ∧ decide (j < m) = true) ∧ (decide ((j : Int) < 60) = false ∧ decide (j < 60) = false)) := by
        by_cases h1 : j < m
        · exact .inr ⟨⟨decide_eq_true (by omega), decide_eq_true h1⟩, decide_eq_false (by omega), decide_eq_false (by omega)⟩
        · exact .inl ⟨decide_eq_false (by omega), decide_eq_false h1⟩
      clear hlt hj hj40 hav hlen hmc hcm
      obtain ⟨wo, hwo⟩ : ∃ wo, wo = wr := ⟨wr, rfl⟩
      subst hwo
      obtain ⟨ad, cap, hbo, hgb, hgl, hbw⟩ := hst.out
      have hto := hid (fun d v' y (hy : Below wo.heap.size wo y) => told_ok (hbo.more hy) d v' (hg.out.below (hbw.trans (hy.mono hbw.size))) (by omega) (by decide))
      have hsz := hid (fun y (hy : Below wo.heap.size wo y) => sizes_ok (hbo.ta.more hy))
      have hF : Hid (∀ y, Below wo.heap.size wo y → y.cell? ⟨w2.heap.size, 0, none⟩ = some (.int .i64 8) ∧ y.cell? ⟨w2.heap.size, 1, none⟩ = some (.slice ad V cap)) := fun y hy => by
        obtain ⟨x0, x1, _, _⟩ := blk2 hgb
        exact ⟨(hy.cell (World.block_lt_of_cell? _ _ x0)).trans x0, (hy.cell (World.block_lt_of_cell? _ _ x1)).trans x1⟩
      have hbw' := hid hbw
      clear hst hbo hgb hbw
      have z1 : ¬ (V = 0) := by omega
      have z2 : ¬ ((V : Int) = 0) := by omega
      rcases hex with ⟨t1, t3⟩ | ⟨⟨t1, t3⟩, t2, t4⟩
      all_goals
        go_wp2_with fail
        clear t1 t3
        try clear t2 t4
        go_loopw [15] (fun s15 wx => ∃ d : Nat, d ≤ 16 ∧ s15 = .int .i64 (d : Int) ∧ Hid (Below wo.heap.size wo wx)) (fun s15 _ => 16 - (intOf s15).toNat)
        case atStart => exact ⟨0, by omega, by go_num, Below.refl _ _⟩
        case round =>
          obtain ⟨d, hd, rfl, hs5⟩ := hrel
          rcases Nat.lt_or_ge d 16 with hdl | hdg
          · have v1 : decide ((d : Int) < 16) = true := decide_eq_true (by omega)
            obtain ⟨x0, x1⟩ := hF.out _ hs5.out
            go_wp2_with fail
            go_region_held3 (fun y => y.cell? ⟨w2.heap.size, 0, none⟩ = some (.int .i64 8) ∧ y.cell? ⟨w2.heap.size, 1, none⟩ = some (.slice ad V cap)) (first | exact ⟨x0, x1⟩ | exact ⟨g0, g1⟩ | go_keep) ((go_at_call 13; refine (hto.out _ _ _ hs5.out.drew).mono ?_; rintro x w6 ⟨rfl, bq⟩; have b6 : Hid (Below wo.heap.size wo w6) := hs5.out.drew.trans (bq.mono hs5.out.size); obtain ⟨g0, g1⟩ := hF.out _ b6.out; clear bq))
            go_wp2_with fail
            go_roundw
            case rel => exact ⟨d + 1, by omega, by go_num, b6.out⟩
            case measure => simp [intOf]; omega
          · obtain rfl : d = 16 := by omega
            have hs7 := hid (hsz.out _ hs5.out)
            go_wp2_with fail
            refine hs7.out.mono ?_
            rintro x w8 ⟨rfl, m8, rfl⟩
            have b8 := hid (hbw'.out.trans ((belowN hs5.out m8).mono hbw'.out.size))
            clear hs7 hs5
            go_wp2_with fail
            refine (sure_ok _).mono ?_
            rintro x w9 ⟨rfl, bq⟩
            have b9 : Hid (Below w.heap.size w w9) := b8.out.trans (bq.mono b8.out.size)
            clear bq
            go_wp2_with fail
            go_ret
            exact ⟨by simp, b9.out⟩

end Go.Proofs.YtdlggnibgnflnaaDoor
