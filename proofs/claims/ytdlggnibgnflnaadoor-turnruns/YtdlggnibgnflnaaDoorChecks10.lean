/- 'TurnChecks', walked. -/
import Derived.Test.YtdlggnibgnflnaaDoorLs10
import Derived.Deep.RegionLaw
namespace Go.Proofs.YtdlggnibgnflnaaDoor
open Go.RowKit
set_option linter.unusedVariables false

/-- What the loads of a round ask: the variable's two cells, the act's six. -/
theorem eight {w y : World} {v : Value} {l : List Ac} {j g b o n cap : Nat} {k e a0 a1 b0 b1 : Int} {x0 x1 : Value} (hav : AV w v l) (hq : l[j]? = some ⟨k, e, a0, a1, b0, b1⟩) (hv : v = .slice (some ⟨b, o, none⟩) n cap) (hb : Below w.heap.size w y) (hg : y.heap[g]? = some (.cells #[x0, x1] 31 (0, 0))) :
    y.cell? ⟨g, 0, none⟩ = some x0 ∧ y.cell? ⟨g, 1, none⟩ = some x1 ∧ y.cell? ⟨b, o + j * 6, none⟩ = some (.int .i64 k) ∧ y.cell? ⟨b, o + j * 6 + 1, none⟩ = some (.int .i64 e) ∧ y.cell? ⟨b, o + j * 6 + 2, none⟩ = some (.int .i64 a0) ∧ y.cell? ⟨b, o + j * 6 + 3, none⟩ = some (.int .i64 a1) ∧ y.cell? ⟨b, o + j * 6 + 4, none⟩ = some (.int .i64 b0) ∧ y.cell? ⟨b, o + j * 6 + 5, none⟩ = some (.int .i64 b1) := by
  obtain ⟨b', o', n', c', e0, _, k0, k1, k2, k3, k4, k5⟩ := hav.six hb hq
  rw [hv] at e0
  simp only [Value.slice.injEq, Option.some.injEq, Addr.mk.injEq] at e0
  obtain ⟨⟨rfl, rfl, _⟩, _⟩ := e0
  obtain ⟨y0, y1, _, _⟩ := blk2 hg
  exact ⟨y0, y1, k0, k1, k2, k3, k4, k5⟩

abbrev zt : Obj := .cells #[.int .i64 0, .slice none 0 0] 31 (0, 0)

/-- Behind the region: the new value in a variable of its own. -/
def Yd (w : World) (tb g V E F P : Nat) (x0 x1 : Value) (wx : World) : Prop := ∃ R' ad' cap', Bo wx w.heap.size tb (.agg #[.int .i64 (F : Int), .slice ad' V cap']) V E F R' ∧ wx.heap[g]? = some (.cells #[x0, x1] 31 (0, 0)) ∧ wx.heap[P]? = some (.cells #[.int .i64 (F : Int), .slice ad' V cap'] 31 (0, 0)) ∧ Below w.heap.size w wx

theorem Yd.set {w y : World} {tb g V E F P : Nat} {x0 x1 u v : Value} {R' : Nat → List Nat} {ad' : Option Addr} {cap' : Nat} (hbo : Bo y w.heap.size tb (.agg #[.int .i64 (F : Int), .slice ad' V cap']) V E F R') (hg : y.heap[g]? = some (.cells #[x0, x1] 31 (0, 0))) (hP : y.heap[P]? = some (.cells #[u, v] 31 (0, 0))) (hne : g ≠ P) (hl : w.heap.size ≤ P) (hb : Below w.heap.size w y) : Yd w tb g V E F P x0 x1 ((y.setCell ⟨P, 0, none⟩ (.int .i64 (F : Int))).setCell ⟨P, 1, none⟩ (.slice ad' V cap')) :=
  ⟨R', ad', cap', ⟨hbo.ta.set2 ⟨_, _, hP⟩ _ _, hbo.rt.al (set2_al hP _ _), hbo.tn, hbo.tw, hbo.le⟩, by rw [Below.heap_setCell _ _ _ _ hne, Below.heap_setCell _ _ _ _ hne]; exact hg, set2_block hP _ _, below2 hb hl _ _⟩

theorem Yd.alloc {w y : World} {tb g V E F : Nat} {x0 x1 : Value} {R' : Nat → List Nat} {ad' : Option Addr} {cap' : Nat} (hbo : Bo y w.heap.size tb (.agg #[.int .i64 (F : Int), .slice ad' V cap']) V E F R') (hg : y.heap[g]? = some (.cells #[x0, x1] 31 (0, 0))) (hb : Below w.heap.size w y) : Yd w tb g V E F y.heap.size x0 x1 (y.alloc (.cells #[.int .i64 (F : Int), .slice ad' V cap'] 31)) :=
  ⟨R', ad', cap', hbo.more (balloc _ _), al_keep hg, heap_alloc_new _ _, hb.alloc hb.size _⟩

set_option maxRecDepth 100000 in
set_option maxHeartbeats 4000000 in
theorem checks_law (n : Int) (v : Value) (l : List Ac) (c0 c1 : Int) (w : World) (hg : Handle w) (hv : AV w v l) :
    Calls Tryd.prog 4 #[.int .i64 n, v, .agg #[.int .i64 c0, .int .i64 c1]] w fun x w' => x = .returned (.bool true) ∧ Below w.heap.size w w' := by
  obtain ⟨V, hV, hV1, hV6⟩ := mod_up n 6 (by decide) (by decide)
  have hlo : 0 < w.heap.size := hg.lt
  have hav := hid hv
  obtain ⟨sa, m, sc, rfl, hlen, hmc, hcm, _⟩ := hv
  unfold maxLen at hcm
  replace hlen := hid hlen
  replace hg := hid hg
  have hbb := hid (balloc w (.cells #[.int .i64 c0, .int .i64 c1] 35))
  have hpb := hid (heap_alloc_new w (.cells #[.int .i64 c0, .int .i64 c1] 35))
  obtain ⟨w0, hw0⟩ : ∃ w0, w.alloc (.cells #[.int .i64 c0, .int .i64 c1] 35) = w0 := ⟨_, rfl⟩
  rw [hw0] at hbb hpb
  have hnew := hid (new_ok V 8 w0 (by omega) (by omega) (by decide) (by decide))
  have hrn := hid (fun y => rnew_ok 8 V y (by decide) (by omega))
  replace hw0 := hid hw0
  go_enter Tryd.func4, Tryd.ntmps4
  go_upto_region 2 with fail
  try rw [hV]
  rw [hw0.out]
  clear hV hw0
  go_wp2_with fail
  refine hnew.out.mono ?_
  rintro x w1 ⟨rfl, a1, b1⟩
  replace a1 := hid (a1.down (lo' := w.heap.size) hbb.out.size)
  have hp1 := hid ((b1.block _ (Array.getElem?_eq_some_iff.1 hpb.out).1).trans hpb.out)
  replace b1 : Hid (Below w.heap.size w w1) := hbb.out.trans (b1.mono hbb.out.size)
  clear hnew
  go_wp2_with fail
  refine (hrn.out w1).mono ?_
  rintro x w2 ⟨xv, rfl, hx, b2⟩
  obtain ⟨ad0, cap0, rfl, hls0⟩ := Ls.new (a1.out.more b2) (b1.out.trans (b2.mono b1.out.size)) hx (Nat.le_refl 8)
  replace hls0 := hid hls0
  have hp2 := hid (al_keep (o' := .cells #[.int .i64 8, .slice ad0 V cap0] 31) ((b2.block _ (Array.getElem?_eq_some_iff.1 hp1.out).1).trans hp1.out))
  have hwg0 : w.heap.size ≠ w2.heap.size := by have h1 := (Array.getElem?_eq_some_iff.1 hp1.out).1; have h2 := b2.size; omega
  clear b2 hx a1 b1 hrn hp1 hpb
  go_wp2_with fail
  obtain ⟨w3, hw3⟩ : ∃ w3, w2.alloc (.cells #[.int .i64 8, .slice ad0 V cap0] 31) = w3 := ⟨_, rfl⟩
  have hls1 : Hid (Ls w w0.heap.size w2.heap.size V 8 8 (fun _ => []) w3) := by rw [← hw3]; exact hls0
  rw [hw3] at hp2
  try rw [hw3]
  clear hls0 hw3
  go_loopw [11, 12, 13] (fun s11 _ _ wr => ∃ (j : Nat) (R : Nat → List Nat), j ≤ m ∧ j ≤ 30 ∧ s11 = .int .i64 (j : Int) ∧ Hid (Ls w w0.heap.size w2.heap.size V 8 8 R wr ∧ wr.heap[w.heap.size]? = some (.cells #[.int .i64 c0, .int .i64 c1] 35 (0, 0)))) (fun s11 _ _ _ => 30 - (intOf s11).toNat)
  case atStart => exact ⟨0, _, by omega, by omega, by go_num, hls1.out, hp2.out⟩
  case round =>
    obtain ⟨j, R, hj, hj40, rfl, hst⟩ := hrel
    clear hls1 hp2
    by_cases hlt : j < m ∧ j < 30
    · obtain ⟨q, hq⟩ : ∃ q, l[j]? = some q := ⟨_, List.getElem?_eq_getElem (by rw [hlen.out]; exact hlt.1)⟩
      obtain ⟨ad, cap, hbo, hgb, hgl, hbw⟩ := hst.out.1
      have hpb := hid hst.out.2
      have hdo := hid (fun y (hy : Below wr.heap.size wr y) => do_ok (hbo.more hy) q (hg.out.below (hbw.trans (hy.mono hbw.size))) hlo hV1 (by omega) (by decide) (by omega))
      obtain ⟨b0, o0, n0, c0', e0, hbl, k0, k1, k2, k3, k4, k5⟩ := hav.out.six hbw hq
      simp only [Value.slice.injEq] at e0
      obtain ⟨rfl, rfl, rfl⟩ := e0
      obtain ⟨qk, qe, qa0, qa1, qb0, qb1⟩ := q
      clear k0 k1 k2 k3 k4 k5
      have hglt : w2.heap.size < wr.heap.size := (Array.getElem?_eq_some_iff.1 hgb).1
      have i1 : (0 : Int) ≤ (j : Int) := by omega
      have i2 : (j : Int) < (m : Int) := by omega
      have t1 : decide ((j : Int) < (m : Int)) = true := decide_eq_true (by omega)
      have t2 : decide ((j : Int) < 30) = true := decide_eq_true (by omega)
      have hq' := hid hq
      have hgb' := hid hgb
      have hbw' := hid hbw
      have hwl := hbw.size
      clear hst hbo hgb hbw hq
      go_upto_region 9 with fail
      go_cut [12, 13] from 42 to 51 (fun s12 s13 wx => ∃ P, s12 = .pointer (some ⟨P, 0, none⟩) ∧ s13 = .bool true ∧ Hid (w.heap.size ≤ P ∧ P ≠ w2.heap.size ∧ Yd w w0.heap.size w2.heap.size V 8 8 P (.int .i64 8) (.slice ad V cap) wx ∧ wx.heap[w.heap.size]? = some (.cells #[.int .i64 c0, .int .i64 c1] 35 (0, 0))))
      case first =>
        have E0 := hid (fun (y : World) (hb : Below w.heap.size w y) (hg : y.heap[w2.heap.size]? = some (.cells #[.int .i64 8, .slice ad V cap] 31 (0, 0))) => eight hav.out hq'.out rfl hb hg)
        go_region_held3 (fun y => y.cell? ⟨w2.heap.size, 0, none⟩ = some (.int .i64 8) ∧ y.cell? ⟨w2.heap.size, 1, none⟩ = some (.slice ad V cap) ∧ y.cell? ⟨b0, o0 + j * 6, none⟩ = some (.int .i64 qk) ∧ y.cell? ⟨b0, o0 + j * 6 + 1, none⟩ = some (.int .i64 qe) ∧ y.cell? ⟨b0, o0 + j * 6 + 2, none⟩ = some (.int .i64 qa0) ∧ y.cell? ⟨b0, o0 + j * 6 + 3, none⟩ = some (.int .i64 qa1) ∧ y.cell? ⟨b0, o0 + j * 6 + 4, none⟩ = some (.int .i64 qb0) ∧ y.cell? ⟨b0, o0 + j * 6 + 5, none⟩ = some (.int .i64 qb1))
          (first | exact E0.out wr.drew hbw'.out.drew hgb'.out | exact E0.out _ hbw'.out.drew hgb'.out | exact E0.out _ (hbw'.out.drew.alloc hwl _) (al_keep (y := wr.drew) hgb'.out) | exact E0.out _ hb4.out hg4.out | exact E0.out _ (hb4.out.alloc hb4.out.size _) (al_keep hg4.out) | exact E0.out _ (below2 hb4.out (by omega) _ _) (by rw [Below.heap_setCell _ _ _ _ (by show w2.heap.size ≠ wr.heap.size; omega), Below.heap_setCell _ _ _ _ (by show w2.heap.size ≠ wr.heap.size; omega)]; exact hg4.out) | exact E0.out _ (below2 (hb4.out.alloc hb4.out.size _) hb4.out.size _ _) (by rw [Below.heap_setCell _ _ _ _ (by show w2.heap.size ≠ w4.heap.size; omega), Below.heap_setCell _ _ _ _ (by show w2.heap.size ≠ w4.heap.size; omega)]; exact al_keep hg4.out) | go_keep)
          ((go_at_call 11; refine (hdo.out _ (by first | exact (Below.refl _ _).drew | exact (Below.refl _ _).drew.alloc (Nat.le_refl _) _)).mono ?_; rintro x w4 ⟨xv', R', rfl, hbo', hkp⟩; obtain ⟨lv', hxe, ad', cap', hlv, _⟩ := id hbo'.rt; subst hxe; subst hlv; have hg4 := hid ((hkp.keep (k := w2.heap.size) ⟨_, _, (by first | exact hgb'.out | exact al_keep (y := wr.drew) hgb'.out)⟩ (by decide) (by decide) (by decide)).trans (by first | exact hgb'.out | exact al_keep (y := wr.drew) hgb'.out)); have hp4 := hid ((hkp.keep (k := w.heap.size) ⟨_, _, (by first | exact hpb.out | exact al_keep (y := wr.drew) hpb.out)⟩ (by decide) (by decide) (by decide)).trans (by first | exact hpb.out | exact al_keep (y := wr.drew) hpb.out)); have hb4 : Hid (Below w.heap.size w w4) := Below.trans (by first | exact hbw'.out.drew | exact hbw'.out.drew.alloc hwl _) (hkp.below (by first | exact hwl | (simp; omega))); have hz4 := hkp.size; try simp at hz4; (first | (have hP4 := (hkp.keep (k := wr.heap.size) ⟨_, _, heap_alloc_new wr.drew (.cells #[.int .i64 0, .slice none 0 0] 31)⟩ (by decide) (by decide) (by decide)).trans (heap_alloc_new wr.drew (.cells #[.int .i64 0, .slice none 0 0] 31)); obtain ⟨z0, z1, z2, z3⟩ := blk2 hP4; replace hP4 := hid hP4) | skip); replace hbo' := hid hbo'; clear hkp))
        all_goals
          go_wp2_with fail
          go_meet
          case rel => first
            | exact ⟨w4.heap.size, rfl, rfl, hb4.out.size, (by omega), Yd.alloc hbo'.out hg4.out hb4.out, al_keep hp4.out⟩
            | exact ⟨wr.heap.size, rfl, rfl, hwl, (by omega), Yd.set hbo'.out hg4.out hP4.out (by omega) hwl hb4.out, by rw [Below.heap_setCell _ _ _ _ (by show w.heap.size ≠ wr.heap.size; omega), Below.heap_setCell _ _ _ _ (by show w.heap.size ≠ wr.heap.size; omega)]; exact hp4.out⟩
      case rest =>
        obtain ⟨P, rfl, rfl, hst'⟩ := hcut
        obtain ⟨hP1, hP2, ⟨R', ad', cap', hbo', hg', hP', hb'⟩, hpp⟩ := hst'.out
        obtain ⟨z0, z1, _, _⟩ := blk2 hP'
        obtain ⟨y0, y1, y2, y3⟩ := blk2 hg'
        have hwg : w.heap.size ≠ w2.heap.size := hwg0
        have fin := hid (And.intro (Ls.store hbo' hg' hgl hb') (show ((wc.setCell ⟨w2.heap.size, 0, none⟩ (.int .i64 ((8 : Nat) : Int))).setCell ⟨w2.heap.size, 1, none⟩ (.slice ad' V cap')).heap[w.heap.size]? = some (.cells #[.int .i64 c0, .int .i64 c1] 35 (0, 0)) by rw [Below.heap_setCell _ _ _ _ hwg, Below.heap_setCell _ _ _ _ hwg]; exact hpp))
        clear hst' hbo' hg' hP' hb' hpp hdo hgb' hbw' hpb
        go_wp2_with fail
        go_roundw
        case rel => exact ⟨j + 1, R', by omega, by omega, by go_num, fin.out⟩
        case measure => simp [intOf]; omega
    · have hex : (decide ((j : Int) < (m : Int)) = false ∧ decide (j < m) = false) ∨ ((decide ((j : Int) < (m : Int)) = true ∧ decide (j < m) = true) ∧ (decide ((j : Int) < 30) = false ∧ decide (j < 30) = false)) := by
        by_cases h1 : j < m
        · exact .inr ⟨⟨decide_eq_true (by omega), decide_eq_true h1⟩, decide_eq_false (by omega), decide_eq_false (by omega)⟩
        · exact .inl ⟨decide_eq_false (by omega), decide_eq_false h1⟩
      clear hlt hj hj40 hav hlen hmc hcm
      obtain ⟨⟨ad, cap, hbo, hgb, hgl, hbw⟩, hpp⟩ := hst.out
      obtain ⟨c, r, hcr, hc1, hc2⟩ := both_check hbo c0 c1 (by decide) (by omega)
      have hnum := hid (fun y hy => num_any r c y hy (by rcases hcr with h | h; exact .inl ⟨h.1, h.2.1⟩; exact .inr h))
      obtain ⟨p0, p1, _, _⟩ := blk2 hpp
      obtain ⟨x0, x1, _, _⟩ := blk2 hgb
      have hta := hid hbo.ta
      replace hc1 := hid hc1
      replace hc2 := hid hc2
      have hF : Hid (∀ y, Below wr.heap.size wr y → y.cell? ⟨w.heap.size, 0, none⟩ = some (.int .i64 c0) ∧ y.cell? ⟨w.heap.size, 1, none⟩ = some (.int .i64 c1) ∧ y.cell? ⟨w2.heap.size, 0, none⟩ = some (.int .i64 8) ∧ y.cell? ⟨w2.heap.size, 1, none⟩ = some (.slice ad V cap)) := fun y hy => ⟨(hy.cell (World.block_lt_of_cell? _ _ p0)).trans p0, (hy.cell (World.block_lt_of_cell? _ _ p1)).trans p1, (hy.cell (World.block_lt_of_cell? _ _ x0)).trans x0, (hy.cell (World.block_lt_of_cell? _ _ x1)).trans x1⟩
      have hbw' := hid hbw
      clear hst hbo hgb hbw hpp hcr
      rcases hex with ⟨t1, t3⟩ | ⟨⟨t1, t3⟩, t2, t4⟩
      all_goals
        go_wp2_with fail
        go_region_held3 (fun y => y.cell? ⟨w.heap.size, 0, none⟩ = some (.int .i64 c0) ∧ y.cell? ⟨w.heap.size, 1, none⟩ = some (.int .i64 c1) ∧ y.cell? ⟨w2.heap.size, 0, none⟩ = some (.int .i64 8) ∧ y.cell? ⟨w2.heap.size, 1, none⟩ = some (.slice ad V cap)) (first | exact hF.out _ (Below.refl _ _).drew | exact hF.out _ b5.out | exact hF.out _ b6.out | exact hF.out _ b7.out | exact hF.out _ b8.out | go_keep) ((first
          | (go_at_call 18; refine (hc2.out _ (hta.out.more (Below.refl _ _).drew)).mono ?_; rintro x w5 ⟨rfl, bq⟩; have b5 : Hid (Below wr.heap.size wr w5) := (Below.refl _ _).drew.trans bq; clear bq)
          | (go_at_call 17; refine (hnum.out w5 (hg.out.below (hbw'.out.trans (b5.out.mono hbw'.out.size)))).mono ?_; rintro x w6 ⟨rfl, bq⟩; have b6 : Hid (Below wr.heap.size wr w6) := b5.out.trans (bq.mono b5.out.size); clear bq)
          | (go_at_call 19; refine (hc1.out w6 b6.out).mono ?_; rintro x w7 ⟨rfl, bq⟩; have b7 : Hid (Below wr.heap.size wr w7) := b6.out.trans (bq.mono b6.out.size); clear bq)
          | (go_at_call 16; refine (sure_ok w7).mono ?_; rintro x w8 ⟨rfl, bq⟩; have b8 : Hid (Below wr.heap.size wr w8) := b7.out.trans (bq.mono b7.out.size); clear bq)))
        have hb8 := hid (hbw'.out.trans (b8.out.mono hbw'.out.size))
        go_wp2_with fail
        go_ret
        exact ⟨by simp, hb8.out⟩

end Go.Proofs.YtdlggnibgnflnaaDoor
