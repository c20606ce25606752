/- The law's 'made', walked. -/
import Derived.Test.YtghpjljnbdjmaaaGreatDoorLs10
import Derived.Deep.RegionLaw
namespace Go.Proofs.YtghpjljnbdjmaaaGreatDoor
open Go.RowKit
set_option linter.unusedVariables false

theorem results_tct {P : Program} {fn : Func} {a p u : Tmp} {ty : TypeId} (h : fn.results = #[.tmp a, .cell p ty, .tmp u]) (tmps : Array Value) (w : World) (g : Nat) (t : TypeId) (cs : Array Value) (fr : Nat × Nat) (d : TypeDesc)
    (hp : tmps.getD p undef = .pointer (some ⟨g, 0, none⟩)) (hg : w.heap[g]? = some (.cells cs t fr))
    (hu : P.underlying ty = some d) (hd : (match d with | .struct _ | .array _ _ => true | _ => false) = true) (hi : (P.info? ty).map (·.size) = some cs.size) :
    (results fn tmps).run P w = .ok (.tuple #[tmps.getD a undef, .agg cs, tmps.getD u undef]) w := by
  have e : (results fn tmps).run P w = ((asAddr (tmps.getD p undef)).run P w).andThen fun b w₁ => ((loadVar ty b).run P w₁).andThen fun v w₂ => .ok (.tuple #[tmps.getD a undef, v, tmps.getD u undef]) w₂ := by
    simp only [results, h]
    simp [Sem.run_bind, Result.andThen]
  rw [e, hp]
  simp [asAddr, run_loadVar_row w g t ty cs fr d hg hu hd hi]

/-- What 'made' makes. -/
def Md (w : World) (x : Ending) (w' : World) : Prop := ∃ (tb V : Nat) (R : Nat → List Nat) (ad : Option Addr) (cap : Nat), x = .returned (.tuple #[.pointer (some ⟨tb, 0, none⟩), .agg #[.int .i64 8, .slice ad V cap], .bool true]) ∧ 1 ≤ V ∧ V ≤ 6 ∧ Bo w' w.heap.size tb (.agg #[.int .i64 8, .slice ad V cap]) V 8 8 R ∧ Below w.heap.size w w'

set_option maxRecDepth 100000 in
set_option maxHeartbeats 4000000 in
theorem made_ok (n : Int) (v : Value) (l : List Ac) (w : World) (hg : Handle w) (hv : AV w v l) :
    Calls Tryz.prog 8 #[.int .i64 n, v] w (Md w) := by
  obtain ⟨V, hV, hV1, hV6⟩ := mod_up n 6 (by decide) (by decide)
  have hlo : 0 < w.heap.size := hg.lt
  have hbz := hid (balloc w (.cells #[.int .i64 0, .slice none 0 0] 27))
  have hz0 := hid (heap_alloc_new w (.cells #[.int .i64 0, .slice none 0 0] 27))
  obtain ⟨wz, hwz⟩ : ∃ wz, w.alloc (.cells #[.int .i64 0, .slice none 0 0] 27) = wz := ⟨_, rfl⟩
  have hzs : wz.heap.size = w.heap.size + 1 := by rw [← hwz]; simp
  rw [hwz] at hbz hz0
  replace hwz := hid hwz
  have hnew := hid (new_ok V 8 wz (by omega) (by omega) (by decide) (by decide))
  have hrn := hid (fun y => rnew_ok 8 V y (by decide) (by omega))
  replace hg := hid (hg.below hbz.out)
  have hav := hid (hv.below hbz.out)
  obtain ⟨sa, m, sc, rfl, hlen, hmc, hcm, _⟩ := hv
  unfold maxLen at hcm
  replace hlen := hid hlen
  replace hzs := hid hzs
  go_enter Tryz.func8, Tryz.ntmps8
  go_upto_region 2 with fail
  try rw [hV]
  try rw [hwz.out]
  clear hV
  go_wp2_with fail
  refine hnew.out.mono ?_
  rintro x w1 ⟨rfl, a1, b1⟩
  replace a1 := hid a1
  replace b1 := hid b1
  clear hnew
  go_wp2_with fail
  refine (hrn.out w1).mono ?_
  rintro x w2 ⟨xv, rfl, hx, b2⟩
  obtain ⟨ad0, cap0, rfl, hls0⟩ := Ls.new (a1.out.more b2) (b1.out.trans (b2.mono b1.out.size)) hx (Nat.le_refl 8)
  replace hls0 := hid hls0
  have hgl : w2.heap.size < (w2.alloc (.cells #[.int .i64 ((8 : Nat) : Int), .slice ad0 V cap0] 27)).heap.size := by simp
  clear b2 hx a1 b1 hrn
  go_wp2_with fail
  obtain ⟨w3, hw3⟩ : ∃ w3, w2.alloc (.cells #[.int .i64 8, .slice ad0 V cap0] 27) = w3 := ⟨_, rfl⟩
  have hls1 : Hid (Ls wz wz.heap.size w2.heap.size V 8 8 (fun _ => []) w3) := by rw [← hw3]; exact hls0
  try rw [hw3]
  clear hls0 hw3 hgl
  go_loopw [11, 12] (fun s11 s12 wr => ∃ (j : Nat) (R : Nat → List Nat), j ≤ m ∧ j ≤ 30 ∧ s11 = .bool true ∧ s12 = .int .i64 (j : Int) ∧ Hid (Ls wz wz.heap.size w2.heap.size V 8 8 R wr)) (fun _ s12 _ => 30 - (intOf s12).toNat)
  case atStart => exact ⟨0, _, by omega, by omega, rfl, by go_num, hls1⟩
  case round =>
    obtain ⟨j, R, hj, hj30, rfl, rfl, hst⟩ := hrel
    clear hls1
    by_cases hlt : j < m ∧ j < 30
    · obtain ⟨q, hq⟩ : ∃ q, l[j]? = some q := ⟨_, List.getElem?_eq_getElem (by rw [hlen.out]; exact hlt.1)⟩
      obtain ⟨ad, cap, hbo, hgb, hgl, hbw⟩ := hst.out
      have hdo := hid (do_ok (hbo.more (Below.refl _ _).drew) q (hg.out.below hbw.drew) (by rw [hzs.out]; omega) hV1 (by omega) (by decide) (by omega))
      obtain ⟨b0, o0, n0, c0, e0, hbl, k0, k1, k2, k3, k4, k5⟩ := hav.out.six hbw hq
      simp only [Value.slice.injEq] at e0
      obtain ⟨rfl, rfl, rfl⟩ := e0
      obtain ⟨x0, x1, _, _⟩ := blk2 hgb
      obtain ⟨qk, qe, qa0, qa1, qb0, qb1⟩ := q
      simp only [] at k0 k1 k2 k3 k4 k5
      have i1 : (0 : Int) ≤ (j : Int) := by omega
      have i2 : (j : Int) < (m : Int) := by omega
      have t1 : decide ((j : Int) < (m : Int)) = true := decide_eq_true (by omega)
      have t2 : decide ((j : Int) < 30) = true := decide_eq_true (by omega)
      have hgb' := hid hgb
      have hbw' := hid hbw
      clear hst hbo hgb hbw hq
      go_upto_region 8 with fail
      go_region_law ((go_simp; refine (hdo.out).mono ?_; rintro x w4 ⟨xv', R', rfl, hbo', hkp⟩; obtain ⟨lv', hxe, ad', cap', hlv, _⟩ := id hbo'.rt; subst hxe; subst hlv; have hg4 := (hkp.keep (k := w2.heap.size) ⟨_, _, hgb'.out⟩ (by decide) (by decide) (by decide)).trans hgb'.out; obtain ⟨m0, m1, m2, m3⟩ := blk2 hg4; have fin := hid (Ls.store hbo' hg4 hgl (hbw'.out.drew.trans (hkp.below hbw'.out.size))); clear hbo' hkp hg4; dsimp only))
      all_goals
        go_wp2_with fail
        go_roundw
        case rel => exact ⟨j + 1, R', by omega, by omega, rfl, by go_num, fin⟩
        case measure => simp [intOf]; omega
    · have hex : (decide ((j : Int) < (m : Int)) = false ∧ decide (j < m) = false) ∨ ((decide ((j : Int) < (m : Int)) = true ∧ decide (j < m) = true) ∧ (decide ((j : Int) < 30) = false ∧ decide (j < 30) = false)) := by
        by_cases h1 : j < m
        · exact .inr ⟨⟨decide_eq_true (by omega), decide_eq_true h1⟩, decide_eq_false (by omega), decide_eq_false (by omega)⟩
        · exact .inl ⟨decide_eq_false (by omega), decide_eq_false h1⟩
      obtain ⟨ad, cap, hbo, hgb, hgl, hbw⟩ := hst.out
      obtain ⟨x0, x1, _, _⟩ := blk2 hgb
      have hzb : wr.heap[w.heap.size]? = some (.cells #[.int .i64 0, .slice none 0 0] 27 (0, 0)) := (hbw.block _ (by rw [hzs.out]; omega)).trans hz0.out
      obtain ⟨y0, y1, y2, y3⟩ := blk2 hzb
      have hb2 : Below w.heap.size w wr := hbz.out.trans (hbw.mono hbz.out.size)
      have hne : w2.heap.size ≠ w.heap.size := by have := hzs.out; omega
      have fin : Hid (Md w (.returned (.tuple #[.pointer (some ⟨wz.heap.size, 0, none⟩), .agg #[.int .i64 8, .slice ad V cap], .bool true])) ((wr.setCell ⟨w.heap.size, 0, none⟩ (.int .i64 8)).setCell ⟨w.heap.size, 1, none⟩ (.slice ad V cap)).drew) := by
        have hb3 := below2 hb2 (Nat.le_refl _) (.int .i64 8) (.slice ad V cap)
        have hd := (Below.refl ((wr.setCell ⟨w.heap.size, 0, none⟩ (.int .i64 8)).setCell ⟨w.heap.size, 1, none⟩ (.slice ad V cap)).heap.size ((wr.setCell ⟨w.heap.size, 0, none⟩ (.int .i64 8)).setCell ⟨w.heap.size, 1, none⟩ (.slice ad V cap))).drew
        exact hid ⟨wz.heap.size, V, R, ad, cap, rfl, hV1, by omega, Bo.more ⟨(hbo.ta.set2 ⟨_, _, hzb⟩ _ _).down (by rw [hzs.out]; omega), hbo.rt.al (set2_al hzb _ _), hbo.tn, hbo.tw, hbo.le⟩ hd, hb3.drew⟩
      have hcl : Hid (((wr.setCell ⟨w.heap.size, 0, none⟩ (.int .i64 8)).setCell ⟨w.heap.size, 1, none⟩ (.slice ad V cap)).drew.heap[w.heap.size]? = some (.cells #[.int .i64 8, .slice ad V cap] 27 (0, 0))) := hid (set2_block hzb _ _)
      clear hlt hj hj30 hav hlen hmc hcm hst hbo hgb hbw hzb hb2 hgl
      rcases hex with ⟨t1, t3⟩ | ⟨⟨t1, t3⟩, t2, t4⟩
      all_goals
        go_wp2_with fail
        go_region
        all_goals
          go_wp2_with fail
          refine bodyPost_ret (results_tct rfl _ _ w.heap.size 27 _ (0, 0) _ rfl hcl.out Tryz.underlying27 rfl (by kernel_rfl)) rfl ?_
          exact fin.out
end Go.Proofs.YtghpjljnbdjmaaaGreatDoor
