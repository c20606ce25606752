/- Where a law's loop stands; 'grown' of the laws, walked. -/
import Derived.Test.YtdmkbcbgjdmgdaaGreatDoorDo14
import Derived.Test.YtdmkbcbgjdmgdaaGreatDoorToldW14
import Derived.Test.YtdmkbcbgjdmgdaaGreatDoorOpen14
namespace Go.Proofs.YtdmkbcbgjdmgdaaGreatDoor
open Go.RowKit
set_option linter.unusedVariables false

/-- The Web, and the document's in the variable's block. -/
def LS (w : World) (wb n bx : Nat) (wr : World) : Prop :=
  ∃ sq tt ky fad F fcap tad T tcap, WQ w.heap.size w wb n 8 sq tt ky wr ∧ Dc n 8 sq tt ky wr (.agg #[.int .i64 (n : Int), .int .i64 8, .slice fad F fcap, .slice tad T tcap]) ∧ wr.heap[bx]? = some (.cells #[.int .i64 (n : Int), .int .i64 8, .slice fad F fcap, .slice tad T tcap] 32 (0, 0)) ∧ w.heap.size ≤ bx

theorem LS.more {w wr w' : World} {wb n bx : Nat} (h : LS w wb n bx wr) (hb : Below wr.heap.size wr w') : LS w wb n bx w' := by
  obtain ⟨sq, tt, ky, fad, F, fcap, tad, T, tcap, h1, h2, h3, h4⟩ := h
  exact ⟨sq, tt, ky, fad, F, fcap, tad, T, tcap, h1.more hb, h2.below hb, Below.web hb h3, h4⟩

theorem LS.below {w wr : World} {wb n bx : Nat} (h : LS w wb n bx wr) : Below w.heap.size w wr := by
  obtain ⟨sq, tt, ky, fad, F, fcap, tad, T, tcap, h1, h2, h3, h4⟩ := h
  exact h1.below

/-- The document's New. -/
theorem doc_new (K : Nat) (ky : Nat → Int) (w : World) (hK1 : 1 ≤ K) (hK : K ≤ 1000) : Calls Tryz.prog 9 #[.int .i64 (K : Int), .int .i64 8] w fun x w' => ∃ fad F fcap, x = .returned (.agg #[.int .i64 (K : Int), .int .i64 8, .slice fad F fcap, .slice none 0 0]) ∧ Dc K 8 one (fun _ => none) ky w' (.agg #[.int .i64 (K : Int), .int .i64 8, .slice fad F fcap, .slice none 0 0]) ∧ Below w.heap.size w w' := by
  refine (Wd.rnew14_ok (K : Int) 8 w (fun y v => Rf y v ((List.range K).map (fun i => [i + 1]))) (fun y y' v k q => q.keepD (.ofKw k)) (fun y hy => ?_)).mono ?_
  · refine (rnew_ok K y hK1 hK).mono ?_
    rintro e w' ⟨x, rfl, hx, hb⟩
    obtain ⟨b, cap, _, _, rfl, _⟩ := id hx
    exact ⟨_, _, _, rfl, hx, hb⟩
  · rintro x w' ⟨fv, rfl, hR, hT, hb⟩
    obtain ⟨b, cap, _, _, rfl, _⟩ := id hR
    exact ⟨_, _, _, rfl, ⟨_, _, _, [], rfl, hR, tie_new K, hT, ⟨fun t ht => (by cases ht), fun e a b q => (by cases q), (by simp)⟩⟩, hb⟩

/-- What 'do' answered, stored into the variable. -/
theorem LS.put {w w4 : World} {wb n bx : Nat} {sq : Nat → List Nat} {tt : Nat → Option (Nat × Nat)} {ky : Nat → Int} {fad tad : Option Addr} {F fcap T tcap : Nat} {u0 u1 u2 u3 : Value} (h : WQ w.heap.size w wb n 8 sq tt ky w4) (d : Dc n 8 sq tt ky w4 (.agg #[.int .i64 (n : Int), .int .i64 8, .slice fad F fcap, .slice tad T tcap])) (hb : w4.heap[bx]? = some (.cells #[u0, u1, u2, u3] 32 (0, 0))) (hl : w.heap.size ≤ bx) : LS w wb n bx (put4 w4 bx (.int .i64 (n : Int)) (.int .i64 8) (.slice fad F fcap) (.slice tad T tcap)) := by
  obtain ⟨o, kv⟩ := put4_keep hb (.int .i64 (n : Int)) (.int .i64 8) (.slice fad F fcap) (.slice tad T tcap)
  exact ⟨sq, tt, ky, fad, F, fcap, tad, T, tcap, h.ofV kv (Wd.below4 (Below.refl _ _) hl _ _ _ _), d.keepD (.ofV kv), Wd.set4_block hb _ _ _ _, hl⟩

/-- From another world on. -/
theorem WQ.ofVB {lo wb n m : Nat} {w w1 w0 w' : World} {sq : Nat → List Nat} {tt : Nat → Option (Nat × Nat)} {ky : Nat → Int} (h : WQ lo w wb n m sq tt ky w0) (k : KeepV w0 w') (hb : Below lo w1 w') (hl : lo ≤ w1.heap.size) : WQ lo w1 wb n m sq tt ky w' := by
  obtain ⟨seq, h1, h2, rb, fb, cb, N, vz, v, ⟨hm, hr, hc⟩, h5⟩ := h
  refine ⟨seq, h1, h2, rb, fb, cb, N, vz, v, ⟨?_, ?_, ?_⟩, h5⟩
  · obtain ⟨tv, T, q1, q2, q3⟩ := hm.st
    exact ⟨hm.lw, tv, T, k _ _ _ _ q1 (by decide), row_of q2 (fun b cs hb => k _ _ _ _ hb (by decide)), q3⟩
  · obtain ⟨nb, M, T, sub, f1, f2, f3, f4⟩ := hr.fs.st
    exact ⟨⟨⟨nb, M, T, sub, ⟨k _ _ _ _ f1.self (by decide), k _ _ _ _ f1.nodes (by decide), f1.big⟩, f2, f3, f4⟩, hr.fs.flo, hb, hr.fs.n1, hr.fs.n2, hl⟩, k _ _ _ _ hr.rb (by decide)⟩
  · obtain ⟨nb, M, T, sub, seq, pp, par, f1, f2, f3, f4, f5⟩ := hc.st
    exact ⟨⟨nb, M, T, sub, seq, pp, par, ⟨k _ _ _ _ f1.self (by decide), k _ _ _ _ f1.nodes (by decide), f1.big⟩, f2, f3, f4, f5⟩, hc.flo, hb, hc.n1, hc.n2, hl⟩

theorem put4_size (w : World) (g : Nat) (a b c d : Value) : (put4 w g a b c d).heap.size = w.heap.size := by
  unfold put4 World.setCell
  simp

/-- The same stored in both. -/
theorem below_put4 {lo g : Nat} {w w' : World} {u0 u1 u2 u3 : Value} {t : TypeId} (h : Below lo w w') (hw : w.heap[g]? = some (.cells #[u0, u1, u2, u3] t (0, 0))) (hg : g < lo) (a b c d : Value) : Below lo (put4 w g a b c d) (put4 w' g a b c d) := by
  have hw' := (h.block g hg).trans hw
  refine ⟨h.os, h.tape, h.output, by rw [put4_size, put4_size]; exact h.size, fun k hk => ?_⟩
  by_cases q : k = g
  · rw [q]
    exact (Wd.set4_block hw' a b c d).trans (Wd.set4_block hw a b c d).symm
  · unfold put4
    rw [Below.heap_setCell _ _ _ _ q, Below.heap_setCell _ _ _ _ q, Below.heap_setCell _ _ _ _ q, Below.heap_setCell _ _ _ _ q, Below.heap_setCell _ _ _ _ q, Below.heap_setCell _ _ _ _ q, Below.heap_setCell _ _ _ _ q, Below.heap_setCell _ _ _ _ q]
    exact h.block k hk

theorem results_tmpcell {P : Program} {fn : Func} {p u : Tmp} {ty : TypeId} (h : fn.results = #[.tmp u, .cell p ty]) (tmps : Array Value) (w : World) (g : Nat) (t : TypeId) (cs : Array Value) (fr : Nat × Nat) (d : TypeDesc)
    (hp : tmps.getD p undef = .pointer (some ⟨g, 0, none⟩)) (hg : w.heap[g]? = some (.cells cs t fr))
    (hu : P.underlying ty = some d) (hd : (match d with | .struct _ | .array _ _ => true | _ => false) = true) (hi : (P.info? ty).map (·.size) = some cs.size) :
    (results fn tmps).run P w = .ok (.tuple #[tmps.getD u undef, .agg cs]) w := by
  have e : (results fn tmps).run P w = ((asAddr (tmps.getD p undef)).run P w).andThen fun b w₁ => ((loadVar ty b).run P w₁).andThen fun v w₂ => .ok (.tuple #[tmps.getD u undef, v]) w₂ := by
    simp only [results, h]
    simp [Sem.run_bind, Result.andThen]
  rw [e, hp]
  simp [asAddr, run_loadVar_row w g t ty cs fr d hg hu hd hi]

/-- Whether the loop goes on. -/
theorem loop_end {j m N : Nat} (M : Int) (hM : M = (N : Int)) (h : ¬ (j < m ∧ j < N)) : (decide ((j : Int) < (m : Int)) = false ∧ decide (j < m) = false) ∨ ((decide ((j : Int) < (m : Int)) = true ∧ decide (j < m) = true) ∧ (decide ((j : Int) < M) = false ∧ decide (j < N) = false)) := by
  by_cases h1 : j < m
  · exact .inr ⟨⟨decide_eq_true (by omega), decide_eq_true h1⟩, decide_eq_false (by omega), decide_eq_false (by omega)⟩
  · exact .inl ⟨decide_eq_false (by omega), decide_eq_false h1⟩

/-- What 'grown' answers. -/
def Gr (K : Nat) (w : World) (x : Ending) (w' : World) : Prop := ∃ wz wb xv sq tt ky, x = .returned (.tuple #[.pointer (some ⟨wb, 0, none⟩), xv]) ∧ Below w.heap.size w wz ∧ WQ wz.heap.size wz wb K 8 sq tt ky w' ∧ Dc K 8 sq tt ky w' xv ∧ Below w.heap.size w w'

set_option maxRecDepth 100000 in
set_option maxHeartbeats 4000000 in
theorem grown_ok (K : Nat) (ad : Option Addr) (m cap : Nat) (l : List A5) (w : World) (hg : Handle w) (hv : AV5 w (.slice ad m cap) l) (hK1 : 1 ≤ K) (hK : K ≤ 1000) :
    Calls Tryz.prog 26 #[.int .i64 (K : Int), .slice ad m cap] w (Gr K w) := by
  have hbz := hid ((Below.refl w.heap.size w).alloc (Nat.le_refl _) (.cells #[.int .i64 0, .int .i64 0, .slice none 0 0, .slice none 0 0] 32))
  have hz0 := hid (heap_alloc_new w (.cells #[.int .i64 0, .int .i64 0, .slice none 0 0, .slice none 0 0] 32))
  obtain ⟨wz, hwz⟩ : ∃ wz, w.alloc (.cells #[.int .i64 0, .int .i64 0, .slice none 0 0, .slice none 0 0] 32) = wz := ⟨_, rfl⟩
  have hzs : wz.heap.size = w.heap.size + 1 := by rw [← hwz]; simp
  rw [hwz] at hbz hz0
  replace hwz := hid hwz
  have hnew := hid (WQ.new K 8 wz hK1 (by omega) (by omega) (by omega) (fun _ => 0))
  have hrn := hid (fun y => doc_new K (fun _ => 0) y hK1 hK)
  replace hg := hid (hg.below hbz.out)
  have hav := hid (hv.below hbz.out)
  obtain ⟨ad', m', cap', hve, hlen, hmc, hcm, _⟩ := hv
  simp only [Value.slice.injEq] at hve
  obtain ⟨rfl, rfl, rfl⟩ := hve
  unfold maxLen at hcm
  replace hlen := hid hlen
  replace hzs := hid hzs
  go_enter Tryz.func26, Tryz.ntmps26
  go_upto_region 1 with fail
  try rw [hwz.out]
  go_wp2_with fail
  refine hnew.out.mono ?_
  rintro x w1 ⟨wb, rfl, q1⟩
  replace q1 := hid q1
  clear hnew
  go_wp2_with fail
  refine (hrn.out w1).mono ?_
  rintro x w2 ⟨fad0, F0, fcap0, rfl, d2, b2⟩
  have q2 := q1.out.more b2
  have hls : LS wz wb K w2.heap.size (w2.alloc (.cells #[.int .i64 (K : Int), .int .i64 8, .slice fad0 F0 fcap0, .slice none 0 0] 32)) := ⟨_, _, _, _, _, _, _, _, _, q2.alloc _, d2.below ((Below.refl _ _).alloc (Nat.le_refl _) _), heap_alloc_new w2 _, q2.below.size⟩
  replace hls := hid hls
  clear b2 d2 q1 q2 hrn
  go_wp2_with fail
  obtain ⟨w3, hw3⟩ : ∃ w3, w2.alloc (.cells #[.int .i64 (K : Int), .int .i64 8, .slice fad0 F0 fcap0, .slice none 0 0] 32) = w3 := ⟨_, rfl⟩
  rw [hw3] at hls
  try rw [hw3]
  clear hw3
  obtain ⟨bx, hbx⟩ : ∃ bx, w2.heap.size = bx := ⟨_, rfl⟩
  rw [hbx] at hls
  try rw [hbx]
  clear hbx
  go_loopw [9] (fun s9 wr => ∃ j : Nat, j ≤ m ∧ j ≤ 50 ∧ s9 = .int .i64 (j : Int) ∧ Hid (LS wz wb K bx wr)) (fun s9 _ => 50 - (intOf s9).toNat)
  case atStart => exact ⟨0, by omega, by omega, by go_num, hls⟩
  case round =>
    obtain ⟨j, hj, hj50, rfl, hst⟩ := hrel
    clear hls
    by_cases hlt : j < m ∧ j < 50
    · obtain ⟨q, hq⟩ : ∃ q, l[j]? = some q := ⟨_, List.getElem?_eq_getElem (by rw [hlen.out]; exact hlt.1)⟩
      obtain ⟨ok, b0, o0, rfl, hbl, hcells⟩ := hav.out.five (w' := w) hq
      obtain ⟨sq, tt, ky, fad, F, fcap, tad, T, tcap, g1, g2, g3, g4⟩ := hst.out
      obtain ⟨k0, k1, k2, k3, k4⟩ := hcells wr g1.below
      obtain ⟨qk, qa, qb, qe, qv⟩ := q
      obtain ⟨ok1, ok2⟩ := ok
      simp only [] at k0 k1 k2 k3 k4 ok1 ok2
      have hdo := hid (do_ok g1.drew (g2.below (Below.refl _ _).drew) hg.out hK (by omega) qk qa qb qe qv ok1 ok2)
      obtain ⟨x0, x1, x2, x3⟩ := blk4 g3
      have i1 : (0 : Int) ≤ (j : Int) := by omega
      have i2 : (j : Int) < (m : Int) := by omega
      have t1 : decide ((j : Int) < (m : Int)) = true := decide_eq_true (by omega)
      have t2 : decide ((j : Int) < 50) = true := decide_eq_true (by omega)
      have g3' := hid g3
      have g4' := hid g4
      clear hst g1 g2 g3 hq hcells ok1 ok2
      go_upto_region 8 with fail
      go_region_law ((go_simp; refine (hdo.out).mono ?_; rintro x w4 ⟨xv', sq', tt', ky', rfl, h4, d4, k4'⟩; obtain ⟨fad', F', fcap', tad', T', tcap', hxe⟩ := d4.form; subst hxe; have hb4 := k4'.web g3'.out; obtain ⟨⟨m0, m1, m2, m3⟩, n0, n1, n2, n3⟩ := Wd.blk4 hb4; have fin := hid (LS.put h4 d4 hb4 g4'.out); clear h4 d4 k4' hb4; dsimp only))
      all_goals
        go_wp2_with fail
        go_roundw
        case rel => exact ⟨j + 1, by omega, by omega, by go_num, fin⟩
        case measure => simp [intOf]; omega
    · have hex := loop_end 50 rfl hlt
      obtain ⟨sq, tt, ky, fad, F, fcap, tad, T, tcap, g1, g2, g3, g4⟩ := hst.out
      obtain ⟨x0, x1, x2, x3⟩ := blk4 g3
      have hzb : wr.heap[w.heap.size]? = some (.cells #[.int .i64 0, .int .i64 0, .slice none 0 0, .slice none 0 0] 32 (0, 0)) := (g1.below.block _ (by rw [hzs.out]; omega)).trans hz0.out
      obtain ⟨⟨y0, y1, y2, y3⟩, y4, y5, y6, y7⟩ := Wd.blk4 hzb
      obtain ⟨o, kv⟩ := put4_keep hzb (.int .i64 (K : Int)) (.int .i64 8) (.slice fad F fcap) (.slice tad T tcap)
      have hne : bx ≠ w.heap.size := by have := hzs.out; omega
      have fin : Hid (Gr K w (.returned (.tuple #[.pointer (some ⟨wb, 0, none⟩), .agg #[.int .i64 (K : Int), .int .i64 8, .slice fad F fcap, .slice tad T tcap]])) (put4 wr w.heap.size (.int .i64 (K : Int)) (.int .i64 8) (.slice fad F fcap) (.slice tad T tcap)).drew) := by
        have hb2 : Below w.heap.size w wr := hbz.out.trans (g1.below.mono hbz.out.size)
        have hbp := below_put4 g1.below hz0.out (by rw [hzs.out]; omega) (.int .i64 (K : Int)) (.int .i64 8) (.slice fad F fcap) (.slice tad T tcap)
        have hq := (g1.ofVB kv hbp (by rw [put4_size]; exact Nat.le_refl _)).drew
        rw [← put4_size wz w.heap.size (.int .i64 (K : Int)) (.int .i64 8) (.slice fad F fcap) (.slice tad T tcap)] at hq
        exact hid ⟨_, wb, _, sq, tt, ky, rfl, Wd.below4 hbz.out (Nat.le_refl _) _ _ _ _, hq, (g2.keepD (.ofV kv)).below (Below.refl _ _).drew, (Wd.below4 hb2 (Nat.le_refl _) _ _ _ _).drew⟩
      have hcl : Hid ((put4 wr w.heap.size (.int .i64 (K : Int)) (.int .i64 8) (.slice fad F fcap) (.slice tad T tcap)).drew.heap[w.heap.size]? = some (.cells #[.int .i64 (K : Int), .int .i64 8, .slice fad F fcap, .slice tad T tcap] 32 (0, 0))) := hid (Wd.set4_block hzb _ _ _ _)
      clear hlt hj hj50 hav hlen hmc hcm hst g1 g2 g3 hzb kv o
      rcases hex with ⟨t1, t3⟩ | ⟨⟨t1, t3⟩, t2, t4⟩
      all_goals
        go_wp2_with fail
        go_region
        all_goals
          go_wp2_with fail
          refine bodyPost_ret (results_tmpcell rfl _ _ w.heap.size 32 _ (0, 0) _ rfl hcl.out Tryz.underlying32 rfl (by kernel_rfl)) rfl ?_
          exact fin.out
end Go.Proofs.YtdmkbcbgjdmgdaaGreatDoor
