/- 'ArenaRuns', walked. -/
import Derived.Test.YtjkiagjgnfaknaaDoorRefB3
import Derived.Test.YtjkiagjgnfaknaaDoorOpenU3
import Derived.Test.YtjkiagjgnfaknaaDoorRegion
import Derived.Deep.RegionHeld3
import Derived.Deep.CutBlock
namespace Go.Proofs.YtjkiagjgnfaknaaDoor
open Go.RowKit
set_option linter.unusedVariables false

/-- '.. int(uint(z) % 7)'. -/
theorem mod_seven (z : Int) : ∃ m : Nat, wrap64 ((IntKind.u64.wrap z).tmod 7) = (m : Int) ∧ m < 7 := by
  have e : (IntKind.u64.wrap z).tmod 7 = z % 18446744073709551616 % 7 := by
    rw [IntKind.wrap_u64, Int.tmod_eq_emod_of_nonneg (by omega)]
  rw [e]
  refine ⟨(z % 18446744073709551616 % 7).toNat, ?_, by omega⟩
  rw [IntWalk.wrap64_in _ ⟨by omega, by omega⟩]
  omega

/-- Where a round stands: the Arena, the document's places, the act. -/
structure SX (lo hi ab K : Nat) (w1 : World) (ps qs : List (Int × Int)) (bb : Nat) (ad : Option Addr) (cap : Nat) (q : ActU) (xb : Nat) (wr : World) : Prop where
  sr : SR lo hi ab K w1 ps qs bb ad cap wr
  act : wr.heap[xb]? = some (.cells #[.int .i64 q.k, .int .u32 q.a, .int .u32 (q.b : Int), .int .i64 q.v] 39 (0, 0))
  hxb : hi ≤ xb

section
variable {lo hi ab K bb cap xb : Nat} {w1 wr w' : World} {ps ps' qs : List (Int × Int)} {ad : Option Addr} {q : ActU}

theorem SX.turn (h : SX lo hi ab K w1 ps qs bb ad cap q xb wr) (hs : SA lo hi ab K w1 ps' w') (hk : Keep hi wr w') : SX lo hi ab K w1 ps' qs bb ad cap q xb w' :=
  ⟨h.sr.turn hs hk, hk _ _ _ _ h.hxb h.act (by decide), h.hxb⟩

theorem SX.more (h : SX lo hi ab K w1 ps qs bb ad cap q xb wr) (hb : Below wr.heap.size wr w') : SX lo hi ab K w1 ps qs bb ad cap q xb w' := h.turn (h.sr.sa.more hb) (Keep.below hb)

theorem SX.alloc (h : SX lo hi ab K w1 ps qs bb ad cap q xb wr) (o : Obj) : SX lo hi ab K w1 ps qs bb ad cap q xb (wr.alloc o) := h.more ((Below.refl _ _).alloc (Nat.le_refl _) _)

theorem SX.cells (h : SX lo hi ab K w1 ps qs bb ad cap q xb wr) : wr.cell? ⟨xb, 0, none⟩ = some (.int .i64 q.k) ∧ wr.cell? ⟨xb, 1, none⟩ = some (.int .u32 q.a) ∧ wr.cell? ⟨xb, 2, none⟩ = some (.int .u32 (q.b : Int)) ∧ wr.cell? ⟨xb, 3, none⟩ = some (.int .i64 q.v) := by
  refine ⟨?_, ?_, ?_, ?_⟩ <;> (unfold World.cell?; rw [h.act]; simp)
end

set_option maxRecDepth 100000 in
set_option maxHeartbeats 8000000 in
theorem runs_law (n : Int) (ad : Option Addr) (ps : List (Int × Int)) (cap : Nat) (ad2 : Option Addr) (qs : List ActU) (cap2 : Nat) (w : World) (hE : Env w) (h : Prow w ad ps) (h0 : ad = none → cap = 0) (hb : ps.length * 16 ≤ 140737488355328) (hq : ActsU w ad2 qs) :
    Calls Tryd.prog 3 #[.int .i64 n, .slice ad ps.length cap, .slice ad2 qs.length cap2] w fun e w' => e = .returned (.bool true) ∧ Below w.heap.size w w' := by
  obtain ⟨K, hK, hK1, hK2⟩ := mod_up n 20 (by decide) (by decide)
  have hK20 : K ≤ 20 := by omega
  have hl := h.bound
  have hql := hq.bound
  have hEh := hid hE
  have hph := hid h
  replace hq := hid hq
  clear hE h
  go_enter Tryd.func3, Tryd.ntmps3
  go_wp2_with fail
  try rw [hK]
  refine (give_ok ad ps cap _ hph.out hb).mono ?_
  rintro e w1 ⟨ad1, cap1, rfl, hp1, h01, b1⟩
  have hE1 := hid (hEh.out.below b1)
  have hb1 := hid b1
  by_cases hf : Fair K ps
  · have hld := hid (SA.load K ad1 ps cap1 w1 hE1.out.2 hp1 h01 hK1 (by omega) hf)
    have hrl := hid (fun y (hy : Prow y ad ps) => rload_in K ad ps cap y hy hK1 (by omega) hf.le (ra K ad ps.length cap) 0 (fun _ => ⟨rfl, rfl⟩) (fun e => absurd hf e))
    have hfl := hf.le
    have hP1 := hid (hph.out.below b1)
    clear hp1 h01 b1 hf
    go_wp2_with fail
    refine hld.out.mono ?_
    rintro e w2 ⟨ab, rfl, s2⟩
    have s2h := hid s2
    have hP2 := hid (hP1.out.below s2.below)
    clear hld s2
    go_wp2_with fail
    refine (hrl.out _ hP2.out).mono ?_
    rintro e w3 ⟨rfl, b3⟩
    have b3a := b3.alloc b3.size (.cells #[.int .i64 (K : Int), .slice ad ps.length cap] 33)
    have hsz3 := b3.size
    have st3 : Hid (SR w1.heap.size w2.heap.size ab K w1 ps ps w3.heap.size ad cap (w3.alloc (.cells #[.int .i64 (K : Int), .slice ad ps.length cap] 33))) :=
      hid ⟨s2h.out.more b3a, Or.inl hP1.out, h0, heap_alloc_new w3 _, hsz3, rfl⟩
    obtain ⟨lo, hlo⟩ : ∃ lo, w1.heap.size = lo := ⟨_, rfl⟩
    obtain ⟨hi, hhi⟩ : ∃ hi, w2.heap.size = hi := ⟨_, rfl⟩
    obtain ⟨bb, hbb⟩ : ∃ bb, w3.heap.size = bb := ⟨_, rfl⟩
    rw [hlo, hhi, hbb] at st3
    replace hlo := hid hlo
    clear hrl s2h hP2 b3 b3a hsz3
    go_wp2_with fail
    refine (num_nil _).mono ?_
    rintro e w4 ⟨rfl, b4⟩
    have st4 : Hid (∃ ps ad cap, SR lo hi ab K w1 ps ps bb ad cap w4) := hid ⟨ps, ad, cap, st3.out.more b4⟩
    try rw [hbb]
    clear st3 b4 hbb hhi hfl hph hP1 h0 hb hl
    go_wp2_with fail
    go_loopw [12, 13, 14, 15, 16, 17, 18, 19, 20, 21, 22, 23, 24, 25, 26, 27, 102, 125, 158, 167, 177] (fun u _ _ _ _ _ _ _ _ _ _ _ _ _ _ _ _ _ _ _ _ wr => ∃ t : Nat, t ≤ qs.length ∧ t ≤ 200 ∧ u = .int .i64 (t : Int) ∧ Hid (∃ ps ad cap, SR lo hi ab K w1 ps ps bb ad cap wr)) (fun u _ _ _ _ _ _ _ _ _ _ _ _ _ _ _ _ _ _ _ _ _ => 200 - (intOf u).toNat)
    case atStart => exact ⟨0, by omega, by omega, by go_num, st4⟩
    case round =>
      clear st4
      obtain ⟨t, ht1, ht2, rfl, hst⟩ := hrel
      by_cases hgo : t < qs.length ∧ t < 200
      · obtain ⟨hgo1, hgo2⟩ := hgo
        obtain ⟨q, hqt⟩ : ∃ q, qs[t]? = some q := ⟨_, List.getElem?_eq_getElem hgo1⟩
        obtain ⟨ps, ad, cap, h1⟩ := hst.out
        have hrg := hq.out.rng q (List.mem_of_getElem? hqt)
        cases ad2 with
        | none => have := hq.out.nil rfl; subst this; simp at hgo1
        | some a0 =>
          obtain ⟨c0, c1, c2, c3⟩ := (hq.out.below (hb1.out.trans ((hlo.out ▸ h1.sa.below).mono hb1.out.size))).at hqt
          obtain ⟨κ, hκ, hκ7⟩ := mod_seven q.k
          have X1 : SX lo hi ab K w1 ps ps bb ad cap q wr.heap.size (wr.alloc (.cells #[.int .i64 q.k, .int .u32 q.a, .int .u32 (q.b : Int), .int .i64 q.v] 39)) := ⟨h1.alloc _, heap_alloc_new wr _, h1.sa.hiLe.1⟩
          have i1 : (0 : Int) ≤ (t : Int) := by omega
          have i2 : (t : Int) < (qs.length : Int) := by omega
          have hfl := h1.sa.hiLe.2.2.2.2
          obtain ⟨xb, hxb⟩ : ∃ xb, wr.heap.size = xb := ⟨_, rfl⟩
          obtain ⟨wa, hwa⟩ : ∃ wa, wr.alloc (.cells #[.int .i64 q.k, .int .u32 q.a, .int .u32 (q.b : Int), .int .i64 q.v] 39) = wa := ⟨_, rfl⟩
          rw [hxb, hwa] at X1
          obtain ⟨d0, d1, d2, d3⟩ := X1.cells
          obtain ⟨e0, e1⟩ := X1.sr.cells
          replace X1 := hid X1
          clear hqt hst h1
          go_upto_block 2 with fail
          try rw [hwa]
          try rw [hxb]
          clear hwa hxb c0 c1 c2 c3 i1 i2
          obtain ⟨A, hA⟩ : ∃ z, q.a = z := ⟨_, rfl⟩
          obtain ⟨x, hx⟩ : ∃ z, q.b = z := ⟨_, rfl⟩
          obtain ⟨pl, hpl⟩ : ∃ z, q.v = z := ⟨_, rfl⟩
          rw [hA] at d1 hrg
          rw [hx] at d2 hrg
          rw [hpl] at d3
          have HA : Hid (∀ y, SX lo hi ab K w1 ps ps bb ad cap q xb y → y.cell? ⟨xb, 1, none⟩ = some (.int .u32 A) ∧ y.cell? ⟨xb, 2, none⟩ = some (.int .u32 (x : Int)) ∧ y.cell? ⟨xb, 3, none⟩ = some (.int .i64 pl)) := hid (fun y hy => by
            obtain ⟨_, g1, g2, g3⟩ := hy.cells
            rw [hA] at g1; rw [hx] at g2; rw [hpl] at g3
            exact ⟨g1, g2, g3⟩)
          clear hA hx hpl
          go_cut [14, 15, 16, 17, 18, 19, 20, 21, 22, 23, 24, 25, 26, 27] from 50 to 237 (fun _ _ _ _ _ _ _ _ _ _ _ _ _ _ wc => ∃ (ps : List (Int × Int)) (ad : Option Addr) (cap : Nat), Hid (SR lo hi ab K w1 ps ps bb ad cap wc))
          case first =>
            have kinds : κ = 3 ∨ κ = 4 ∨ κ = 5 ∨ κ = 6 ∨ (κ ≠ 3 ∧ κ ≠ 4 ∧ κ ≠ 5 ∧ κ ≠ 6) := by omega
            rcases kinds with rfl | rfl | rfl | rfl | ⟨n3, n4, n5, n6⟩
            iterate 2
              (by_cases hat : atP ps x = (A, 1)
               · as_aux_lemma =>
                   obtain ⟨ps', hps'⟩ : ∃ ps', putP ps x (A, if A = 4294967295 then 2 else 0) = ps' := ⟨_, rfl⟩
                   have hrd := hid (rdrop_hit K ad ps cap A x wa X1.out.sr.prow X1.out.sr.nil hfl (by omega) hat ps' hps')
                   replace hat := hid hat
                   replace hps' := hid hps'
                   go_wp2_with fail
                   refine hrd.out.mono ?_
                   rintro e w3 ⟨ad', cap', rfl, hr, hn, b3⟩
                   have hhi := X1.out.sr.sa.hiLe.1
                   obtain ⟨cb, hcb⟩ : ∃ cb, w3.heap.size = cb := ⟨_, rfl⟩
                   obtain ⟨w4, hw4⟩ : ∃ w4, w3.alloc (.cells #[.int .i64 (K : Int), .slice ad' ps'.length cap'] 33) = w4 := ⟨_, rfl⟩
                   have b34 : Below w3.heap.size w3 w4 := hw4 ▸ (Below.refl _ _).alloc (Nat.le_refl _) _
                   have X4 := hid ((X1.out.more b3).more b34)
                   have r4 : Hid (RP hi w1 w4 ad' ps') := hid (Or.inr ((hr.below b34).mono hhi))
                   have k4 : w4.heap[cb]? = some (.cells #[.int .i64 (K : Int), .slice ad' ps'.length cap'] 33 (0, 0)) := by rw [← hw4, ← hcb]; exact heap_alloc_new w3 _
                   have hcbh : hi ≤ cb := by have := b3.size; omega
                   obtain ⟨f1, f2, f3⟩ := HA.out _ X4.out
                   obtain ⟨m0, m1⟩ := blk2 k4
                   replace k4 := hid k4
                   clear hrd hr b3 b34 d0 d1 d2 d3 e0 e1
                   go_wp2_with fail
                   try rw [hw4]
                   refine (X4.out.sr.sa.drop x hat.out hps'.out).mono ?_
                   rintro e w5 ⟨rfl, s5, g5⟩
                   have X5 := hid (X4.out.turn s5 g5)
                   have r5 := hid (r4.out.keep g5)
                   have k5 := hid (g5 _ _ _ _ hcbh k4.out (by decide))
                   clear X4 r4 k4 s5 g5 f1 f2 f3 m0 m1 hw4
                   go_wp2_with fail
                   refine (num_nil _).mono ?_
                   rintro e w6 ⟨rfl, b6⟩
                   have X6 := hid (X5.out.more b6)
                   have r6 := hid (r5.out.below b6)
                   have k6 := (b6.block _ (Array.getElem?_eq_some_iff.1 k5.out).1).trans k5.out
                   obtain ⟨m0, m1⟩ := blk2 k6
                   obtain ⟨e0, e1⟩ := X6.out.sr.cells
                   obtain ⟨y0, y1⟩ := X6.out.sr.runs
                   clear X5 r5 k5 b6 k6
                   go_wp2_with fail
                   go_meet
                   case rel => exact ⟨ps', ad', cap', hid (X6.out.sr.put r6.out hn rfl)⟩
               · as_aux_lemma =>
                   obtain ⟨c, hc⟩ : ∃ c, (K ≤ x ∧ c = 12) ∨ (x < K ∧ atP ps x ≠ (A, 1) ∧ c = 13) := by
                     by_cases h : K ≤ x
                     · exact ⟨12, Or.inl ⟨h, rfl⟩⟩
                     · exact ⟨13, Or.inr ⟨by omega, hat, rfl⟩⟩
                   have hrd := hid (rdrop_err K ad ps cap A x wa X1.out.sr.prow hfl (by omega) hrg.2.2 c hc)
                   replace hc := hid hc
                   clear hat
                   go_wp2_with fail
                   refine hrd.out.mono ?_
                   rintro e w3 ⟨rfl, b3⟩
                   obtain ⟨cb, hcb⟩ : ∃ cb, w3.heap.size = cb := ⟨_, rfl⟩
                   obtain ⟨w4, hw4⟩ : ∃ w4, w3.alloc (.cells #[.int .i64 (K : Int), .slice ad ps.length cap] 33) = w4 := ⟨_, rfl⟩
                   have b34 : Below w3.heap.size w3 w4 := hw4 ▸ (Below.refl _ _).alloc (Nat.le_refl _) _
                   have X4 := hid ((X1.out.more b3).more b34)
                   have k4 : w4.heap[cb]? = some (.cells #[.int .i64 (K : Int), .slice ad ps.length cap] 33 (0, 0)) := by rw [← hw4, ← hcb]; exact heap_alloc_new w3 _
                   obtain ⟨f1, f2, f3⟩ := HA.out _ X4.out
                   obtain ⟨m0, m1⟩ := blk2 k4
                   replace k4 := hid k4
                   clear hrd b3 b34 d0 d1 d2 d3 e0 e1
                   go_wp2_with fail
                   try rw [hw4]
                   refine (X4.out.sr.sa.dropErr x hrg.2.2 c hc.out).mono ?_
                   rintro e w5 ⟨rfl, b5⟩
                   have X5 := hid (X4.out.more b5)
                   have k5 := hid ((b5.block _ (Array.getElem?_eq_some_iff.1 k4.out).1).trans k4.out)
                   clear X4 k4 b5 f1 f2 f3 m0 m1 hw4
                   go_wp2_with fail
                   refine (num_err c _ (X5.out.sr.sa.handleIs hE1.out.1)).mono ?_
                   rintro e w6 ⟨rfl, b6⟩
                   have X6 := hid (X5.out.more b6)
                   have k6 := (b6.block _ (Array.getElem?_eq_some_iff.1 k5.out).1).trans k5.out
                   obtain ⟨m0, m1⟩ := blk2 k6
                   obtain ⟨e0, e1⟩ := X6.out.sr.cells
                   obtain ⟨y0, y1⟩ := X6.out.sr.runs
                   clear X5 k5 b6 k6
                   go_wp2_with fail
                   go_meet
                   case rel => exact ⟨ps, ad, cap, hid (X6.out.sr.put X6.out.sr.rp X6.out.sr.nil rfl)⟩)
            · by_cases hat : atP ps x = (A, 1)
              · as_aux_lemma =>
                  have hfd := hid (X1.out.sr.sa.find x hat)
                  replace hat := hid hat
                  go_wp2_with fail
                  refine hfd.out.mono ?_
                  rintro e w3 ⟨rfl, b3⟩
                  have X3 := hid (X1.out.more b3)
                  obtain ⟨f1, f2, f3⟩ := HA.out _ X3.out
                  obtain ⟨g0, g1⟩ := X3.out.sr.cells
                  clear hfd b3 d0 d1 d2 d3 e0 e1
                  go_wp2_with fail
                  refine (rfind_ok K ad ps cap A x _ X3.out.sr.prow hfl (by omega) hrg.2.2 0 (Or.inr (Or.inr ⟨hat.out, rfl⟩))).mono ?_
                  rintro e w4 ⟨rfl, b4⟩
                  have X4 := hid (X3.out.more b4)
                  clear X3 b4 f1 f2 f3 g0 g1
                  go_wp2_with fail
                  refine (num_nil _).mono ?_
                  rintro e w5 ⟨rfl, b5⟩
                  have X5 := hid (X4.out.more b5)
                  obtain ⟨f1, f2, f3⟩ := HA.out _ X5.out
                  clear X4 b5
                  go_wp2_with fail
                  go_meet
                  case rel => exact ⟨ps, ad, cap, hid X5.out.sr⟩
              · as_aux_lemma =>
                  obtain ⟨c, hc⟩ : ∃ c, (K ≤ x ∧ c = 12) ∨ (x < K ∧ atP ps x ≠ (A, 1) ∧ c = 13) := by
                    by_cases h : K ≤ x
                    · exact ⟨12, Or.inl ⟨h, rfl⟩⟩
                    · exact ⟨13, Or.inr ⟨by omega, hat, rfl⟩⟩
                  have tc : ((c : Int) == 0) = false := by rcases hc with ⟨_, rfl⟩ | ⟨_, _, rfl⟩ <;> rfl
                  have hfd := hid (X1.out.sr.sa.findErr x hrg.2.2 c hc)
                  replace hc := hid hc
                  clear hat
                  go_wp2_with fail
                  refine hfd.out.mono ?_
                  rintro e w3 ⟨rfl, b3⟩
                  have X3 := hid (X1.out.more b3)
                  obtain ⟨f1, f2, f3⟩ := HA.out _ X3.out
                  obtain ⟨g0, g1⟩ := X3.out.sr.cells
                  clear hfd b3 d0 d1 d2 d3 e0 e1
                  go_wp2_with fail
                  refine (rfind_ok K ad ps cap A x _ X3.out.sr.prow hfl (by omega) hrg.2.2 c (hc.out.imp id Or.inl)).mono ?_
                  rintro e w4 ⟨rfl, b4⟩
                  have X4 := hid (X3.out.more b4)
                  clear X3 b4 f1 f2 f3 g0 g1
                  go_wp2_with fail
                  refine (num_err c _ (X4.out.sr.sa.handleIs hE1.out.1)).mono ?_
                  rintro e w5 ⟨rfl, b5⟩
                  have X5 := hid (X4.out.more b5)
                  obtain ⟨f1, f2, f3⟩ := HA.out _ X5.out
                  clear X4 b5
                  go_wp2_with fail
                  go_meet
                  case rel => exact ⟨ps, ad, cap, hid X5.out.sr⟩
            · by_cases hout : pl < 0 ∨ (K : Int) ≤ pl
              · as_aux_lemma =>
                  obtain ⟨ob, hob⟩ := X1.out.sr.sa.arena
                  have hh := hid (handle_out lo hi ab K pl ob ps wa hob hout)
                  clear hob
                  have ways : pl < 0 ∨ (¬ pl < 0 ∧ (K : Int) ≤ pl) := by omega
                  clear hout
                  rcases ways with y1 | ⟨y1, y2⟩
                  all_goals
                    first
                      | (have s1 : decide (pl < 0) = true := decide_eq_true y1)
                      | (have s1 : decide (pl < 0) = false := decide_eq_false y1; have s2 : decide ((K : Int) ≤ pl) = true := decide_eq_true y2)
                    go_wp2_with fail
                    refine hh.out.mono ?_
                    rintro e w3 ⟨rfl, b3⟩
                    obtain ⟨yb, hyb⟩ : ∃ yb, w3.heap.size = yb := ⟨_, rfl⟩
                    obtain ⟨w4, hw4⟩ : ∃ w4, w3.alloc (.cells #[.int .u32 0, .int .u32 0] 43) = w4 := ⟨_, rfl⟩
                    have b34 : Below w3.heap.size w3 w4 := hw4 ▸ (Below.refl _ _).alloc (Nat.le_refl _) _
                    have X4r := (X1.out.more b3).alloc (.cells #[.int .u32 0, .int .u32 0] 43)
                    have X4 := hid ((X1.out.more b3).more b34)
                    obtain ⟨f1, f2, f3⟩ := HA.out _ X4r
                    obtain ⟨g0, g1⟩ := X4r.sr.cells
                    have HN : Hid (∀ y, Below w4.heap.size w4 y → Handle y) := hid (fun y hy => ((X4.out.more hy).sr.sa.handleIs hE1.out.1))
                    have HS : Hid (∀ y, Below w4.heap.size w4 y → Below w4.heap.size w4 y) := hid (fun y hy => hy)
                    clear hh b3 b34 d0 d1 d2 d3 e0 e1 X4r
                    replace hw4 := hid hw4
                    replace hyb := hid hyb
                    go_wp2_with fail
                    rw [hw4.out]
                    try rw [hyb.out]
                    clear f1 f2 f3 g0 g1
                    refine wp_region_noPanic ?_
                    refine wp_region_held_drew (S := fun w' => Below w4.heap.size w4 w') (by kernel_rfl) (HS.out _ (Below.refl _ _).drew) (fun hHeld => ?_)
                    refine takeH (i := 0) (v := ?_) (a' := ?_) ({ dst := some 194, op := Op.move (Operand.tmp 20), type := 27, pos := "law.go:127", after := #[], guard := none }) rfl (by kernel_rfl) (by kernel_rfl) (by kernel_rfl) (fun _ _ _ h => h) (by rfl) ?_ (by assumption) ?_ ?_
                    rotate_left 2
                    · (intro w' hSw; go_simp; try with_reducible rfl)
                    · (simp only [Act.put, List.setIfInBounds_toArray, List.set_cons_zero, List.set_cons_succ]; try rfl)
                    refine takeH (i := 2) (v := ?_) (a' := ?_) ({ dst := some 196, op := Op.move (Operand.tmp 21), type := 3, pos := "law.go:127", after := #[], guard := none }) rfl (by kernel_rfl) (by kernel_rfl) (by kernel_rfl) (fun _ _ _ h => h) (by rfl) ?_ (by assumption) ?_ ?_
                    rotate_left 2
                    · (intro w' hSw; go_simp; try with_reducible rfl)
                    · (simp only [Act.put, List.setIfInBounds_toArray, List.set_cons_zero, List.set_cons_succ]; try rfl)
                    refine wpAnyH_ready (rs := [1]) (by kernel_rfl) (by simp) ?_
                    refine AllReadyH.cons (o := { dst := some 195, op := Op.call { callee := Callee.value (Operand.func 7), args := #[Operand.tmp 194], argTypes := #[27] }, type := 3, pos := "law.go:127", after := #[{ on := 0, ground := Ground.data }], guard := none }) rfl (fun K hK => ?_) AllReadyH.nil
                    go_simp
                    refine (num_err 12 _ (HN.out _ (Below.refl _ _).drew)).mono ?_
                    rintro e w6 ⟨rfl, b6⟩
                    go_wp2_with fail
                    refine hK.out _ _ (HS.out _ ((Below.refl _ _).drew.trans b6)) (fun hHeld => ?_)
                    clear hK K
                    try simp only [Act.put, List.setIfInBounds_toArray, List.set_cons_zero, List.set_cons_succ]
                    refine takeH (i := 3) (v := ?_) (a' := ?_) ({ dst := some 197, op := Op.binOp BinOp.neq 3 (Operand.tmp 195) (Operand.tmp 196) 3, type := 4, pos := "law.go:127", after := #[{ on := 1, ground := Ground.data }, { on := 2, ground := Ground.data }], guard := none }) rfl (by kernel_rfl) (by kernel_rfl) (by kernel_rfl) (fun _ _ _ h => h) (by rfl) ?_ (by assumption) ?_ ?_
                    rotate_left 2
                    · (intro w' hSw; go_simp; try with_reducible rfl)
                    · (simp only [Act.put, List.setIfInBounds_toArray, List.set_cons_zero, List.set_cons_succ]; try rfl)
                    refine takeH (i := 4) (v := ?_) (a' := ?_) ({ dst := some 198, op := Op.move (Operand.tmp 197), type := 4, pos := "law.go:127", after := #[{ on := 3, ground := Ground.data }, { on := 1, ground := Ground.chain }], guard := none }) rfl (by kernel_rfl) (by kernel_rfl) (by kernel_rfl) (fun _ _ _ h => h) (by rfl) ?_ (by assumption) ?_ ?_
                    rotate_left 2
                    · (intro w' hSw; go_simp; try with_reducible rfl)
                    · (simp only [Act.put, List.setIfInBounds_toArray, List.set_cons_zero, List.set_cons_succ]; try rfl)
                    refine takeH (i := 5) (v := ?_) (a' := ?_) ({ dst := some 199, op := Op.move (Operand.tmp 21), type := 3, pos := "law.go:127", after := #[{ on := 4, ground := Ground.guard }], guard := some (4, false) }) rfl (by kernel_rfl) (by kernel_rfl) (by kernel_rfl) (fun _ _ _ h => h) (by rfl) ?_ (by assumption) ?_ ?_
                    rotate_left 2
                    · (intro w' hSw; go_simp; try with_reducible rfl)
                    · (simp only [Act.put, List.setIfInBounds_toArray, List.set_cons_zero, List.set_cons_succ]; try rfl)
                    refine takeH (i := 6) (v := ?_) (a' := ?_) ({ dst := some 200, op := Op.binOp BinOp.eql 3 (Operand.tmp 199) (Operand.const (Value.int IntKind.i64 0)) 3, type := 4, pos := "law.go:127", after := #[{ on := 5, ground := Ground.data }, { on := 4, ground := Ground.guard }], guard := some (4, false) }) rfl (by kernel_rfl) (by kernel_rfl) (by kernel_rfl) (fun _ _ _ h => h) (by rfl) ?_ (by assumption) ?_ ?_
                    rotate_left 2
                    · (intro w' hSw; go_simp; try with_reducible rfl)
                    · (simp only [Act.put, List.setIfInBounds_toArray, List.set_cons_zero, List.set_cons_succ]; try rfl)
                    refine takeH (i := 7) (v := ?_) (a' := ?_) ({ dst := some 201, op := Op.move (Operand.tmp 200), type := 4, pos := "law.go:127", after := #[{ on := 6, ground := Ground.data }, { on := 4, ground := Ground.chain }, { on := 4, ground := Ground.guard }], guard := some (4, false) }) rfl (by kernel_rfl) (by kernel_rfl) (by kernel_rfl) (fun _ _ _ h => h) (by rfl) ?_ (by assumption) ?_ ?_
                    rotate_left 2
                    · (intro w' hSw; go_simp; try with_reducible rfl)
                    · (simp only [Act.put, List.setIfInBounds_toArray, List.set_cons_zero, List.set_cons_succ]; try rfl)
                    refine skipH (i := 8) (a' := ?_) ({ dst := some 202, op := Op.load 43 (Operand.tmp 19), type := 43, pos := "law.go:127", after := #[{ on := 7, ground := Ground.guard }], guard := some (7, true) }) rfl (by kernel_rfl) (by kernel_rfl) (by kernel_rfl) (fun _ _ _ h => h) (by rfl) (by assumption) ?_ ?_
                    rotate_left 1
                    · (simp only [Act.put, List.setIfInBounds_toArray, List.set_cons_zero, List.set_cons_succ]; try rfl)
                    refine skipH (i := 9) (a' := ?_) ({ dst := some 203, op := Op.fieldAddr 33 (Operand.tmp 10) 1, type := 0, pos := "law.go:127", after := #[{ on := 7, ground := Ground.guard }], guard := some (7, true) }) rfl (by kernel_rfl) (by kernel_rfl) (by kernel_rfl) (fun _ _ _ h => h) (by rfl) (by assumption) ?_ ?_
                    rotate_left 1
                    · (simp only [Act.put, List.setIfInBounds_toArray, List.set_cons_zero, List.set_cons_succ]; try rfl)
                    refine skipH (i := 10) (a' := ?_) ({ dst := some 204, op := Op.load 22 (Operand.tmp 203), type := 22, pos := "law.go:127", after := #[{ on := 9, ground := Ground.data }, { on := 7, ground := Ground.guard }], guard := some (7, true) }) rfl (by kernel_rfl) (by kernel_rfl) (by kernel_rfl) (fun _ _ _ h => h) (by rfl) (by assumption) ?_ ?_
                    rotate_left 1
                    · (simp only [Act.put, List.setIfInBounds_toArray, List.set_cons_zero, List.set_cons_succ]; try rfl)
                    refine skipH (i := 11) (a' := ?_) ({ dst := some 205, op := Op.fieldAddr 39 (Operand.tmp 13) 3, type := 0, pos := "law.go:127", after := #[{ on := 7, ground := Ground.guard }], guard := some (7, true) }) rfl (by kernel_rfl) (by kernel_rfl) (by kernel_rfl) (fun _ _ _ h => h) (by rfl) (by assumption) ?_ ?_
                    rotate_left 1
                    · (simp only [Act.put, List.setIfInBounds_toArray, List.set_cons_zero, List.set_cons_succ]; try rfl)
                    refine skipH (i := 12) (a' := ?_) ({ dst := some 206, op := Op.load 3 (Operand.tmp 205), type := 3, pos := "law.go:127", after := #[{ on := 11, ground := Ground.data }, { on := 7, ground := Ground.guard }], guard := some (7, true) }) rfl (by kernel_rfl) (by kernel_rfl) (by kernel_rfl) (fun _ _ _ h => h) (by rfl) (by assumption) ?_ ?_
                    rotate_left 1
                    · (simp only [Act.put, List.setIfInBounds_toArray, List.set_cons_zero, List.set_cons_succ]; try rfl)
                    refine skipH (i := 13) (a' := ?_) ({ dst := some 207, op := Op.indexAddr 22 (Operand.tmp 204) (Operand.tmp 206), type := 0, pos := "law.go:127", after := #[{ on := 10, ground := Ground.data }, { on := 12, ground := Ground.data }, { on := 7, ground := Ground.guard }], guard := some (7, true) }) rfl (by kernel_rfl) (by kernel_rfl) (by kernel_rfl) (fun _ _ _ h => h) (by rfl) (by assumption) ?_ ?_
                    rotate_left 1
                    · (simp only [Act.put, List.setIfInBounds_toArray, List.set_cons_zero, List.set_cons_succ]; try rfl)
                    refine skipH (i := 14) (a' := ?_) ({ dst := some 208, op := Op.fieldAddr 50 (Operand.tmp 207) 0, type := 0, pos := "law.go:127", after := #[{ on := 13, ground := Ground.data }, { on := 7, ground := Ground.guard }], guard := some (7, true) }) rfl (by kernel_rfl) (by kernel_rfl) (by kernel_rfl) (fun _ _ _ h => h) (by rfl) (by assumption) ?_ ?_
                    rotate_left 1
                    · (simp only [Act.put, List.setIfInBounds_toArray, List.set_cons_zero, List.set_cons_succ]; try rfl)
                    refine skipH (i := 15) (a' := ?_) ({ dst := some 209, op := Op.load 37 (Operand.tmp 208), type := 37, pos := "law.go:127", after := #[{ on := 14, ground := Ground.data }, { on := 7, ground := Ground.guard }], guard := some (7, true) }) rfl (by kernel_rfl) (by kernel_rfl) (by kernel_rfl) (fun _ _ _ h => h) (by rfl) (by assumption) ?_ ?_
                    rotate_left 1
                    · (simp only [Act.put, List.setIfInBounds_toArray, List.set_cons_zero, List.set_cons_succ]; try rfl)
                    refine skipH (i := 16) (a' := ?_) ({ dst := some 210, op := Op.fieldAddr 39 (Operand.tmp 13) 3, type := 0, pos := "law.go:127", after := #[{ on := 7, ground := Ground.guard }], guard := some (7, true) }) rfl (by kernel_rfl) (by kernel_rfl) (by kernel_rfl) (fun _ _ _ h => h) (by rfl) (by assumption) ?_ ?_
                    rotate_left 1
                    · (simp only [Act.put, List.setIfInBounds_toArray, List.set_cons_zero, List.set_cons_succ]; try rfl)
                    refine skipH (i := 17) (a' := ?_) ({ dst := some 211, op := Op.load 3 (Operand.tmp 210), type := 3, pos := "law.go:127", after := #[{ on := 16, ground := Ground.data }, { on := 7, ground := Ground.guard }], guard := some (7, true) }) rfl (by kernel_rfl) (by kernel_rfl) (by kernel_rfl) (fun _ _ _ h => h) (by rfl) (by assumption) ?_ ?_
                    rotate_left 1
                    · (simp only [Act.put, List.setIfInBounds_toArray, List.set_cons_zero, List.set_cons_succ]; try rfl)
                    refine skipH (i := 18) (a' := ?_) ({ dst := some 212, op := Op.convert 3 37 (Operand.tmp 211), type := 37, pos := "law.go:127", after := #[{ on := 17, ground := Ground.data }, { on := 7, ground := Ground.guard }], guard := some (7, true) }) rfl (by kernel_rfl) (by kernel_rfl) (by kernel_rfl) (fun _ _ _ h => h) (by rfl) (by assumption) ?_ ?_
                    rotate_left 1
                    · (simp only [Act.put, List.setIfInBounds_toArray, List.set_cons_zero, List.set_cons_succ]; try rfl)
                    refine skipH (i := 19) (a' := ?_) ({ dst := some 213, op := Op.build 43 #[(0, Operand.tmp 209), (1, Operand.tmp 212)], type := 43, pos := "law.go:127", after := #[{ on := 15, ground := Ground.data }, { on := 18, ground := Ground.data }, { on := 7, ground := Ground.guard }], guard := some (7, true) }) rfl (by kernel_rfl) (by kernel_rfl) (by kernel_rfl) (fun _ _ _ h => h) (by rfl) (by assumption) ?_ ?_
                    rotate_left 1
                    · (simp only [Act.put, List.setIfInBounds_toArray, List.set_cons_zero, List.set_cons_succ]; try rfl)
                    refine skipH (i := 20) (a' := ?_) ({ dst := some 214, op := Op.binOp BinOp.neq 43 (Operand.tmp 202) (Operand.tmp 213) 43, type := 4, pos := "law.go:127", after := #[{ on := 8, ground := Ground.data }, { on := 19, ground := Ground.data }, { on := 7, ground := Ground.guard }], guard := some (7, true) }) rfl (by kernel_rfl) (by kernel_rfl) (by kernel_rfl) (fun _ _ _ h => h) (by rfl) (by assumption) ?_ ?_
                    rotate_left 1
                    · (simp only [Act.put, List.setIfInBounds_toArray, List.set_cons_zero, List.set_cons_succ]; try rfl)
                    refine takeH (i := 21) (v := ?_) (a' := ?_) ({ dst := some 215, op := Op.pick (Operand.tmp 201) (Operand.tmp 214) (Operand.const (Value.bool false)), type := 4, pos := "law.go:127", after := #[{ on := 7, ground := Ground.data }, { on := 20, ground := Ground.data }, { on := 4, ground := Ground.guard }], guard := some (4, false) }) rfl (by kernel_rfl) (by kernel_rfl) (by kernel_rfl) (fun _ _ _ h => h) (by rfl) ?_ (by assumption) ?_ ?_
                    rotate_left 2
                    · (intro w' hSw; go_simp; try with_reducible rfl)
                    · (simp only [Act.put, List.setIfInBounds_toArray, List.set_cons_zero, List.set_cons_succ]; try rfl)
                    refine takeH (i := 22) (v := ?_) (a' := ?_) ({ dst := some 216, op := Op.pick (Operand.tmp 198) (Operand.const (Value.bool true)) (Operand.tmp 215), type := 4, pos := "law.go:127", after := #[{ on := 4, ground := Ground.data }, { on := 21, ground := Ground.data }], guard := none }) rfl (by kernel_rfl) (by kernel_rfl) (by kernel_rfl) (fun _ _ _ h => h) (by rfl) ?_ (by assumption) ?_ ?_
                    rotate_left 2
                    · (intro w' hSw; go_simp; try with_reducible rfl)
                    · (simp only [Act.put, List.setIfInBounds_toArray, List.set_cons_zero, List.set_cons_succ]; try rfl)
                    refine wpAnyH_done (by kernel_rfl) ?_ _
                    refine NoPanic.normal ?_
                    have bX : Below w4.heap.size w4 w6 := (Below.refl w4.heap.size w4).drew.trans b6
                    have X6 := hid (X4.out.more bX)
                    clear X4 b6 bX HN HS
                    go_wp2_with fail
                    go_meet
                    case rel => exact ⟨ps, _, cap, hid X6.out.sr⟩
              · obtain ⟨z, rfl⟩ : ∃ z : Nat, pl = (z : Int) := ⟨pl.toNat, by omega⟩
                have hzK : z < K := by omega
                have s1 : decide ((z : Int) < 0) = false := decide_eq_false (by omega)
                have s2 : decide ((K : Int) ≤ (z : Int)) = false := decide_eq_false (by omega)
                have s2' : decide (K ≤ z) = false := decide_eq_false (by omega)
                clear hout
                by_cases hsl : (atP ps z).2 = 1
                · as_aux_lemma =>
                    obtain ⟨B, hB⟩ : ∃ B, atP ps z = (B, 1) := ⟨(atP ps z).1, by rw [← hsl]⟩
                    have hzl := live_lt hsl
                    have hp : Hid (ps[z]? = some (B, 1)) := hid (by rw [← hB]; exact live_get hsl)
                    have hh := hid (X1.out.sr.sa.handle z hB)
                    have s3 : decide ((ps.length : Int) ≤ (z : Int)) = false := decide_eq_false (by omega)
                    have s3' : decide (ps.length ≤ z) = false := decide_eq_false (by omega)
                    have hz32 : (z : Int) % 4294967296 = (z : Int) := by omega
                    have hw32 : IntKind.u32.wrap (z : Int) = (z : Int) := by rw [IntKind.wrap_u32]; omega
                    clear hB hsl
                    cases ad with
                    | none => have := X1.out.sr.prow.nil rfl; subst this; simp at hzl
                    | some a3 =>
                      go_wp2_with fail
                      refine hh.out.mono ?_
                      rintro e w3 ⟨rfl, b3⟩
                      obtain ⟨yb, hyb⟩ : ∃ yb, w3.heap.size = yb := ⟨_, rfl⟩
                      obtain ⟨w4, hw4⟩ : ∃ w4, w3.alloc (.cells #[.int .u32 B, .int .u32 (z : Int)] 43) = w4 := ⟨_, rfl⟩
                      have b34 : Below w3.heap.size w3 w4 := hw4 ▸ (Below.refl _ _).alloc (Nat.le_refl _) _
                      have X4r := (X1.out.more b3).alloc (.cells #[.int .u32 B, .int .u32 (z : Int)] 43)
                      have X4 := hid ((X1.out.more b3).more b34)
                      obtain ⟨f1, f2, f3⟩ := HA.out _ X4r
                      obtain ⟨g0, g1⟩ := X4r.sr.cells
                      have HN : Hid (∀ y, Below w4.heap.size w4 y → Handle y) := hid (fun y hy => ((X4.out.more hy).sr.sa.handleIs hE1.out.1))
                      have hrow := X4r.sr.prow.second hp.out
                      have ky : Hid (w4.heap[yb]? = some (.cells #[.int .u32 B, .int .u32 (z : Int)] 43 (0, 0))) := hid (by rw [← hw4, ← hyb]; exact heap_alloc_new w3 _)
                      have HS : Hid (∀ y, Below w4.heap.size w4 y → Below w4.heap.size w4 y ∧ y.cell? ⟨yb, 0, none⟩ = some (.int .u32 B) ∧ y.cell? ⟨yb, 1, none⟩ = some (.int .u32 (z : Int)) ∧ y.cell? ⟨bb, 1, none⟩ = some (.slice (some a3) ps.length cap) ∧ y.cell? ⟨xb, 3, none⟩ = some (.int .i64 (z : Int)) ∧ y.cell? (a3.add (z * 2)) = some (.int .u32 B)) := hid (fun y hy => by
                        have Xy := X4.out.more hy
                        obtain ⟨q0, q1⟩ := blk2 ((hy.block _ (Array.getElem?_eq_some_iff.1 ky.out).1).trans ky.out)
                        exact ⟨hy, q0, q1, Xy.sr.cells.2, (HA.out _ Xy).2.2, Xy.sr.prow.first hp.out⟩)
                      clear hh b3 b34 d0 d1 d2 d3 e0 e1 X4r
                      replace hw4 := hid hw4
                      replace hyb := hid hyb
                      go_wp2_with fail
                      rw [hw4.out]
                      try rw [hyb.out]
                      clear f1 f2 f3 g0 g1
                      refine wp_region_noPanic ?_
                      refine wp_region_held_drew (S := fun w' => Below w4.heap.size w4 w' ∧ w'.cell? ⟨yb, 0, none⟩ = some (.int .u32 B) ∧ w'.cell? ⟨yb, 1, none⟩ = some (.int .u32 (z : Int)) ∧ w'.cell? ⟨bb, 1, none⟩ = some (.slice (some a3) ps.length cap) ∧ w'.cell? ⟨xb, 3, none⟩ = some (.int .i64 (z : Int)) ∧ w'.cell? (a3.add (z * 2)) = some (.int .u32 B)) (by kernel_rfl) (HS.out _ (Below.refl _ _).drew) (fun hHeld => ?_)
                      refine takeH (i := 0) (v := ?_) (a' := ?_) ({ dst := some 194, op := Op.move (Operand.tmp 20), type := 27, pos := "law.go:127", after := #[], guard := none }) rfl (by kernel_rfl) (by kernel_rfl) (by kernel_rfl) (fun _ _ _ h => h) (by rfl) ?_ (by assumption) ?_ ?_
                      rotate_left 2
                      · (intro w' hSw; go_simp; try with_reducible rfl)
                      · (simp only [Act.put, List.setIfInBounds_toArray, List.set_cons_zero, List.set_cons_succ]; try rfl)
                      refine takeH (i := 2) (v := ?_) (a' := ?_) ({ dst := some 196, op := Op.move (Operand.tmp 21), type := 3, pos := "law.go:127", after := #[], guard := none }) rfl (by kernel_rfl) (by kernel_rfl) (by kernel_rfl) (fun _ _ _ h => h) (by rfl) ?_ (by assumption) ?_ ?_
                      rotate_left 2
                      · (intro w' hSw; go_simp; try with_reducible rfl)
                      · (simp only [Act.put, List.setIfInBounds_toArray, List.set_cons_zero, List.set_cons_succ]; try rfl)
                      refine wpAnyH_ready (rs := [1]) (by kernel_rfl) (by simp) ?_
                      refine AllReadyH.cons (o := { dst := some 195, op := Op.call { callee := Callee.value (Operand.func 7), args := #[Operand.tmp 194], argTypes := #[27] }, type := 3, pos := "law.go:127", after := #[{ on := 0, ground := Ground.data }], guard := none }) rfl (fun K hK => ?_) AllReadyH.nil
                      go_simp
                      refine (num_nil _).mono ?_
                      rintro e w6 ⟨rfl, b6⟩
                      go_wp2_with fail
                      refine hK.out _ _ (HS.out _ ((Below.refl _ _).drew.trans b6)) (fun hHeld => ?_)
                      clear hK K
                      try simp only [Act.put, List.setIfInBounds_toArray, List.set_cons_zero, List.set_cons_succ]
                      refine takeH (i := 3) (v := ?_) (a' := ?_) ({ dst := some 197, op := Op.binOp BinOp.neq 3 (Operand.tmp 195) (Operand.tmp 196) 3, type := 4, pos := "law.go:127", after := #[{ on := 1, ground := Ground.data }, { on := 2, ground := Ground.data }], guard := none }) rfl (by kernel_rfl) (by kernel_rfl) (by kernel_rfl) (fun _ _ _ h => h) (by rfl) ?_ (by assumption) ?_ ?_
                      rotate_left 2
                      · (intro w' hSw; go_simp; try with_reducible rfl)
                      · (simp only [Act.put, List.setIfInBounds_toArray, List.set_cons_zero, List.set_cons_succ]; try rfl)
                      refine takeH (i := 4) (v := ?_) (a' := ?_) ({ dst := some 198, op := Op.move (Operand.tmp 197), type := 4, pos := "law.go:127", after := #[{ on := 3, ground := Ground.data }, { on := 1, ground := Ground.chain }], guard := none }) rfl (by kernel_rfl) (by kernel_rfl) (by kernel_rfl) (fun _ _ _ h => h) (by rfl) ?_ (by assumption) ?_ ?_
                      rotate_left 2
                      · (intro w' hSw; go_simp; try with_reducible rfl)
                      · (simp only [Act.put, List.setIfInBounds_toArray, List.set_cons_zero, List.set_cons_succ]; try rfl)
                      refine takeH (i := 5) (v := ?_) (a' := ?_) ({ dst := some 199, op := Op.move (Operand.tmp 21), type := 3, pos := "law.go:127", after := #[{ on := 4, ground := Ground.guard }], guard := some (4, false) }) rfl (by kernel_rfl) (by kernel_rfl) (by kernel_rfl) (fun _ _ _ h => h) (by rfl) ?_ (by assumption) ?_ ?_
                      rotate_left 2
                      · (intro w' hSw; go_simp; try with_reducible rfl)
                      · (simp only [Act.put, List.setIfInBounds_toArray, List.set_cons_zero, List.set_cons_succ]; try rfl)
                      refine takeH (i := 6) (v := ?_) (a' := ?_) ({ dst := some 200, op := Op.binOp BinOp.eql 3 (Operand.tmp 199) (Operand.const (Value.int IntKind.i64 0)) 3, type := 4, pos := "law.go:127", after := #[{ on := 5, ground := Ground.data }, { on := 4, ground := Ground.guard }], guard := some (4, false) }) rfl (by kernel_rfl) (by kernel_rfl) (by kernel_rfl) (fun _ _ _ h => h) (by rfl) ?_ (by assumption) ?_ ?_
                      rotate_left 2
                      · (intro w' hSw; go_simp; try with_reducible rfl)
                      · (simp only [Act.put, List.setIfInBounds_toArray, List.set_cons_zero, List.set_cons_succ]; try rfl)
                      refine takeH (i := 7) (v := ?_) (a' := ?_) ({ dst := some 201, op := Op.move (Operand.tmp 200), type := 4, pos := "law.go:127", after := #[{ on := 6, ground := Ground.data }, { on := 4, ground := Ground.chain }, { on := 4, ground := Ground.guard }], guard := some (4, false) }) rfl (by kernel_rfl) (by kernel_rfl) (by kernel_rfl) (fun _ _ _ h => h) (by rfl) ?_ (by assumption) ?_ ?_
                      rotate_left 2
                      · (intro w' hSw; go_simp; try with_reducible rfl)
                      · (simp only [Act.put, List.setIfInBounds_toArray, List.set_cons_zero, List.set_cons_succ]; try rfl)
                      refine takeH (i := 8) (v := ?_) (a' := ?_) ({ dst := some 202, op := Op.load 43 (Operand.tmp 19), type := 43, pos := "law.go:127", after := #[{ on := 7, ground := Ground.guard }], guard := some (7, true) }) rfl (by kernel_rfl) (by kernel_rfl) (by kernel_rfl) (fun _ _ _ h => h) (by rfl) ?_ (by assumption) ?_ ?_
                      rotate_left 2
                      · (intro w' hSw; go_simp; try with_reducible rfl)
                      · (simp only [Act.put, List.setIfInBounds_toArray, List.set_cons_zero, List.set_cons_succ]; try rfl)
                      refine takeH (i := 9) (v := ?_) (a' := ?_) ({ dst := some 203, op := Op.fieldAddr 33 (Operand.tmp 10) 1, type := 0, pos := "law.go:127", after := #[{ on := 7, ground := Ground.guard }], guard := some (7, true) }) rfl (by kernel_rfl) (by kernel_rfl) (by kernel_rfl) (fun _ _ _ h => h) (by rfl) ?_ (by assumption) ?_ ?_
                      rotate_left 2
                      · (intro w' hSw; go_simp; try with_reducible rfl)
                      · (simp only [Act.put, List.setIfInBounds_toArray, List.set_cons_zero, List.set_cons_succ]; try rfl)
                      refine takeH (i := 10) (v := ?_) (a' := ?_) ({ dst := some 204, op := Op.load 22 (Operand.tmp 203), type := 22, pos := "law.go:127", after := #[{ on := 9, ground := Ground.data }, { on := 7, ground := Ground.guard }], guard := some (7, true) }) rfl (by kernel_rfl) (by kernel_rfl) (by kernel_rfl) (fun _ _ _ h => h) (by rfl) ?_ (by assumption) ?_ ?_
                      rotate_left 2
                      · (intro w' hSw; go_simp; try with_reducible rfl)
                      · (simp only [Act.put, List.setIfInBounds_toArray, List.set_cons_zero, List.set_cons_succ]; try rfl)
                      refine takeH (i := 11) (v := ?_) (a' := ?_) ({ dst := some 205, op := Op.fieldAddr 39 (Operand.tmp 13) 3, type := 0, pos := "law.go:127", after := #[{ on := 7, ground := Ground.guard }], guard := some (7, true) }) rfl (by kernel_rfl) (by kernel_rfl) (by kernel_rfl) (fun _ _ _ h => h) (by rfl) ?_ (by assumption) ?_ ?_
                      rotate_left 2
                      · (intro w' hSw; go_simp; try with_reducible rfl)
                      · (simp only [Act.put, List.setIfInBounds_toArray, List.set_cons_zero, List.set_cons_succ]; try rfl)
                      refine takeH (i := 12) (v := ?_) (a' := ?_) ({ dst := some 206, op := Op.load 3 (Operand.tmp 205), type := 3, pos := "law.go:127", after := #[{ on := 11, ground := Ground.data }, { on := 7, ground := Ground.guard }], guard := some (7, true) }) rfl (by kernel_rfl) (by kernel_rfl) (by kernel_rfl) (fun _ _ _ h => h) (by rfl) ?_ (by assumption) ?_ ?_
                      rotate_left 2
                      · (intro w' hSw; go_simp; try with_reducible rfl)
                      · (simp only [Act.put, List.setIfInBounds_toArray, List.set_cons_zero, List.set_cons_succ]; try rfl)
                      refine takeH (i := 13) (v := ?_) (a' := ?_) ({ dst := some 207, op := Op.indexAddr 22 (Operand.tmp 204) (Operand.tmp 206), type := 0, pos := "law.go:127", after := #[{ on := 10, ground := Ground.data }, { on := 12, ground := Ground.data }, { on := 7, ground := Ground.guard }], guard := some (7, true) }) rfl (by kernel_rfl) (by kernel_rfl) (by kernel_rfl) (fun _ _ _ h => h) (by rfl) ?_ (by assumption) ?_ ?_
                      rotate_left 2
                      · (intro w' hSw; go_simp; try with_reducible rfl)
                      · (simp only [Act.put, List.setIfInBounds_toArray, List.set_cons_zero, List.set_cons_succ]; try rfl)
                      refine takeH (i := 14) (v := ?_) (a' := ?_) ({ dst := some 208, op := Op.fieldAddr 50 (Operand.tmp 207) 0, type := 0, pos := "law.go:127", after := #[{ on := 13, ground := Ground.data }, { on := 7, ground := Ground.guard }], guard := some (7, true) }) rfl (by kernel_rfl) (by kernel_rfl) (by kernel_rfl) (fun _ _ _ h => h) (by rfl) ?_ (by assumption) ?_ ?_
                      rotate_left 2
                      · (intro w' hSw; go_simp; try with_reducible rfl)
                      · (simp only [Act.put, List.setIfInBounds_toArray, List.set_cons_zero, List.set_cons_succ]; try rfl)
                      refine takeH (i := 15) (v := ?_) (a' := ?_) ({ dst := some 209, op := Op.load 37 (Operand.tmp 208), type := 37, pos := "law.go:127", after := #[{ on := 14, ground := Ground.data }, { on := 7, ground := Ground.guard }], guard := some (7, true) }) rfl (by kernel_rfl) (by kernel_rfl) (by kernel_rfl) (fun _ _ _ h => h) (by rfl) ?_ (by assumption) ?_ ?_
                      rotate_left 2
                      · (intro w' hSw; go_simp; try with_reducible rfl)
                      · (simp only [Act.put, List.setIfInBounds_toArray, List.set_cons_zero, List.set_cons_succ]; try rfl)
                      refine takeH (i := 16) (v := ?_) (a' := ?_) ({ dst := some 210, op := Op.fieldAddr 39 (Operand.tmp 13) 3, type := 0, pos := "law.go:127", after := #[{ on := 7, ground := Ground.guard }], guard := some (7, true) }) rfl (by kernel_rfl) (by kernel_rfl) (by kernel_rfl) (fun _ _ _ h => h) (by rfl) ?_ (by assumption) ?_ ?_
                      rotate_left 2
                      · (intro w' hSw; go_simp; try with_reducible rfl)
                      · (simp only [Act.put, List.setIfInBounds_toArray, List.set_cons_zero, List.set_cons_succ]; try rfl)
                      refine takeH (i := 17) (v := ?_) (a' := ?_) ({ dst := some 211, op := Op.load 3 (Operand.tmp 210), type := 3, pos := "law.go:127", after := #[{ on := 16, ground := Ground.data }, { on := 7, ground := Ground.guard }], guard := some (7, true) }) rfl (by kernel_rfl) (by kernel_rfl) (by kernel_rfl) (fun _ _ _ h => h) (by rfl) ?_ (by assumption) ?_ ?_
                      rotate_left 2
                      · (intro w' hSw; go_simp; try with_reducible rfl)
                      · (simp only [Act.put, List.setIfInBounds_toArray, List.set_cons_zero, List.set_cons_succ]; try rfl)
                      refine takeH (i := 18) (v := ?_) (a' := ?_) ({ dst := some 212, op := Op.convert 3 37 (Operand.tmp 211), type := 37, pos := "law.go:127", after := #[{ on := 17, ground := Ground.data }, { on := 7, ground := Ground.guard }], guard := some (7, true) }) rfl (by kernel_rfl) (by kernel_rfl) (by kernel_rfl) (fun _ _ _ h => h) (by rfl) ?_ (by assumption) ?_ ?_
                      rotate_left 2
                      · (intro w' hSw; go_simp; try with_reducible rfl)
                      · (simp only [Act.put, List.setIfInBounds_toArray, List.set_cons_zero, List.set_cons_succ]; try rfl)
                      refine takeH (i := 19) (v := ?_) (a' := ?_) ({ dst := some 213, op := Op.build 43 #[(0, Operand.tmp 209), (1, Operand.tmp 212)], type := 43, pos := "law.go:127", after := #[{ on := 15, ground := Ground.data }, { on := 18, ground := Ground.data }, { on := 7, ground := Ground.guard }], guard := some (7, true) }) rfl (by kernel_rfl) (by kernel_rfl) (by kernel_rfl) (fun _ _ _ h => h) (by rfl) ?_ (by assumption) ?_ ?_
                      rotate_left 2
                      · (intro w' hSw; go_simp; try with_reducible rfl)
                      · (simp only [Act.put, List.setIfInBounds_toArray, List.set_cons_zero, List.set_cons_succ]; try rfl)
                      refine takeH (i := 20) (v := ?_) (a' := ?_) ({ dst := some 214, op := Op.binOp BinOp.neq 43 (Operand.tmp 202) (Operand.tmp 213) 43, type := 4, pos := "law.go:127", after := #[{ on := 8, ground := Ground.data }, { on := 19, ground := Ground.data }, { on := 7, ground := Ground.guard }], guard := some (7, true) }) rfl (by kernel_rfl) (by kernel_rfl) (by kernel_rfl) (fun _ _ _ h => h) (by rfl) ?_ (by assumption) ?_ ?_
                      rotate_left 2
                      · (intro w' hSw; go_simp; try with_reducible rfl)
                      · (simp only [Act.put, List.setIfInBounds_toArray, List.set_cons_zero, List.set_cons_succ]; try rfl)
                      refine takeH (i := 21) (v := ?_) (a' := ?_) ({ dst := some 215, op := Op.pick (Operand.tmp 201) (Operand.tmp 214) (Operand.const (Value.bool false)), type := 4, pos := "law.go:127", after := #[{ on := 7, ground := Ground.data }, { on := 20, ground := Ground.data }, { on := 4, ground := Ground.guard }], guard := some (4, false) }) rfl (by kernel_rfl) (by kernel_rfl) (by kernel_rfl) (fun _ _ _ h => h) (by rfl) ?_ (by assumption) ?_ ?_
                      rotate_left 2
                      · (intro w' hSw; go_simp; try with_reducible rfl)
                      · (simp only [Act.put, List.setIfInBounds_toArray, List.set_cons_zero, List.set_cons_succ]; try rfl)
                      refine takeH (i := 22) (v := ?_) (a' := ?_) ({ dst := some 216, op := Op.pick (Operand.tmp 198) (Operand.const (Value.bool true)) (Operand.tmp 215), type := 4, pos := "law.go:127", after := #[{ on := 4, ground := Ground.data }, { on := 21, ground := Ground.data }], guard := none }) rfl (by kernel_rfl) (by kernel_rfl) (by kernel_rfl) (fun _ _ _ h => h) (by rfl) ?_ (by assumption) ?_ ?_
                      rotate_left 2
                      · (intro w' hSw; go_simp; try with_reducible rfl)
                      · (simp only [Act.put, List.setIfInBounds_toArray, List.set_cons_zero, List.set_cons_succ]; try rfl)
                      refine wpAnyH_done (by kernel_rfl) ?_ _
                      refine NoPanic.normal ?_
                      have bX : Below w4.heap.size w4 w6 := (Below.refl w4.heap.size w4).drew.trans b6
                      have X6 := hid (X4.out.more bX)
                      clear X4 b6 bX HN HS
                      go_wp2_with fail
                      go_meet
                      case rel => exact ⟨ps, _, cap, hid X6.out.sr⟩
                · have hh := hid (X1.out.sr.sa.handleStale z hzK hsl)
                  by_cases hlz : ps.length ≤ z
                  · as_aux_lemma =>
                      have s3 : decide ((ps.length : Int) ≤ (z : Int)) = true := decide_eq_true (by omega)
                      have s3' : decide (ps.length ≤ z) = true := decide_eq_true (by omega)
                      clear hlz
                      go_wp2_with fail
                      refine hh.out.mono ?_
                      rintro e w3 ⟨rfl, b3⟩
                      obtain ⟨yb, hyb⟩ : ∃ yb, w3.heap.size = yb := ⟨_, rfl⟩
                      obtain ⟨w4, hw4⟩ : ∃ w4, w3.alloc (.cells #[.int .u32 0, .int .u32 0] 43) = w4 := ⟨_, rfl⟩
                      have b34 : Below w3.heap.size w3 w4 := hw4 ▸ (Below.refl _ _).alloc (Nat.le_refl _) _
                      have X4r := (X1.out.more b3).alloc (.cells #[.int .u32 0, .int .u32 0] 43)
                      have X4 := hid ((X1.out.more b3).more b34)
                      obtain ⟨f1, f2, f3⟩ := HA.out _ X4r
                      obtain ⟨g0, g1⟩ := X4r.sr.cells
                      have HN : Hid (∀ y, Below w4.heap.size w4 y → Handle y) := hid (fun y hy => ((X4.out.more hy).sr.sa.handleIs hE1.out.1))
                      have HS : Hid (∀ y, Below w4.heap.size w4 y → Below w4.heap.size w4 y) := hid (fun y hy => hy)
                      clear hh b3 b34 d0 d1 d2 d3 e0 e1 X4r
                      replace hw4 := hid hw4
                      replace hyb := hid hyb
                      go_wp2_with fail
                      rw [hw4.out]
                      try rw [hyb.out]
                      clear f1 f2 f3 g0 g1
                      refine wp_region_noPanic ?_
                      refine wp_region_held_drew (S := fun w' => Below w4.heap.size w4 w') (by kernel_rfl) (HS.out _ (Below.refl _ _).drew) (fun hHeld => ?_)
                      refine takeH (i := 0) (v := ?_) (a' := ?_) ({ dst := some 194, op := Op.move (Operand.tmp 20), type := 27, pos := "law.go:127", after := #[], guard := none }) rfl (by kernel_rfl) (by kernel_rfl) (by kernel_rfl) (fun _ _ _ h => h) (by rfl) ?_ (by assumption) ?_ ?_
                      rotate_left 2
                      · (intro w' hSw; go_simp; try with_reducible rfl)
                      · (simp only [Act.put, List.setIfInBounds_toArray, List.set_cons_zero, List.set_cons_succ]; try rfl)
                      refine takeH (i := 2) (v := ?_) (a' := ?_) ({ dst := some 196, op := Op.move (Operand.tmp 21), type := 3, pos := "law.go:127", after := #[], guard := none }) rfl (by kernel_rfl) (by kernel_rfl) (by kernel_rfl) (fun _ _ _ h => h) (by rfl) ?_ (by assumption) ?_ ?_
                      rotate_left 2
                      · (intro w' hSw; go_simp; try with_reducible rfl)
                      · (simp only [Act.put, List.setIfInBounds_toArray, List.set_cons_zero, List.set_cons_succ]; try rfl)
                      refine wpAnyH_ready (rs := [1]) (by kernel_rfl) (by simp) ?_
                      refine AllReadyH.cons (o := { dst := some 195, op := Op.call { callee := Callee.value (Operand.func 7), args := #[Operand.tmp 194], argTypes := #[27] }, type := 3, pos := "law.go:127", after := #[{ on := 0, ground := Ground.data }], guard := none }) rfl (fun K hK => ?_) AllReadyH.nil
                      go_simp
                      refine (num_err 13 _ (HN.out _ (Below.refl _ _).drew)).mono ?_
                      rintro e w6 ⟨rfl, b6⟩
                      go_wp2_with fail
                      refine hK.out _ _ (HS.out _ ((Below.refl _ _).drew.trans b6)) (fun hHeld => ?_)
                      clear hK K
                      try simp only [Act.put, List.setIfInBounds_toArray, List.set_cons_zero, List.set_cons_succ]
                      refine takeH (i := 3) (v := ?_) (a' := ?_) ({ dst := some 197, op := Op.binOp BinOp.neq 3 (Operand.tmp 195) (Operand.tmp 196) 3, type := 4, pos := "law.go:127", after := #[{ on := 1, ground := Ground.data }, { on := 2, ground := Ground.data }], guard := none }) rfl (by kernel_rfl) (by kernel_rfl) (by kernel_rfl) (fun _ _ _ h => h) (by rfl) ?_ (by assumption) ?_ ?_
                      rotate_left 2
                      · (intro w' hSw; go_simp; try with_reducible rfl)
                      · (simp only [Act.put, List.setIfInBounds_toArray, List.set_cons_zero, List.set_cons_succ]; try rfl)
                      refine takeH (i := 4) (v := ?_) (a' := ?_) ({ dst := some 198, op := Op.move (Operand.tmp 197), type := 4, pos := "law.go:127", after := #[{ on := 3, ground := Ground.data }, { on := 1, ground := Ground.chain }], guard := none }) rfl (by kernel_rfl) (by kernel_rfl) (by kernel_rfl) (fun _ _ _ h => h) (by rfl) ?_ (by assumption) ?_ ?_
                      rotate_left 2
                      · (intro w' hSw; go_simp; try with_reducible rfl)
                      · (simp only [Act.put, List.setIfInBounds_toArray, List.set_cons_zero, List.set_cons_succ]; try rfl)
                      refine takeH (i := 5) (v := ?_) (a' := ?_) ({ dst := some 199, op := Op.move (Operand.tmp 21), type := 3, pos := "law.go:127", after := #[{ on := 4, ground := Ground.guard }], guard := some (4, false) }) rfl (by kernel_rfl) (by kernel_rfl) (by kernel_rfl) (fun _ _ _ h => h) (by rfl) ?_ (by assumption) ?_ ?_
                      rotate_left 2
                      · (intro w' hSw; go_simp; try with_reducible rfl)
                      · (simp only [Act.put, List.setIfInBounds_toArray, List.set_cons_zero, List.set_cons_succ]; try rfl)
                      refine takeH (i := 6) (v := ?_) (a' := ?_) ({ dst := some 200, op := Op.binOp BinOp.eql 3 (Operand.tmp 199) (Operand.const (Value.int IntKind.i64 0)) 3, type := 4, pos := "law.go:127", after := #[{ on := 5, ground := Ground.data }, { on := 4, ground := Ground.guard }], guard := some (4, false) }) rfl (by kernel_rfl) (by kernel_rfl) (by kernel_rfl) (fun _ _ _ h => h) (by rfl) ?_ (by assumption) ?_ ?_
                      rotate_left 2
                      · (intro w' hSw; go_simp; try with_reducible rfl)
                      · (simp only [Act.put, List.setIfInBounds_toArray, List.set_cons_zero, List.set_cons_succ]; try rfl)
                      refine takeH (i := 7) (v := ?_) (a' := ?_) ({ dst := some 201, op := Op.move (Operand.tmp 200), type := 4, pos := "law.go:127", after := #[{ on := 6, ground := Ground.data }, { on := 4, ground := Ground.chain }, { on := 4, ground := Ground.guard }], guard := some (4, false) }) rfl (by kernel_rfl) (by kernel_rfl) (by kernel_rfl) (fun _ _ _ h => h) (by rfl) ?_ (by assumption) ?_ ?_
                      rotate_left 2
                      · (intro w' hSw; go_simp; try with_reducible rfl)
                      · (simp only [Act.put, List.setIfInBounds_toArray, List.set_cons_zero, List.set_cons_succ]; try rfl)
                      refine skipH (i := 8) (a' := ?_) ({ dst := some 202, op := Op.load 43 (Operand.tmp 19), type := 43, pos := "law.go:127", after := #[{ on := 7, ground := Ground.guard }], guard := some (7, true) }) rfl (by kernel_rfl) (by kernel_rfl) (by kernel_rfl) (fun _ _ _ h => h) (by rfl) (by assumption) ?_ ?_
                      rotate_left 1
                      · (simp only [Act.put, List.setIfInBounds_toArray, List.set_cons_zero, List.set_cons_succ]; try rfl)
                      refine skipH (i := 9) (a' := ?_) ({ dst := some 203, op := Op.fieldAddr 33 (Operand.tmp 10) 1, type := 0, pos := "law.go:127", after := #[{ on := 7, ground := Ground.guard }], guard := some (7, true) }) rfl (by kernel_rfl) (by kernel_rfl) (by kernel_rfl) (fun _ _ _ h => h) (by rfl) (by assumption) ?_ ?_
                      rotate_left 1
                      · (simp only [Act.put, List.setIfInBounds_toArray, List.set_cons_zero, List.set_cons_succ]; try rfl)
                      refine skipH (i := 10) (a' := ?_) ({ dst := some 204, op := Op.load 22 (Operand.tmp 203), type := 22, pos := "law.go:127", after := #[{ on := 9, ground := Ground.data }, { on := 7, ground := Ground.guard }], guard := some (7, true) }) rfl (by kernel_rfl) (by kernel_rfl) (by kernel_rfl) (fun _ _ _ h => h) (by rfl) (by assumption) ?_ ?_
                      rotate_left 1
                      · (simp only [Act.put, List.setIfInBounds_toArray, List.set_cons_zero, List.set_cons_succ]; try rfl)
                      refine skipH (i := 11) (a' := ?_) ({ dst := some 205, op := Op.fieldAddr 39 (Operand.tmp 13) 3, type := 0, pos := "law.go:127", after := #[{ on := 7, ground := Ground.guard }], guard := some (7, true) }) rfl (by kernel_rfl) (by kernel_rfl) (by kernel_rfl) (fun _ _ _ h => h) (by rfl) (by assumption) ?_ ?_
                      rotate_left 1
                      · (simp only [Act.put, List.setIfInBounds_toArray, List.set_cons_zero, List.set_cons_succ]; try rfl)
                      refine skipH (i := 12) (a' := ?_) ({ dst := some 206, op := Op.load 3 (Operand.tmp 205), type := 3, pos := "law.go:127", after := #[{ on := 11, ground := Ground.data }, { on := 7, ground := Ground.guard }], guard := some (7, true) }) rfl (by kernel_rfl) (by kernel_rfl) (by kernel_rfl) (fun _ _ _ h => h) (by rfl) (by assumption) ?_ ?_
                      rotate_left 1
                      · (simp only [Act.put, List.setIfInBounds_toArray, List.set_cons_zero, List.set_cons_succ]; try rfl)
                      refine skipH (i := 13) (a' := ?_) ({ dst := some 207, op := Op.indexAddr 22 (Operand.tmp 204) (Operand.tmp 206), type := 0, pos := "law.go:127", after := #[{ on := 10, ground := Ground.data }, { on := 12, ground := Ground.data }, { on := 7, ground := Ground.guard }], guard := some (7, true) }) rfl (by kernel_rfl) (by kernel_rfl) (by kernel_rfl) (fun _ _ _ h => h) (by rfl) (by assumption) ?_ ?_
                      rotate_left 1
                      · (simp only [Act.put, List.setIfInBounds_toArray, List.set_cons_zero, List.set_cons_succ]; try rfl)
                      refine skipH (i := 14) (a' := ?_) ({ dst := some 208, op := Op.fieldAddr 50 (Operand.tmp 207) 0, type := 0, pos := "law.go:127", after := #[{ on := 13, ground := Ground.data }, { on := 7, ground := Ground.guard }], guard := some (7, true) }) rfl (by kernel_rfl) (by kernel_rfl) (by kernel_rfl) (fun _ _ _ h => h) (by rfl) (by assumption) ?_ ?_
                      rotate_left 1
                      · (simp only [Act.put, List.setIfInBounds_toArray, List.set_cons_zero, List.set_cons_succ]; try rfl)
                      refine skipH (i := 15) (a' := ?_) ({ dst := some 209, op := Op.load 37 (Operand.tmp 208), type := 37, pos := "law.go:127", after := #[{ on := 14, ground := Ground.data }, { on := 7, ground := Ground.guard }], guard := some (7, true) }) rfl (by kernel_rfl) (by kernel_rfl) (by kernel_rfl) (fun _ _ _ h => h) (by rfl) (by assumption) ?_ ?_
                      rotate_left 1
                      · (simp only [Act.put, List.setIfInBounds_toArray, List.set_cons_zero, List.set_cons_succ]; try rfl)
                      refine skipH (i := 16) (a' := ?_) ({ dst := some 210, op := Op.fieldAddr 39 (Operand.tmp 13) 3, type := 0, pos := "law.go:127", after := #[{ on := 7, ground := Ground.guard }], guard := some (7, true) }) rfl (by kernel_rfl) (by kernel_rfl) (by kernel_rfl) (fun _ _ _ h => h) (by rfl) (by assumption) ?_ ?_
                      rotate_left 1
                      · (simp only [Act.put, List.setIfInBounds_toArray, List.set_cons_zero, List.set_cons_succ]; try rfl)
                      refine skipH (i := 17) (a' := ?_) ({ dst := some 211, op := Op.load 3 (Operand.tmp 210), type := 3, pos := "law.go:127", after := #[{ on := 16, ground := Ground.data }, { on := 7, ground := Ground.guard }], guard := some (7, true) }) rfl (by kernel_rfl) (by kernel_rfl) (by kernel_rfl) (fun _ _ _ h => h) (by rfl) (by assumption) ?_ ?_
                      rotate_left 1
                      · (simp only [Act.put, List.setIfInBounds_toArray, List.set_cons_zero, List.set_cons_succ]; try rfl)
                      refine skipH (i := 18) (a' := ?_) ({ dst := some 212, op := Op.convert 3 37 (Operand.tmp 211), type := 37, pos := "law.go:127", after := #[{ on := 17, ground := Ground.data }, { on := 7, ground := Ground.guard }], guard := some (7, true) }) rfl (by kernel_rfl) (by kernel_rfl) (by kernel_rfl) (fun _ _ _ h => h) (by rfl) (by assumption) ?_ ?_
                      rotate_left 1
                      · (simp only [Act.put, List.setIfInBounds_toArray, List.set_cons_zero, List.set_cons_succ]; try rfl)
                      refine skipH (i := 19) (a' := ?_) ({ dst := some 213, op := Op.build 43 #[(0, Operand.tmp 209), (1, Operand.tmp 212)], type := 43, pos := "law.go:127", after := #[{ on := 15, ground := Ground.data }, { on := 18, ground := Ground.data }, { on := 7, ground := Ground.guard }], guard := some (7, true) }) rfl (by kernel_rfl) (by kernel_rfl) (by kernel_rfl) (fun _ _ _ h => h) (by rfl) (by assumption) ?_ ?_
                      rotate_left 1
                      · (simp only [Act.put, List.setIfInBounds_toArray, List.set_cons_zero, List.set_cons_succ]; try rfl)
                      refine skipH (i := 20) (a' := ?_) ({ dst := some 214, op := Op.binOp BinOp.neq 43 (Operand.tmp 202) (Operand.tmp 213) 43, type := 4, pos := "law.go:127", after := #[{ on := 8, ground := Ground.data }, { on := 19, ground := Ground.data }, { on := 7, ground := Ground.guard }], guard := some (7, true) }) rfl (by kernel_rfl) (by kernel_rfl) (by kernel_rfl) (fun _ _ _ h => h) (by rfl) (by assumption) ?_ ?_
                      rotate_left 1
                      · (simp only [Act.put, List.setIfInBounds_toArray, List.set_cons_zero, List.set_cons_succ]; try rfl)
                      refine takeH (i := 21) (v := ?_) (a' := ?_) ({ dst := some 215, op := Op.pick (Operand.tmp 201) (Operand.tmp 214) (Operand.const (Value.bool false)), type := 4, pos := "law.go:127", after := #[{ on := 7, ground := Ground.data }, { on := 20, ground := Ground.data }, { on := 4, ground := Ground.guard }], guard := some (4, false) }) rfl (by kernel_rfl) (by kernel_rfl) (by kernel_rfl) (fun _ _ _ h => h) (by rfl) ?_ (by assumption) ?_ ?_
                      rotate_left 2
                      · (intro w' hSw; go_simp; try with_reducible rfl)
                      · (simp only [Act.put, List.setIfInBounds_toArray, List.set_cons_zero, List.set_cons_succ]; try rfl)
                      refine takeH (i := 22) (v := ?_) (a' := ?_) ({ dst := some 216, op := Op.pick (Operand.tmp 198) (Operand.const (Value.bool true)) (Operand.tmp 215), type := 4, pos := "law.go:127", after := #[{ on := 4, ground := Ground.data }, { on := 21, ground := Ground.data }], guard := none }) rfl (by kernel_rfl) (by kernel_rfl) (by kernel_rfl) (fun _ _ _ h => h) (by rfl) ?_ (by assumption) ?_ ?_
                      rotate_left 2
                      · (intro w' hSw; go_simp; try with_reducible rfl)
                      · (simp only [Act.put, List.setIfInBounds_toArray, List.set_cons_zero, List.set_cons_succ]; try rfl)
                      refine wpAnyH_done (by kernel_rfl) ?_ _
                      refine NoPanic.normal ?_
                      have bX : Below w4.heap.size w4 w6 := (Below.refl w4.heap.size w4).drew.trans b6
                      have X6 := hid (X4.out.more bX)
                      clear X4 b6 bX HN HS
                      go_wp2_with fail
                      go_meet
                      case rel => exact ⟨ps, _, cap, hid X6.out.sr⟩
                  · as_aux_lemma =>
                      have s3 : decide ((ps.length : Int) ≤ (z : Int)) = false := decide_eq_false (by omega)
                      have s3' : decide (ps.length ≤ z) = false := decide_eq_false (by omega)
                      have hzl : z < ps.length := by omega
                      obtain ⟨⟨B, r⟩, hp⟩ : ∃ p, ps[z]? = some p := ⟨_, List.getElem?_eq_getElem hzl⟩
                      have hr1 : r ≠ 1 := by rw [atP_some hp] at hsl; exact hsl
                      have s4 : (r == 1) = false := by simpa using hr1
                      have s4' : (r != 1) = true := by simpa using hr1
                      clear hr1 hsl hlz
                      cases ad with
                      | none => have := X1.out.sr.prow.nil rfl; subst this; simp at hzl
                      | some a3 =>
                        go_wp2_with fail
                        refine hh.out.mono ?_
                        rintro e w3 ⟨rfl, b3⟩
                        obtain ⟨yb, hyb⟩ : ∃ yb, w3.heap.size = yb := ⟨_, rfl⟩
                        obtain ⟨w4, hw4⟩ : ∃ w4, w3.alloc (.cells #[.int .u32 0, .int .u32 0] 43) = w4 := ⟨_, rfl⟩
                        have b34 : Below w3.heap.size w3 w4 := hw4 ▸ (Below.refl _ _).alloc (Nat.le_refl _) _
                        have X4r := (X1.out.more b3).alloc (.cells #[.int .u32 0, .int .u32 0] 43)
                        have X4 := hid ((X1.out.more b3).more b34)
                        obtain ⟨f1, f2, f3⟩ := HA.out _ X4r
                        obtain ⟨g0, g1⟩ := X4r.sr.cells
                        have HN : Hid (∀ y, Below w4.heap.size w4 y → Handle y) := hid (fun y hy => ((X4.out.more hy).sr.sa.handleIs hE1.out.1))
                        have HS : Hid (∀ y, Below w4.heap.size w4 y → Below w4.heap.size w4 y) := hid (fun y hy => hy)
                        have hrow := X4r.sr.prow.second hp
                        clear hh b3 b34 d0 d1 d2 d3 e0 e1 X4r
                        replace hw4 := hid hw4
                        replace hyb := hid hyb
                        go_wp2_with fail
                        rw [hw4.out]
                        try rw [hyb.out]
                        clear f1 f2 f3 g0 g1
                        refine wp_region_noPanic ?_
                        refine wp_region_held_drew (S := fun w' => Below w4.heap.size w4 w') (by kernel_rfl) (HS.out _ (Below.refl _ _).drew) (fun hHeld => ?_)
                        refine takeH (i := 0) (v := ?_) (a' := ?_) ({ dst := some 194, op := Op.move (Operand.tmp 20), type := 27, pos := "law.go:127", after := #[], guard := none }) rfl (by kernel_rfl) (by kernel_rfl) (by kernel_rfl) (fun _ _ _ h => h) (by rfl) ?_ (by assumption) ?_ ?_
                        rotate_left 2
                        · (intro w' hSw; go_simp; try with_reducible rfl)
                        · (simp only [Act.put, List.setIfInBounds_toArray, List.set_cons_zero, List.set_cons_succ]; try rfl)
                        refine takeH (i := 2) (v := ?_) (a' := ?_) ({ dst := some 196, op := Op.move (Operand.tmp 21), type := 3, pos := "law.go:127", after := #[], guard := none }) rfl (by kernel_rfl) (by kernel_rfl) (by kernel_rfl) (fun _ _ _ h => h) (by rfl) ?_ (by assumption) ?_ ?_
                        rotate_left 2
                        · (intro w' hSw; go_simp; try with_reducible rfl)
                        · (simp only [Act.put, List.setIfInBounds_toArray, List.set_cons_zero, List.set_cons_succ]; try rfl)
                        refine wpAnyH_ready (rs := [1]) (by kernel_rfl) (by simp) ?_
                        refine AllReadyH.cons (o := { dst := some 195, op := Op.call { callee := Callee.value (Operand.func 7), args := #[Operand.tmp 194], argTypes := #[27] }, type := 3, pos := "law.go:127", after := #[{ on := 0, ground := Ground.data }], guard := none }) rfl (fun K hK => ?_) AllReadyH.nil
                        go_simp
                        refine (num_err 13 _ (HN.out _ (Below.refl _ _).drew)).mono ?_
                        rintro e w6 ⟨rfl, b6⟩
                        go_wp2_with fail
                        refine hK.out _ _ (HS.out _ ((Below.refl _ _).drew.trans b6)) (fun hHeld => ?_)
                        clear hK K
                        try simp only [Act.put, List.setIfInBounds_toArray, List.set_cons_zero, List.set_cons_succ]
                        refine takeH (i := 3) (v := ?_) (a' := ?_) ({ dst := some 197, op := Op.binOp BinOp.neq 3 (Operand.tmp 195) (Operand.tmp 196) 3, type := 4, pos := "law.go:127", after := #[{ on := 1, ground := Ground.data }, { on := 2, ground := Ground.data }], guard := none }) rfl (by kernel_rfl) (by kernel_rfl) (by kernel_rfl) (fun _ _ _ h => h) (by rfl) ?_ (by assumption) ?_ ?_
                        rotate_left 2
                        · (intro w' hSw; go_simp; try with_reducible rfl)
                        · (simp only [Act.put, List.setIfInBounds_toArray, List.set_cons_zero, List.set_cons_succ]; try rfl)
                        refine takeH (i := 4) (v := ?_) (a' := ?_) ({ dst := some 198, op := Op.move (Operand.tmp 197), type := 4, pos := "law.go:127", after := #[{ on := 3, ground := Ground.data }, { on := 1, ground := Ground.chain }], guard := none }) rfl (by kernel_rfl) (by kernel_rfl) (by kernel_rfl) (fun _ _ _ h => h) (by rfl) ?_ (by assumption) ?_ ?_
                        rotate_left 2
                        · (intro w' hSw; go_simp; try with_reducible rfl)
                        · (simp only [Act.put, List.setIfInBounds_toArray, List.set_cons_zero, List.set_cons_succ]; try rfl)
                        refine takeH (i := 5) (v := ?_) (a' := ?_) ({ dst := some 199, op := Op.move (Operand.tmp 21), type := 3, pos := "law.go:127", after := #[{ on := 4, ground := Ground.guard }], guard := some (4, false) }) rfl (by kernel_rfl) (by kernel_rfl) (by kernel_rfl) (fun _ _ _ h => h) (by rfl) ?_ (by assumption) ?_ ?_
                        rotate_left 2
                        · (intro w' hSw; go_simp; try with_reducible rfl)
                        · (simp only [Act.put, List.setIfInBounds_toArray, List.set_cons_zero, List.set_cons_succ]; try rfl)
                        refine takeH (i := 6) (v := ?_) (a' := ?_) ({ dst := some 200, op := Op.binOp BinOp.eql 3 (Operand.tmp 199) (Operand.const (Value.int IntKind.i64 0)) 3, type := 4, pos := "law.go:127", after := #[{ on := 5, ground := Ground.data }, { on := 4, ground := Ground.guard }], guard := some (4, false) }) rfl (by kernel_rfl) (by kernel_rfl) (by kernel_rfl) (fun _ _ _ h => h) (by rfl) ?_ (by assumption) ?_ ?_
                        rotate_left 2
                        · (intro w' hSw; go_simp; try with_reducible rfl)
                        · (simp only [Act.put, List.setIfInBounds_toArray, List.set_cons_zero, List.set_cons_succ]; try rfl)
                        refine takeH (i := 7) (v := ?_) (a' := ?_) ({ dst := some 201, op := Op.move (Operand.tmp 200), type := 4, pos := "law.go:127", after := #[{ on := 6, ground := Ground.data }, { on := 4, ground := Ground.chain }, { on := 4, ground := Ground.guard }], guard := some (4, false) }) rfl (by kernel_rfl) (by kernel_rfl) (by kernel_rfl) (fun _ _ _ h => h) (by rfl) ?_ (by assumption) ?_ ?_
                        rotate_left 2
                        · (intro w' hSw; go_simp; try with_reducible rfl)
                        · (simp only [Act.put, List.setIfInBounds_toArray, List.set_cons_zero, List.set_cons_succ]; try rfl)
                        refine skipH (i := 8) (a' := ?_) ({ dst := some 202, op := Op.load 43 (Operand.tmp 19), type := 43, pos := "law.go:127", after := #[{ on := 7, ground := Ground.guard }], guard := some (7, true) }) rfl (by kernel_rfl) (by kernel_rfl) (by kernel_rfl) (fun _ _ _ h => h) (by rfl) (by assumption) ?_ ?_
                        rotate_left 1
                        · (simp only [Act.put, List.setIfInBounds_toArray, List.set_cons_zero, List.set_cons_succ]; try rfl)
                        refine skipH (i := 9) (a' := ?_) ({ dst := some 203, op := Op.fieldAddr 33 (Operand.tmp 10) 1, type := 0, pos := "law.go:127", after := #[{ on := 7, ground := Ground.guard }], guard := some (7, true) }) rfl (by kernel_rfl) (by kernel_rfl) (by kernel_rfl) (fun _ _ _ h => h) (by rfl) (by assumption) ?_ ?_
                        rotate_left 1
                        · (simp only [Act.put, List.setIfInBounds_toArray, List.set_cons_zero, List.set_cons_succ]; try rfl)
                        refine skipH (i := 10) (a' := ?_) ({ dst := some 204, op := Op.load 22 (Operand.tmp 203), type := 22, pos := "law.go:127", after := #[{ on := 9, ground := Ground.data }, { on := 7, ground := Ground.guard }], guard := some (7, true) }) rfl (by kernel_rfl) (by kernel_rfl) (by kernel_rfl) (fun _ _ _ h => h) (by rfl) (by assumption) ?_ ?_
                        rotate_left 1
                        · (simp only [Act.put, List.setIfInBounds_toArray, List.set_cons_zero, List.set_cons_succ]; try rfl)
                        refine skipH (i := 11) (a' := ?_) ({ dst := some 205, op := Op.fieldAddr 39 (Operand.tmp 13) 3, type := 0, pos := "law.go:127", after := #[{ on := 7, ground := Ground.guard }], guard := some (7, true) }) rfl (by kernel_rfl) (by kernel_rfl) (by kernel_rfl) (fun _ _ _ h => h) (by rfl) (by assumption) ?_ ?_
                        rotate_left 1
                        · (simp only [Act.put, List.setIfInBounds_toArray, List.set_cons_zero, List.set_cons_succ]; try rfl)
                        refine skipH (i := 12) (a' := ?_) ({ dst := some 206, op := Op.load 3 (Operand.tmp 205), type := 3, pos := "law.go:127", after := #[{ on := 11, ground := Ground.data }, { on := 7, ground := Ground.guard }], guard := some (7, true) }) rfl (by kernel_rfl) (by kernel_rfl) (by kernel_rfl) (fun _ _ _ h => h) (by rfl) (by assumption) ?_ ?_
                        rotate_left 1
                        · (simp only [Act.put, List.setIfInBounds_toArray, List.set_cons_zero, List.set_cons_succ]; try rfl)
                        refine skipH (i := 13) (a' := ?_) ({ dst := some 207, op := Op.indexAddr 22 (Operand.tmp 204) (Operand.tmp 206), type := 0, pos := "law.go:127", after := #[{ on := 10, ground := Ground.data }, { on := 12, ground := Ground.data }, { on := 7, ground := Ground.guard }], guard := some (7, true) }) rfl (by kernel_rfl) (by kernel_rfl) (by kernel_rfl) (fun _ _ _ h => h) (by rfl) (by assumption) ?_ ?_
                        rotate_left 1
                        · (simp only [Act.put, List.setIfInBounds_toArray, List.set_cons_zero, List.set_cons_succ]; try rfl)
                        refine skipH (i := 14) (a' := ?_) ({ dst := some 208, op := Op.fieldAddr 50 (Operand.tmp 207) 0, type := 0, pos := "law.go:127", after := #[{ on := 13, ground := Ground.data }, { on := 7, ground := Ground.guard }], guard := some (7, true) }) rfl (by kernel_rfl) (by kernel_rfl) (by kernel_rfl) (fun _ _ _ h => h) (by rfl) (by assumption) ?_ ?_
                        rotate_left 1
                        · (simp only [Act.put, List.setIfInBounds_toArray, List.set_cons_zero, List.set_cons_succ]; try rfl)
                        refine skipH (i := 15) (a' := ?_) ({ dst := some 209, op := Op.load 37 (Operand.tmp 208), type := 37, pos := "law.go:127", after := #[{ on := 14, ground := Ground.data }, { on := 7, ground := Ground.guard }], guard := some (7, true) }) rfl (by kernel_rfl) (by kernel_rfl) (by kernel_rfl) (fun _ _ _ h => h) (by rfl) (by assumption) ?_ ?_
                        rotate_left 1
                        · (simp only [Act.put, List.setIfInBounds_toArray, List.set_cons_zero, List.set_cons_succ]; try rfl)
                        refine skipH (i := 16) (a' := ?_) ({ dst := some 210, op := Op.fieldAddr 39 (Operand.tmp 13) 3, type := 0, pos := "law.go:127", after := #[{ on := 7, ground := Ground.guard }], guard := some (7, true) }) rfl (by kernel_rfl) (by kernel_rfl) (by kernel_rfl) (fun _ _ _ h => h) (by rfl) (by assumption) ?_ ?_
                        rotate_left 1
                        · (simp only [Act.put, List.setIfInBounds_toArray, List.set_cons_zero, List.set_cons_succ]; try rfl)
                        refine skipH (i := 17) (a' := ?_) ({ dst := some 211, op := Op.load 3 (Operand.tmp 210), type := 3, pos := "law.go:127", after := #[{ on := 16, ground := Ground.data }, { on := 7, ground := Ground.guard }], guard := some (7, true) }) rfl (by kernel_rfl) (by kernel_rfl) (by kernel_rfl) (fun _ _ _ h => h) (by rfl) (by assumption) ?_ ?_
                        rotate_left 1
                        · (simp only [Act.put, List.setIfInBounds_toArray, List.set_cons_zero, List.set_cons_succ]; try rfl)
                        refine skipH (i := 18) (a' := ?_) ({ dst := some 212, op := Op.convert 3 37 (Operand.tmp 211), type := 37, pos := "law.go:127", after := #[{ on := 17, ground := Ground.data }, { on := 7, ground := Ground.guard }], guard := some (7, true) }) rfl (by kernel_rfl) (by kernel_rfl) (by kernel_rfl) (fun _ _ _ h => h) (by rfl) (by assumption) ?_ ?_
                        rotate_left 1
                        · (simp only [Act.put, List.setIfInBounds_toArray, List.set_cons_zero, List.set_cons_succ]; try rfl)
                        refine skipH (i := 19) (a' := ?_) ({ dst := some 213, op := Op.build 43 #[(0, Operand.tmp 209), (1, Operand.tmp 212)], type := 43, pos := "law.go:127", after := #[{ on := 15, ground := Ground.data }, { on := 18, ground := Ground.data }, { on := 7, ground := Ground.guard }], guard := some (7, true) }) rfl (by kernel_rfl) (by kernel_rfl) (by kernel_rfl) (fun _ _ _ h => h) (by rfl) (by assumption) ?_ ?_
                        rotate_left 1
                        · (simp only [Act.put, List.setIfInBounds_toArray, List.set_cons_zero, List.set_cons_succ]; try rfl)
                        refine skipH (i := 20) (a' := ?_) ({ dst := some 214, op := Op.binOp BinOp.neq 43 (Operand.tmp 202) (Operand.tmp 213) 43, type := 4, pos := "law.go:127", after := #[{ on := 8, ground := Ground.data }, { on := 19, ground := Ground.data }, { on := 7, ground := Ground.guard }], guard := some (7, true) }) rfl (by kernel_rfl) (by kernel_rfl) (by kernel_rfl) (fun _ _ _ h => h) (by rfl) (by assumption) ?_ ?_
                        rotate_left 1
                        · (simp only [Act.put, List.setIfInBounds_toArray, List.set_cons_zero, List.set_cons_succ]; try rfl)
                        refine takeH (i := 21) (v := ?_) (a' := ?_) ({ dst := some 215, op := Op.pick (Operand.tmp 201) (Operand.tmp 214) (Operand.const (Value.bool false)), type := 4, pos := "law.go:127", after := #[{ on := 7, ground := Ground.data }, { on := 20, ground := Ground.data }, { on := 4, ground := Ground.guard }], guard := some (4, false) }) rfl (by kernel_rfl) (by kernel_rfl) (by kernel_rfl) (fun _ _ _ h => h) (by rfl) ?_ (by assumption) ?_ ?_
                        rotate_left 2
                        · (intro w' hSw; go_simp; try with_reducible rfl)
                        · (simp only [Act.put, List.setIfInBounds_toArray, List.set_cons_zero, List.set_cons_succ]; try rfl)
                        refine takeH (i := 22) (v := ?_) (a' := ?_) ({ dst := some 216, op := Op.pick (Operand.tmp 198) (Operand.const (Value.bool true)) (Operand.tmp 215), type := 4, pos := "law.go:127", after := #[{ on := 4, ground := Ground.data }, { on := 21, ground := Ground.data }], guard := none }) rfl (by kernel_rfl) (by kernel_rfl) (by kernel_rfl) (fun _ _ _ h => h) (by rfl) ?_ (by assumption) ?_ ?_
                        rotate_left 2
                        · (intro w' hSw; go_simp; try with_reducible rfl)
                        · (simp only [Act.put, List.setIfInBounds_toArray, List.set_cons_zero, List.set_cons_succ]; try rfl)
                        refine wpAnyH_done (by kernel_rfl) ?_ _
                        refine NoPanic.normal ?_
                        have bX : Below w4.heap.size w4 w6 := (Below.refl w4.heap.size w4).drew.trans b6
                        have X6 := hid (X4.out.more bX)
                        clear X4 b6 bX HN HS
                        go_wp2_with fail
                        go_meet
                        case rel => exact ⟨ps, _, cap, hid X6.out.sr⟩
            · have u3 : ((κ : Int) == 3) = false := by rw [beq_eq_false_iff_ne]; omega
              have u4 : ((κ : Int) == 4) = false := by rw [beq_eq_false_iff_ne]; omega
              have u5 : ((κ : Int) == 5) = false := by rw [beq_eq_false_iff_ne]; omega
              have u6 : ((κ : Int) == 6) = false := by rw [beq_eq_false_iff_ne]; omega
              clear n3 n4 n5 n6
              by_cases hlow : lowP ps < K
              · as_aux_lemma =>
                  obtain ⟨z, hz⟩ : ∃ z, lowP ps = z := ⟨_, rfl⟩
                  rw [hz] at hlow
                  have hzl : z ≤ ps.length := hz ▸ lowP_le ps
                  obtain ⟨B, hB⟩ : ∃ B, (atP ps z).1 + 1 = B := ⟨_, rfl⟩
                  have hB2 : B < 4294967296 := by
                    rw [← hB]
                    have h0 : (atP ps z).2 = 0 := hz ▸ lowP_at ps
                    rcases Nat.lt_or_ge z ps.length with h1 | h1
                    · have hok := X1.out.sr.sa.fair.ok z _ (List.getElem?_eq_getElem h1)
                      rw [atP_some (List.getElem?_eq_getElem h1)] at h0 ⊢
                      obtain ⟨_, g2, g3⟩ := hok
                      rcases g3 with ⟨_, g3⟩ | ⟨g3, _⟩ | ⟨g3, _⟩ <;> omega
                    · rw [atP_none h1]; decide
                  obtain ⟨ps', hps'⟩ : ∃ ps', putP ps z (B, 1) = ps' := ⟨_, rfl⟩
                  have hz32 : (z : Int) % 4294967296 = (z : Int) := by omega
                  have hra := hid (fun y (hy : Prow y ad ps) => radd_hit K ad ps cap y hy X1.out.sr.nil hfl (by omega) z B hz hlow hB hB2 ps' hps')
                  have had := hid (X1.out.sr.sa.add z hz hlow hB hps')
                  clear hz hB hps' hzl
                  go_wp2_with fail
                  refine had.out.mono ?_
                  rintro e w3 ⟨rfl, s3, g3⟩
                  have hsz3 := s3.hiLe.1
                  obtain ⟨yb, hyb⟩ : ∃ yb, w3.heap.size = yb := ⟨_, rfl⟩
                  obtain ⟨w4, hw4⟩ : ∃ w4, w3.alloc (.cells #[.int .u32 B, .int .u32 (z : Int)] 43) = w4 := ⟨_, rfl⟩
                  have b34 : Below w3.heap.size w3 w4 := hw4 ▸ (Below.refl _ _).alloc (Nat.le_refl _) _
                  have X4 := hid ((X1.out.turn s3 g3).more b34)
                  have ky : Hid (w4.heap[yb]? = some (.cells #[.int .u32 B, .int .u32 (z : Int)] 43 (0, 0))) := hid (by rw [← hw4, ← hyb]; exact heap_alloc_new w3 _)
                  obtain ⟨g0, g1⟩ := X4.out.sr.cells
                  have hra4 := hid (hra.out w4 X4.out.sr.prow)
                  clear had hra s3 g3 b34 d0 d1 d2 d3 e0 e1
                  go_wp2_with fail
                  try rw [hw4]
                  refine hra4.out.mono ?_
                  rintro e w5 ⟨ad', cap', rfl, hr, hn, b5⟩
                  have hhi := X4.out.sr.sa.hiLe.1
                  obtain ⟨cb, hcb⟩ : ∃ cb, w5.heap.size = cb := ⟨_, rfl⟩
                  obtain ⟨w6, hw6⟩ : ∃ w6, w5.alloc (.cells #[.int .i64 (K : Int), .slice ad' ps'.length cap'] 33) = w6 := ⟨_, rfl⟩
                  have b56 : Below w5.heap.size w5 w6 := hw6 ▸ (Below.refl _ _).alloc (Nat.le_refl _) _
                  have X6 := hid ((X4.out.more b5).more b56)
                  have r6 : Hid (RP hi w1 w6 ad' ps') := hid (Or.inr ((hr.below b56).mono hhi))
                  have k6 : Hid (w6.heap[cb]? = some (.cells #[.int .i64 (K : Int), .slice ad' ps'.length cap'] 33 (0, 0))) := hid (by rw [← hw6, ← hcb]; exact heap_alloc_new w5 _)
                  have ky6 := hid ((b56.block _ (by have := (Array.getElem?_eq_some_iff.1 ky.out).1; have := b5.size; omega)).trans ((b5.block _ (Array.getElem?_eq_some_iff.1 ky.out).1).trans ky.out))
                  clear X4 ky hra4 hr b5 b56 g0 g1 hw4 hyb
                  go_wp2_with fail
                  try rw [hw6]
                  refine (num_nil _).mono ?_
                  rintro e w7 ⟨rfl, b7⟩
                  have X7 := hid (X6.out.more b7)
                  have r7 := hid (r6.out.below b7)
                  have k7 := (b7.block _ (Array.getElem?_eq_some_iff.1 k6.out).1).trans k6.out
                  have ky7 := (b7.block _ (Array.getElem?_eq_some_iff.1 ky6.out).1).trans ky6.out
                  obtain ⟨m0, m1⟩ := blk2 k7
                  obtain ⟨q0, q1⟩ := blk2 ky7
                  obtain ⟨e0, e1⟩ := X7.out.sr.cells
                  obtain ⟨y0, y1⟩ := X7.out.sr.runs
                  clear X6 r6 k6 ky6 b7 k7 ky7 hw6
                  go_wp2_with fail
                  go_meet
                  case rel => exact ⟨ps', ad', cap', hid (X7.out.sr.put r7.out hn rfl)⟩
              · as_aux_lemma =>
                  have had := hid (X1.out.sr.sa.addFull (by omega))
                  have hlow' : K ≤ lowP ps := by omega
                  go_wp2_with fail
                  refine had.out.mono ?_
                  rintro e w3 ⟨rfl, b3⟩
                  have X4 := hid ((X1.out.more b3).alloc (.cells #[.int .u32 0, .int .u32 0] 43))
                  obtain ⟨g0, g1⟩ := X4.out.sr.cells
                  clear had b3 d0 d1 d2 d3 e0 e1
                  go_wp2_with fail
                  refine (radd_full K ad ps cap _ X4.out.sr.prow hfl (by omega) hlow').mono ?_
                  rintro e w5 ⟨rfl, b5⟩
                  obtain ⟨cb, hcb⟩ : ∃ cb, w5.heap.size = cb := ⟨_, rfl⟩
                  obtain ⟨w6, hw6⟩ : ∃ w6, w5.alloc (.cells #[.int .i64 (K : Int), .slice ad ps.length cap] 33) = w6 := ⟨_, rfl⟩
                  have b56 : Below w5.heap.size w5 w6 := hw6 ▸ (Below.refl _ _).alloc (Nat.le_refl _) _
                  have X6 := hid ((X4.out.more b5).more b56)
                  have k6 : Hid (w6.heap[cb]? = some (.cells #[.int .i64 (K : Int), .slice ad ps.length cap] 33 (0, 0))) := hid (by rw [← hw6, ← hcb]; exact heap_alloc_new w5 _)
                  clear X4 b5 b56 g0 g1
                  go_wp2_with fail
                  try rw [hw6]
                  refine (num_err 16 _ (X6.out.sr.sa.handleIs hE1.out.1)).mono ?_
                  rintro e w7 ⟨rfl, b7⟩
                  have X7 := hid (X6.out.more b7)
                  have k7 := (b7.block _ (Array.getElem?_eq_some_iff.1 k6.out).1).trans k6.out
                  obtain ⟨m0, m1⟩ := blk2 k7
                  obtain ⟨e0, e1⟩ := X7.out.sr.cells
                  obtain ⟨y0, y1⟩ := X7.out.sr.runs
                  clear X6 k6 b7 k7 hw6
                  go_wp2_with fail
                  go_meet
                  case rel => exact ⟨ps, ad, cap, hid (X7.out.sr.put X7.out.sr.rp X7.out.sr.nil rfl)⟩
          case rest =>
            clear X1 d0 d1 d2 d3 e0 e1 HA hκ hκ7
            as_aux_lemma =>
              rename World => w5
              obtain ⟨ps, ad, cap, hS⟩ := hcut
              have sX := hid hS.out.sa
              have hPX := hid hS.out.prow
              have cXh := hid hS.out.blk
              obtain ⟨x0, x1⟩ := hS.out.cells
              have hfl := hS.out.sa.hiLe.2.2.2.2
              have HS : Hid (∀ y, Below w5.heap.size w5 y → Below w5.heap.size w5 y ∧ y.cell? ⟨bb, 0, none⟩ = some (.int .i64 (K : Int)) ∧ y.cell? ⟨bb, 1, none⟩ = some (.slice ad ps.length cap)) := fun y hy => ⟨hy, blk2 ((hy.block _ (Array.getElem?_eq_some_iff.1 cXh.out).1).trans cXh.out)⟩
              obtain ⟨fb, hfb⟩ : ∃ fb, decide (lowP ps = K) = fb := ⟨_, rfl⟩
              have hPl : Hid (∀ y, Below w5.heap.size w5 y → Calls Tryd.prog 16 #[.pointer (some ⟨ab, 0, none⟩)] y fun e w' => ∃ ad cap, e = .returned (.slice ad ps.length cap) ∧ Prow w' ad ps ∧ Below y.heap.size y w') := fun y hy => by
                obtain ⟨ob, ha⟩ := (sX.out.more hy).arena
                refine (places3_ok _ _ _ _ _ _ _ ha).mono ?_
                rintro e w' ⟨ad, cap, rfl, h1, _, _, h2⟩
                exact ⟨ad, cap, rfl, h1, h2⟩
              have hFu : Hid (∀ y, Below w5.heap.size w5 y → Calls Tryd.prog 19 #[.pointer (some ⟨ab, 0, none⟩)] y fun e w' => e = .returned (.bool fb) ∧ Below y.heap.size y w') := fun y hy => (sX.out.more hy).full fb hfb
              have hRf : Hid (∀ y, Below w5.heap.size w5 y → Calls Tryd.prog 20 #[ra K ad ps.length cap] y fun e w' => e = .returned (.bool fb) ∧ Below y.heap.size y w') := fun y hy => by
                have := rfull_ok K ad ps cap y (hPX.out.below hy) hfl (by omega)
                rw [hfb] at this
                exact this
              have hLe : Hid (∀ y, Below w5.heap.size w5 y → Calls Tryd.prog 17 #[.pointer (some ⟨ab, 0, none⟩)] y fun e w' => e = .returned (.int .i64 (((livesI ps).length : Nat) : Int)) ∧ Below y.heap.size y w') := fun y hy => by
                have := (sX.out.more hy).len
                rw [← livesI_length] at this
                exact this
              clear hfb
              go_wp2_with fail
              refine wp_region_noPanic ?_
              refine wp_region_held_drew (S := fun w' => Below w5.heap.size w5 w' ∧ w'.cell? ⟨bb, 0, none⟩ = some (.int .i64 (K : Int)) ∧ w'.cell? ⟨bb, 1, none⟩ = some (.slice ad ps.length cap)) (by kernel_rfl) (HS.out _ (Below.refl _ _).drew) (fun hHeld => ?_)
              refine takeH (i := 0) (v := ?_) (a' := ?_) ({ dst := some 217, op := Op.move (Operand.tmp 8), type := 25, pos := "law.go:138", after := #[], guard := none }) rfl (by kernel_rfl) (by kernel_rfl) (by kernel_rfl) (fun _ _ _ h => h) (by rfl) ?_ (by assumption) ?_ ?_
              rotate_left 2
              · (intro w' hSw; go_simp; try with_reducible rfl)
              · (simp only [Act.put, List.setIfInBounds_toArray, List.set_cons_zero, List.set_cons_succ]; try rfl)
              refine takeH (i := 2) (v := ?_) (a' := ?_) ({ dst := some 219, op := Op.fieldAddr 33 (Operand.tmp 10) 1, type := 0, pos := "law.go:138", after := #[], guard := none }) rfl (by kernel_rfl) (by kernel_rfl) (by kernel_rfl) (fun _ _ _ h => h) (by rfl) ?_ (by assumption) ?_ ?_
              rotate_left 2
              · (intro w' hSw; go_simp; try with_reducible rfl)
              · (simp only [Act.put, List.setIfInBounds_toArray, List.set_cons_zero, List.set_cons_succ]; try rfl)
              refine takeH (i := 3) (v := ?_) (a' := ?_) ({ dst := some 220, op := Op.load 22 (Operand.tmp 219), type := 22, pos := "law.go:138", after := #[{ on := 2, ground := Ground.data }], guard := none }) rfl (by kernel_rfl) (by kernel_rfl) (by kernel_rfl) (fun _ _ _ h => h) (by rfl) ?_ (by assumption) ?_ ?_
              rotate_left 2
              · (intro w' hSw; go_simp; try with_reducible rfl)
              · (simp only [Act.put, List.setIfInBounds_toArray, List.set_cons_zero, List.set_cons_succ]; try rfl)
              refine wpAnyH_ready (rs := [1]) (by kernel_rfl) (by simp) ?_
              refine AllReadyH.cons (o := { dst := some 218, op := Op.call { callee := Callee.value (Operand.func 16), args := #[Operand.tmp 217], argTypes := #[25] }, type := 30, pos := "law.go:138", after := #[{ on := 0, ground := Ground.data }], guard := none }) rfl (fun K hK => ?_) AllReadyH.nil
              go_simp
              refine (hPl.out _ (Below.refl _ _).drew).mono ?_
              rintro e w6 ⟨pa, pc, rfl, hp6, b6⟩
              go_wp2_with fail
              refine hK.out _ _ (HS.out _ ((Below.refl _ _).drew.trans b6)) (fun hHeld => ?_)
              clear hK K
              try simp only [Act.put, List.setIfInBounds_toArray, List.set_cons_zero, List.set_cons_succ]
              have bX6 : Below w5.heap.size w5 w6 := (Below.refl w5.heap.size w5).drew.trans b6
              refine stronger (fun w' => Below w6.heap.size w6 w' ∧ w'.cell? ⟨bb, 0, none⟩ = some (.int .i64 (K : Int)) ∧ w'.cell? ⟨bb, 1, none⟩ = some (.slice ad ps.length cap)) (fun w' h => ⟨bX6.trans (h.1.mono bX6.size), h.2⟩) ?_
              clear hHeld
              have hHeld := (show Below w6.heap.size w6 w6 ∧ w6.cell? ⟨bb, 0, none⟩ = some (.int .i64 (K : Int)) ∧ w6.cell? ⟨bb, 1, none⟩ = some (.slice ad ps.length cap) from ⟨Below.refl _ _, (HS.out _ bX6).2⟩)
              refine wpAnyH_ready (rs := [4]) (by kernel_rfl) (by simp) ?_
              refine AllReadyH.cons (o := { dst := some 221, op := Op.call { callee := Callee.value (Operand.func 15), args := #[Operand.tmp 218, Operand.tmp 220], argTypes := #[30, 22] }, type := 4, pos := "law.go:138", after := #[{ on := 1, ground := Ground.data }, { on := 3, ground := Ground.data }, { on := 1, ground := Ground.chain }], guard := none }) rfl (fun K hK => ?_) AllReadyH.nil
              go_simp
              refine (same_ok _ _ _ _ _ _ hp6 (hPX.out.below bX6)).mono ?_
              rintro e w7 ⟨rfl, b7⟩
              go_wp2_with fail
              refine hK.out _ _ (⟨b7, (HS.out _ (bX6.trans (b7.mono bX6.size))).2⟩) (fun hHeld => ?_)
              clear hK K
              try simp only [Act.put, List.setIfInBounds_toArray, List.set_cons_zero, List.set_cons_succ]
              have bX7 : Below w5.heap.size w5 w7 := bX6.trans (b7.mono bX6.size)
              refine stronger (fun w' => Below w7.heap.size w7 w' ∧ w'.cell? ⟨bb, 0, none⟩ = some (.int .i64 (K : Int)) ∧ w'.cell? ⟨bb, 1, none⟩ = some (.slice ad ps.length cap)) (fun w' h => ⟨b7.trans (h.1.mono b7.size), h.2⟩) ?_
              clear hHeld
              have hHeld := (show Below w7.heap.size w7 w7 ∧ w7.cell? ⟨bb, 0, none⟩ = some (.int .i64 (K : Int)) ∧ w7.cell? ⟨bb, 1, none⟩ = some (.slice ad ps.length cap) from ⟨Below.refl _ _, (HS.out _ bX7).2⟩)
              refine takeH (i := 5) (v := ?_) (a' := ?_) ({ dst := some 222, op := Op.unOp UnOp.not 4 (Operand.tmp 221), type := 4, pos := "law.go:138", after := #[{ on := 4, ground := Ground.data }], guard := none }) rfl (by kernel_rfl) (by kernel_rfl) (by kernel_rfl) (fun _ _ _ h => h) (by rfl) ?_ (by assumption) ?_ ?_
              rotate_left 2
              · (intro w' hSw; go_simp; try with_reducible rfl)
              · (simp only [Act.put, List.setIfInBounds_toArray, List.set_cons_zero, List.set_cons_succ]; try rfl)
              refine takeH (i := 6) (v := ?_) (a' := ?_) ({ dst := some 223, op := Op.move (Operand.tmp 222), type := 4, pos := "law.go:138", after := #[{ on := 5, ground := Ground.data }, { on := 4, ground := Ground.chain }], guard := none }) rfl (by kernel_rfl) (by kernel_rfl) (by kernel_rfl) (fun _ _ _ h => h) (by rfl) ?_ (by assumption) ?_ ?_
              rotate_left 2
              · (intro w' hSw; go_simp; try with_reducible rfl)
              · (simp only [Act.put, List.setIfInBounds_toArray, List.set_cons_zero, List.set_cons_succ]; try rfl)
              refine takeH (i := 7) (v := ?_) (a' := ?_) ({ dst := some 224, op := Op.move (Operand.tmp 8), type := 25, pos := "law.go:138", after := #[{ on := 6, ground := Ground.guard }], guard := some (6, false) }) rfl (by kernel_rfl) (by kernel_rfl) (by kernel_rfl) (fun _ _ _ h => h) (by rfl) ?_ (by assumption) ?_ ?_
              rotate_left 2
              · (intro w' hSw; go_simp; try with_reducible rfl)
              · (simp only [Act.put, List.setIfInBounds_toArray, List.set_cons_zero, List.set_cons_succ]; try rfl)
              refine takeH (i := 9) (v := ?_) (a' := ?_) ({ dst := some 226, op := Op.load 33 (Operand.tmp 10), type := 33, pos := "law.go:138", after := #[{ on := 6, ground := Ground.guard }], guard := some (6, false) }) rfl (by kernel_rfl) (by kernel_rfl) (by kernel_rfl) (fun _ _ _ h => h) (by rfl) ?_ (by assumption) ?_ ?_
              rotate_left 2
              · (intro w' hSw; go_simp; try with_reducible rfl)
              · (simp only [Act.put, List.setIfInBounds_toArray, List.set_cons_zero, List.set_cons_succ]; try rfl)
              refine wpAnyH_ready (rs := [8]) (by kernel_rfl) (by simp) ?_
              refine AllReadyH.cons (o := { dst := some 225, op := Op.call { callee := Callee.value (Operand.func 17), args := #[Operand.tmp 224], argTypes := #[25] }, type := 3, pos := "law.go:138", after := #[{ on := 7, ground := Ground.data }, { on := 6, ground := Ground.chain }, { on := 6, ground := Ground.guard }], guard := some (6, false) }) rfl (fun K hK => ?_) AllReadyH.nil
              go_simp
              refine (hLe.out _ bX7).mono ?_
              rintro e w8 ⟨rfl, b8⟩
              go_wp2_with fail
              refine hK.out _ _ (⟨b8, (HS.out _ (bX7.trans (b8.mono bX7.size))).2⟩) (fun hHeld => ?_)
              clear hK K
              try simp only [Act.put, List.setIfInBounds_toArray, List.set_cons_zero, List.set_cons_succ]
              have bX8 : Below w5.heap.size w5 w8 := bX7.trans (b8.mono bX7.size)
              refine stronger (fun w' => Below w8.heap.size w8 w' ∧ w'.cell? ⟨bb, 0, none⟩ = some (.int .i64 (K : Int)) ∧ w'.cell? ⟨bb, 1, none⟩ = some (.slice ad ps.length cap)) (fun w' h => ⟨b8.trans (h.1.mono b8.size), h.2⟩) ?_
              clear hHeld
              have hHeld := (show Below w8.heap.size w8 w8 ∧ w8.cell? ⟨bb, 0, none⟩ = some (.int .i64 (K : Int)) ∧ w8.cell? ⟨bb, 1, none⟩ = some (.slice ad ps.length cap) from ⟨Below.refl _ _, (HS.out _ bX8).2⟩)
              refine wpAnyH_ready (rs := [10]) (by kernel_rfl) (by simp) ?_
              refine AllReadyH.cons (o := { dst := some 227, op := Op.call { callee := Callee.value (Operand.func 18), args := #[Operand.tmp 226], argTypes := #[33] }, type := 57, pos := "law.go:138", after := #[{ on := 9, ground := Ground.data }, { on := 8, ground := Ground.chain }, { on := 6, ground := Ground.guard }], guard := some (6, false) }) rfl (fun K hK => ?_) AllReadyH.nil
              go_simp
              refine (rall_ok _ _ _ _ _ (hPX.out.below bX8) (by omega)).mono ?_
              rintro e w9 ⟨ja, jc, rfl, hJ9, b9⟩
              go_wp2_with fail
              refine hK.out _ _ (⟨b9, (HS.out _ (bX8.trans (b9.mono bX8.size))).2⟩) (fun hHeld => ?_)
              clear hK K
              try simp only [Act.put, List.setIfInBounds_toArray, List.set_cons_zero, List.set_cons_succ]
              have bX9 : Below w5.heap.size w5 w9 := bX8.trans (b9.mono bX8.size)
              refine stronger (fun w' => Below w9.heap.size w9 w' ∧ w'.cell? ⟨bb, 0, none⟩ = some (.int .i64 (K : Int)) ∧ w'.cell? ⟨bb, 1, none⟩ = some (.slice ad ps.length cap)) (fun w' h => ⟨b9.trans (h.1.mono b9.size), h.2⟩) ?_
              clear hHeld
              have hHeld := (show Below w9.heap.size w9 w9 ∧ w9.cell? ⟨bb, 0, none⟩ = some (.int .i64 (K : Int)) ∧ w9.cell? ⟨bb, 1, none⟩ = some (.slice ad ps.length cap) from ⟨Below.refl _ _, (HS.out _ bX9).2⟩)
              refine takeH (i := 11) (v := ?_) (a' := ?_) ({ dst := some 228, op := Op.call { callee := Callee.builtin Builtin.len, args := #[Operand.tmp 227], argTypes := #[57] }, type := 3, pos := "law.go:138", after := #[{ on := 10, ground := Ground.data }, { on := 6, ground := Ground.guard }], guard := some (6, false) }) rfl (by kernel_rfl) (by kernel_rfl) (by kernel_rfl) (fun _ _ _ h => h) (by rfl) ?_ (by assumption) ?_ ?_
              rotate_left 2
              · (intro w' hSw; go_simp; try with_reducible rfl)
              · (simp only [Act.put, List.setIfInBounds_toArray, List.set_cons_zero, List.set_cons_succ]; try rfl)
              refine takeH (i := 12) (v := ?_) (a' := ?_) ({ dst := some 229, op := Op.binOp BinOp.neq 3 (Operand.tmp 225) (Operand.tmp 228) 3, type := 4, pos := "law.go:138", after := #[{ on := 8, ground := Ground.data }, { on := 11, ground := Ground.data }, { on := 6, ground := Ground.guard }], guard := some (6, false) }) rfl (by kernel_rfl) (by kernel_rfl) (by kernel_rfl) (fun _ _ _ h => h) (by rfl) ?_ (by assumption) ?_ ?_
              rotate_left 2
              · (intro w' hSw; go_simp; try with_reducible rfl)
              · (simp only [Act.put, List.setIfInBounds_toArray, List.set_cons_zero, List.set_cons_succ]; try rfl)
              refine takeH (i := 13) (v := ?_) (a' := ?_) ({ dst := some 230, op := Op.pick (Operand.tmp 223) (Operand.const (Value.bool true)) (Operand.tmp 229), type := 4, pos := "law.go:138", after := #[{ on := 6, ground := Ground.data }, { on := 12, ground := Ground.data }], guard := none }) rfl (by kernel_rfl) (by kernel_rfl) (by kernel_rfl) (fun _ _ _ h => h) (by rfl) ?_ (by assumption) ?_ ?_
              rotate_left 2
              · (intro w' hSw; go_simp; try with_reducible rfl)
              · (simp only [Act.put, List.setIfInBounds_toArray, List.set_cons_zero, List.set_cons_succ]; try rfl)
              refine takeH (i := 14) (v := ?_) (a' := ?_) ({ dst := some 231, op := Op.move (Operand.tmp 230), type := 4, pos := "law.go:138", after := #[{ on := 13, ground := Ground.data }, { on := 10, ground := Ground.chain }], guard := none }) rfl (by kernel_rfl) (by kernel_rfl) (by kernel_rfl) (fun _ _ _ h => h) (by rfl) ?_ (by assumption) ?_ ?_
              rotate_left 2
              · (intro w' hSw; go_simp; try with_reducible rfl)
              · (simp only [Act.put, List.setIfInBounds_toArray, List.set_cons_zero, List.set_cons_succ]; try rfl)
              refine takeH (i := 15) (v := ?_) (a' := ?_) ({ dst := some 232, op := Op.move (Operand.tmp 8), type := 25, pos := "law.go:138", after := #[{ on := 14, ground := Ground.guard }], guard := some (14, false) }) rfl (by kernel_rfl) (by kernel_rfl) (by kernel_rfl) (fun _ _ _ h => h) (by rfl) ?_ (by assumption) ?_ ?_
              rotate_left 2
              · (intro w' hSw; go_simp; try with_reducible rfl)
              · (simp only [Act.put, List.setIfInBounds_toArray, List.set_cons_zero, List.set_cons_succ]; try rfl)
              refine takeH (i := 17) (v := ?_) (a' := ?_) ({ dst := some 234, op := Op.load 33 (Operand.tmp 10), type := 33, pos := "law.go:138", after := #[{ on := 14, ground := Ground.guard }], guard := some (14, false) }) rfl (by kernel_rfl) (by kernel_rfl) (by kernel_rfl) (fun _ _ _ h => h) (by rfl) ?_ (by assumption) ?_ ?_
              rotate_left 2
              · (intro w' hSw; go_simp; try with_reducible rfl)
              · (simp only [Act.put, List.setIfInBounds_toArray, List.set_cons_zero, List.set_cons_succ]; try rfl)
              refine wpAnyH_ready (rs := [16]) (by kernel_rfl) (by simp) ?_
              refine AllReadyH.cons (o := { dst := some 233, op := Op.call { callee := Callee.value (Operand.func 19), args := #[Operand.tmp 232], argTypes := #[25] }, type := 4, pos := "law.go:138", after := #[{ on := 15, ground := Ground.data }, { on := 14, ground := Ground.chain }, { on := 14, ground := Ground.guard }], guard := some (14, false) }) rfl (fun K hK => ?_) AllReadyH.nil
              go_simp
              refine (hFu.out _ bX9).mono ?_
              rintro e w10 ⟨rfl, b10⟩
              go_wp2_with fail
              refine hK.out _ _ (⟨b10, (HS.out _ (bX9.trans (b10.mono bX9.size))).2⟩) (fun hHeld => ?_)
              clear hK K
              try simp only [Act.put, List.setIfInBounds_toArray, List.set_cons_zero, List.set_cons_succ]
              have bX10 : Below w5.heap.size w5 w10 := bX9.trans (b10.mono bX9.size)
              refine stronger (fun w' => Below w10.heap.size w10 w' ∧ w'.cell? ⟨bb, 0, none⟩ = some (.int .i64 (K : Int)) ∧ w'.cell? ⟨bb, 1, none⟩ = some (.slice ad ps.length cap)) (fun w' h => ⟨b10.trans (h.1.mono b10.size), h.2⟩) ?_
              clear hHeld
              have hHeld := (show Below w10.heap.size w10 w10 ∧ w10.cell? ⟨bb, 0, none⟩ = some (.int .i64 (K : Int)) ∧ w10.cell? ⟨bb, 1, none⟩ = some (.slice ad ps.length cap) from ⟨Below.refl _ _, (HS.out _ bX10).2⟩)
              refine wpAnyH_ready (rs := [18]) (by kernel_rfl) (by simp) ?_
              refine AllReadyH.cons (o := { dst := some 235, op := Op.call { callee := Callee.value (Operand.func 20), args := #[Operand.tmp 234], argTypes := #[33] }, type := 4, pos := "law.go:138", after := #[{ on := 17, ground := Ground.data }, { on := 16, ground := Ground.chain }, { on := 14, ground := Ground.guard }], guard := some (14, false) }) rfl (fun K hK => ?_) AllReadyH.nil
              go_simp
              refine (hRf.out _ bX10).mono ?_
              rintro e w11 ⟨rfl, b11⟩
              go_wp2_with fail
              refine hK.out _ _ (⟨b11, (HS.out _ (bX10.trans (b11.mono bX10.size))).2⟩) (fun hHeld => ?_)
              clear hK K
              try simp only [Act.put, List.setIfInBounds_toArray, List.set_cons_zero, List.set_cons_succ]
              have bX11 : Below w5.heap.size w5 w11 := bX10.trans (b11.mono bX10.size)
              refine stronger (fun w' => Below w11.heap.size w11 w' ∧ w'.cell? ⟨bb, 0, none⟩ = some (.int .i64 (K : Int)) ∧ w'.cell? ⟨bb, 1, none⟩ = some (.slice ad ps.length cap)) (fun w' h => ⟨b11.trans (h.1.mono b11.size), h.2⟩) ?_
              clear hHeld
              have hHeld := (show Below w11.heap.size w11 w11 ∧ w11.cell? ⟨bb, 0, none⟩ = some (.int .i64 (K : Int)) ∧ w11.cell? ⟨bb, 1, none⟩ = some (.slice ad ps.length cap) from ⟨Below.refl _ _, (HS.out _ bX11).2⟩)
              refine takeH (i := 19) (v := ?_) (a' := ?_) ({ dst := some 236, op := Op.binOp BinOp.neq 4 (Operand.tmp 233) (Operand.tmp 235) 4, type := 4, pos := "law.go:138", after := #[{ on := 16, ground := Ground.data }, { on := 18, ground := Ground.data }, { on := 14, ground := Ground.guard }], guard := some (14, false) }) rfl (by kernel_rfl) (by kernel_rfl) (by kernel_rfl) (fun _ _ _ h => h) (by rfl) ?_ (by assumption) ?_ ?_
              rotate_left 2
              · (intro w' hSw; go_simp; try with_reducible rfl)
              · (simp only [Act.put, List.setIfInBounds_toArray, List.set_cons_zero, List.set_cons_succ]; try rfl)
              refine takeH (i := 20) (v := ?_) (a' := ?_) ({ dst := some 237, op := Op.pick (Operand.tmp 231) (Operand.const (Value.bool true)) (Operand.tmp 236), type := 4, pos := "law.go:138", after := #[{ on := 14, ground := Ground.data }, { on := 19, ground := Ground.data }], guard := none }) rfl (by kernel_rfl) (by kernel_rfl) (by kernel_rfl) (fun _ _ _ h => h) (by rfl) ?_ (by assumption) ?_ ?_
              rotate_left 2
              · (intro w' hSw; go_simp; try with_reducible rfl)
              · (simp only [Act.put, List.setIfInBounds_toArray, List.set_cons_zero, List.set_cons_succ]; try rfl)
              refine wpAnyH_done (by kernel_rfl) ?_ _
              refine NoPanic.normal ?_
              have st : Hid (∃ ps ad cap, SR lo hi ab K w1 ps ps bb ad cap w11) := hid ⟨ps, ad, cap, hS.out.more bX11⟩
              clear hS sX hPX cXh HS hPl hFu hRf hLe
              go_wp2_with fail
              go_roundw
              case rel => exact ⟨t + 1, by omega, by omega, by go_num, st⟩
              case measure => simp [intOf]; omega
      · have hstop : qs.length ≤ t ∨ (t < qs.length ∧ 200 ≤ t) := by omega
        clear hgo
        obtain ⟨ps, ad, cap, h1⟩ := hst.out
        replace h1 := hid h1
        clear hst
        rcases hstop with hstop | ⟨hstop1, hstop2⟩
        all_goals
          go_wp2_with fail
          refine (sure_ok _ h1.out.sa.env).mono ?_
          rintro e ws ⟨rfl, bs⟩
          have hs := hid (h1.out.more bs)
          clear bs
          go_wp2_with fail
          go_ret
          exact ⟨rfl, hb1.out.trans ((hlo.out ▸ hs.out.sa.below).mono hb1.out.size)⟩
  · have hld := hid (load3_bad K ad1 ps cap1 w1 hp1 hK1 (by omega) hf)
    have hrl : Hid (∀ y, Prow y ad ps → Calls Tryd.prog 6 #[.int .i64 (K : Int), .slice ad ps.length cap] y fun e w' => e = .returned (.tuple #[ra 0 none 0 0, .int .i64 1]) ∧ Below y.heap.size y w') := hid (fun y hy => by
      by_cases hle : ps.length ≤ K
      · exact rload_in K ad ps cap y hy hK1 (by omega) hle (ra 0 none 0 0) 1 (fun e => absurd e hf) (fun _ => ⟨rfl, rfl⟩)
      · exact rload_size (K : Int) ad ps.length cap y (by omega))
    clear hp1 h01 b1 hf
    go_wp2_with fail
    refine hld.out.mono ?_
    rintro e w2 ⟨rfl, b2⟩
    have hE2 := hid (hE1.out.below b2)
    have hb2 := hid (hb1.out.trans (b2.mono hb1.out.size))
    clear b2 hld
    go_wp2_with fail
    refine (hrl.out _ (hph.out.below hb2.out)).mono ?_
    rintro e w3 ⟨rfl, b3⟩
    have b3a := b3.alloc b3.size (.cells #[.int .i64 0, .slice none 0 0] 33)
    have hE3 := hid (hE2.out.below b3a)
    have hb3 := hid (hb2.out.trans (b3a.mono hb2.out.size))
    clear hE2 b3 b3a hrl
    go_wp2_with fail
    refine (num_err 1 _ hE3.out.1).mono ?_
    rintro e w4 ⟨rfl, b4⟩
    have hE4 := hid (hE3.out.below b4)
    have hb4 := hid (hb3.out.trans (b4.mono hb3.out.size))
    clear hE3 b4
    go_wp2_with fail
    go_loopw [12, 13, 14, 15, 16, 17, 18, 19, 20, 21, 22, 23, 24, 25, 26, 27, 102, 125, 158, 167, 177] (fun u _ _ _ _ _ _ _ _ _ _ _ _ _ _ _ _ _ _ _ _ wr => u = .int .i64 0 ∧ wr = w4) (fun _ _ _ _ _ _ _ _ _ _ _ _ _ _ _ _ _ _ _ _ _ _ => 0)
    case atStart => exact ⟨by go_num, rfl⟩
    case round =>
      obtain ⟨rfl, rfl⟩ := hrel
      have hway : qs.length = 0 ∨ 0 < qs.length := by omega
      rcases hway with hw0 | hw0
      all_goals
        go_wp2_with fail
        refine (sure_ok _ hE4.out.2).mono ?_
        rintro e w6 ⟨rfl, b6⟩
        have hb6 := hid (hb4.out.trans (b6.mono hb4.out.size))
        clear b6
        go_wp2_with fail
        go_ret
        exact ⟨rfl, hb6.out⟩

end Go.Proofs.YtjkiagjgnfaknaaDoor
