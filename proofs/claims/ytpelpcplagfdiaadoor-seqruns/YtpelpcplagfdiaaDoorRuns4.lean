/- 'SeqRuns', walked. -/
import Derived.Test.YtpelpcplagfdiaaDoorTold4
import Derived.Test.YtpelpcplagfdiaaDoorOpen4
import Derived.Deep.CutBlock
namespace Go.Proofs.YtpelpcplagfdiaaDoor
open Go.RowKit
set_option linter.unusedVariables false

/-- Where the law stands. -/
structure SR (w : World) (fb vb K : Nat) (v : Nat → Int) (seq : Nat → List Nat) (x : Value) (ls : List (List Nat)) (wr : World) : Prop where
  fs : FS w.heap.size w fb K v seq wr
  rf : Rf wr x ls
  tie : Tie K ls seq
  vr : VB wr vb K v
  rng : Rng v
  hvl : w.heap.size ≤ vb

/-- The act's own block. -/
def Bx (w : World) (ab : Nat) (q : Act4) : Prop := w.heap[ab]? = some (.cells #[.int .i64 q.k, .int .i64 q.a, .int .i64 q.b, .int .i64 q.v] 33 (0, 0))

theorem Bx.keep {w w' : World} {ab : Nat} {q : Act4} (h : Bx w ab q) (k : Keep w w') : Bx w' ab q := k ab _ _ _ h (by decide) (by decide)
theorem Bx.cells {w : World} {ab : Nat} {q : Act4} (h : Bx w ab q) : w.cell? ⟨ab, 0, none⟩ = some (.int .i64 q.k) ∧ w.cell? ⟨ab, 1, none⟩ = some (.int .i64 q.a) ∧ w.cell? ⟨ab, 2, none⟩ = some (.int .i64 q.b) ∧ w.cell? ⟨ab, 3, none⟩ = some (.int .i64 q.v) := by
  unfold World.cell?
  rw [show w.heap[ab]? = _ from h]
  simp

section
variable {w wr w' : World} {fb vb K ab : Nat} {v : Nat → Int} {seq : Nat → List Nat} {x : Value} {ls : List (List Nat)} {q : Act4}

theorem SR.keep (h : SR w fb vb K v seq x ls wr) (g : FS w.heap.size w fb K v seq w') (k : Keep wr w') : SR w fb vb K v seq x ls w' := ⟨g, h.rf.keep k, h.tie, h.vr.keep k, h.rng, h.hvl⟩
theorem SR.more (h : SR w fb vb K v seq x ls wr) (hb : Below wr.heap.size wr w') : SR w fb vb K v seq x ls w' := h.keep (h.fs.more hb) (Keep.ofBelow hb)

/-- A value set: rows and the act stay. -/
theorem set_keep {cs : Array Value} {fr : Nat × Nat} {b o : Nat} {u : Value} (hb : wr.heap[b]? = some (.cells cs 2 fr)) : (∀ (k : Nat) (cs' : Array Value) (t : TypeId) (fr' : Nat × Nat), wr.heap[k]? = some (.cells cs' t fr') → t ≠ 2 → (wr.setCell ⟨b, o, none⟩ u).heap[k]? = some (.cells cs' t fr')) := fun k cs' t fr' hk ht => by
  refine (Below.heap_setCell _ _ _ _ (fun e => ht ?_)).trans hk
  have e : k = b := e
  rw [e, hb] at hk
  injection hk with hk
  injection hk with _ hk
  exact hk.symm

theorem Rf.hold (h : Rf wr x ls) (k : ∀ (k : Nat) (cs' : Array Value) (t : TypeId) (fr' : Nat × Nat), wr.heap[k]? = some (.cells cs' t fr') → t ≠ 2 → w'.heap[k]? = some (.cells cs' t fr')) : Rf w' x ls := by
  obtain ⟨b, cap, cs, fr, h1, h2, h3⟩ := h
  refine ⟨b, cap, cs, fr, h1, k b _ _ _ h2 (by decide), fun i l hi => ?_⟩
  obtain ⟨u, h4, g, o, c, h5, h6, h7, cs', fr', h8, h9⟩ := h3 i l hi
  exact ⟨u, h4, g, o, c, h5, h6, h7, cs', fr', k g _ _ _ h8 (by decide), h9⟩

theorem cut_same (p : Part K seq) {y : Nat} {B : List Nat} (hy : y ≠ 0) (e : seq y = y :: B) : cutS seq [] y B = seq := by
  funext z
  unfold cutS
  rw [if_neg (by simp)]
  split
  · rename_i hz
    rw [← e] at hz ⊢
    exact (p.mem y z hy hz).1.symm
  · rfl
end

set_option maxRecDepth 100000 in
set_option maxHeartbeats 30000000 in
theorem runs_law (n : Int) (ad : Option Addr) (qs : List Act4) (cap : Nat) (w : World) (hg : Handle w) (hq : Acts w ad qs) :
    Calls Tryd.prog 3 #[.int .i64 n, .slice ad qs.length cap] w fun e w' => e = .returned (.bool true) ∧ Below w.heap.size w w' := by
  obtain ⟨K, hK, hK1, hK2⟩ := mod_up n 24 (by decide) (by decide)
  have hK24 : K ≤ 24 := by omega
  have hql := hq.bound
  have hmk := make_vals K (by omega)
  have hnew := hid (new_ok K w (by omega) (by omega))
  replace hq := hid hq
  replace hg := hid hg
  go_enter Tryd.func3, Tryd.ntmps3
  go_wp2_with fail
  try rw [hK]
  refine hnew.out.mono ?_
  rintro e w1 ⟨fb, rfl, h1⟩
  replace h1 := hid h1
  go_wp2_with fail
  try rw [hK]
  refine (rnew_ok K w1 hK1 (by omega)).mono ?_
  rintro e w2 ⟨x2, rfl, rf2, b2⟩
  have hsz := Nat.le_trans h1.out.below.size b2.size
  have ba2 : Below w2.heap.size w2 (w2.alloc (.cells (Array.replicate K (.int .i64 0)) 2)) := (Below.refl _ _).alloc (Nat.le_refl _) _
  have st1 : Hid (∃ v seq ls, SR w fb w2.heap.size K v seq x2 ls (w2.alloc (.cells (Array.replicate K (.int .i64 0)) 2))) := hid ⟨zero, one, _, (h1.out.more b2).more ba2, rf2.below ba2, tie_new K, vb_new w2 K, rng_zero, hsz⟩
  clear hnew hK h1 rf2 b2 ba2
  go_wp2_with fail
  generalize w2.alloc (.cells (Array.replicate K (.int .i64 0)) 2) = w3 at st1 ⊢
  generalize w2.heap.size = vb at st1 hsz ⊢
  clear hmk hsz
  go_loopw [8, 10] (fun x u wr => ∃ t : Nat, t ≤ qs.length ∧ t ≤ 80 ∧ u = .int .i64 (t : Int) ∧ Hid (∃ v seq ls, SR w fb vb K v seq x ls wr)) (fun _ u _ => 80 - (intOf u).toNat)
  case atStart => exact ⟨0, by omega, by omega, by go_num, st1⟩
  case round =>
    clear st1
    obtain ⟨t, ht1, ht2, rfl, hst⟩ := hrel
    by_cases hgo : t < qs.length ∧ t < 80
    · obtain ⟨hgo1, hgo2⟩ := hgo
      obtain ⟨q, hqt⟩ : ∃ q, qs[t]? = some q := ⟨_, List.getElem?_eq_getElem hgo1⟩
      obtain ⟨v, seq, ls, h1⟩ := hst.out
      have hqv := hid (hq.out.rng q (List.mem_of_getElem? hqt))
      cases ad with
      | none => have := hq.out.nil rfl; subst this; simp at hgo1
      | some a0 =>
        obtain ⟨c0, c1, c2, c3⟩ := (hq.out.below h1.fs.below).at hqt
        obtain ⟨κ, hκ0, hκ8⟩ := mod_inN q.k 8 (by decide) (by decide)
        have hκ : wrap64 ((IntKind.u64.wrap q.k).tmod 8) = (κ : Int) := hκ0
        have ba : Below wr.heap.size wr (wr.alloc (.cells #[.int .i64 q.k, .int .i64 q.a, .int .i64 q.b, .int .i64 q.v] 33)) := (Below.refl _ _).alloc (Nat.le_refl _) _
        have hbx : Bx (wr.alloc (.cells #[.int .i64 q.k, .int .i64 q.a, .int .i64 q.b, .int .i64 q.v] 33)) wr.heap.size q := heap_alloc_new _ _
        have h2 := h1.more ba
        have i1 : (0 : Int) ≤ (t : Int) := by omega
        have i2 : (t : Int) < (qs.length : Int) := by omega
        replace h2 := hid h2
        replace hbx := hid hbx
        clear hqt hst h1 hκ0 ba
        go_upto_region 11 with fail
        generalize wr.alloc (.cells #[.int .i64 q.k, .int .i64 q.a, .int .i64 q.b, .int .i64 q.v] 33) = w4 at h2 hbx ⊢
        generalize wr.heap.size = ab at hbx ⊢
        clear c0 c1 c2 c3
        obtain ⟨d0, d1, d2, d3⟩ := hbx.out.cells
        by_cases hin : (0 ≤ q.a ∧ q.a < (K : Int)) ∧ (0 ≤ q.b ∧ q.b < (K : Int))
        · obtain ⟨a, hae⟩ : ∃ a : Nat, q.a = (a : Int) := ⟨q.a.toNat, by omega⟩
          obtain ⟨b, hbe⟩ : ∃ b : Nat, q.b = (b : Int) := ⟨q.b.toNat, by omega⟩
          have haK : a < K := by omega
          have hbK : b < K := by omega
          have hBx : Hid (∀ y, Bx y ab q → y.cell? ⟨ab, 0, none⟩ = some (.int .i64 q.k) ∧ y.cell? ⟨ab, 1, none⟩ = some (.int .i64 (a : Int)) ∧ y.cell? ⟨ab, 2, none⟩ = some (.int .i64 (b : Int)) ∧ y.cell? ⟨ab, 3, none⟩ = some (.int .i64 q.v)) := fun y hy => by
            have := hy.cells
            rw [hae, hbe] at this
            exact this
          rw [hae] at d1
          rw [hbe] at d2
          have t1 : decide ((a : Int) < 0) = false := decide_eq_false (by omega)
          have t2 : decide ((K : Int) ≤ (a : Int)) = false := decide_eq_false (by omega)
          have t2' : decide (K ≤ a) = false := decide_eq_false (by omega)
          have t3 : decide ((b : Int) < 0) = false := decide_eq_false (by omega)
          have t4 : decide ((K : Int) ≤ (b : Int)) = false := decide_eq_false (by omega)
          have t4' : decide (K ≤ b) = false := decide_eq_false (by omega)
          have j1 : (0 : Int) ≤ (a : Int) := by omega
          have j2 : (a : Int) < (K : Int) := by omega
          clear hin hae hbe
          go_upto_block 2 with fail
          clear t1 t2 t2' t3 t4 t4'
          go_cut [8, 14, 15, 16, 17, 18, 19, 20] from 47 to 232 (fun x _ _ _ _ _ _ _ wc => ∃ (v : Nat → Int) (seq : Nat → List Nat) (ls : List (List Nat)), Hid (SR w fb vb K v seq x ls wc ∧ Bx wc ab q))
          case first =>
            have p := hid h2.out.fs.part
            have kinds : κ = 3 ∨ κ = 4 ∨ κ = 5 ∨ κ = 6 ∨ κ = 7 ∨ (κ ≠ 3 ∧ κ ≠ 4 ∧ κ ≠ 5 ∧ κ ≠ 6 ∧ κ ≠ 7) := by omega
            rcases kinds with rfl | rfl | rfl | rfl | rfl | ⟨n3, n4, n5, n6, n7⟩
            iterate 2
              (as_aux_lemma =>
                 go_wp2_with fail
                 refine (h2.out.fs.cut a haK).mono ?_
                 rintro e w5 ⟨A, B, hAB, rfl, g5, k5⟩
                 have hb5 := hid (hbx.out.keep k5)
                 obtain ⟨e0, e1, e2, e3⟩ := hBx.out _ hb5.out
                 have r5 := hid (h2.out.rf.keep k5)
                 have v5 := hid (h2.out.vr.keep k5)
                 clear k5
                 cases A with
                 | nil =>
                   rw [cut_same p.out (by omega) hAB] at g5
                   have hrc := hid (rcut_front _ a w5 r5.out h2.out.tie p.out (by omega) haK B hAB)
                   have st5 : Hid (SR w fb vb K v seq _ ls w5 ∧ Bx w5 ab q) := hid ⟨⟨g5, r5.out, h2.out.tie, v5.out, h2.out.rng, h2.out.hvl⟩, hb5.out⟩
                   clear hAB g5 r5 v5 hb5
                   go_wp2_with fail
                   refine hrc.out.mono ?_
                   rintro e w6 ⟨rfl, rfl⟩
                   go_wp2_with fail
                   go_meet
                   case rel => exact ⟨v, seq, ls, st5⟩
                 | cons z A' =>
                   have hrc := hid (rcut_ok _ a w5 r5.out h2.out.tie p.out (by omega) haK (z :: A') B hAB (by simp))
                   replace g5 := hid g5
                   clear hAB
                   go_wp2_with fail
                   refine hrc.out.mono ?_
                   rintro e w6 ⟨x6, ls6, rfl, rf6, tie6, b6⟩
                   have st6 : Hid (SR w fb vb K v (cutS seq (z :: A') (a + 1) B) x6 ls6 w6 ∧ Bx w6 ab q) := hid ⟨⟨g5.out.more b6, rf6, tie6, v5.out.more b6, h2.out.rng, h2.out.hvl⟩, hb5.out.keep (Keep.ofBelow b6)⟩
                   clear rf6 tie6 b6 g5 v5 hb5 r5 hrc
                   go_wp2_with fail
                   go_meet
                   case rel => exact ⟨v, _, ls6, st6⟩)
            iterate 2
              (as_aux_lemma =>
                 have hrr := hid (rrev_ok _ a w4 h2.out.rf h2.out.tie p.out (by omega) haK)
                 go_wp2_with fail
                 refine hrr.out.mono ?_
                 rintro e w5 ⟨x5, ls5, rfl, rf5, tie5, b5⟩
                 have hb5 := hid (hbx.out.keep (Keep.ofBelow b5))
                 obtain ⟨e0, e1, e2, e3⟩ := hBx.out _ hb5.out
                 have g5 := hid (h2.out.fs.more b5)
                 have v5 := hid (h2.out.vr.more b5)
                 replace rf5 := hid rf5
                 replace tie5 := hid tie5
                 clear hrr b5
                 go_wp2_with fail
                 refine (g5.out.reverse a haK).mono ?_
                 rintro e w6 ⟨rfl, g6, k6⟩
                 have st6 : Hid (SR w fb vb K v (revS seq (a + 1)) x5 ls5 w6 ∧ Bx w6 ab q) := hid ⟨⟨g6, rf5.out.keep k6, tie5.out, v5.out.keep k6, h2.out.rng, h2.out.hvl⟩, hb5.out.keep k6⟩
                 clear g6 k6 g5 v5 rf5 tie5 hb5
                 go_wp2_with fail
                 go_meet
                 case rel => exact ⟨v, _, ls5, st6⟩)
            · as_aux_lemma =>
                have cv := h2.out.vr.cell a haK
                have fv := h2.out.vr.fro a
                have hkp := set_keep (o := a) (u := .int .i64 q.v) (show w4.heap[vb]? = _ from h2.out.vr)
                have f5 := hid (h2.out.fs.other h2.out.vr (by decide) (by decide) h2.out.hvl a (.int .i64 q.v))
                have v5 := hid (h2.out.vr.set a q.v)
                have r5 := hid (h2.out.rf.hold hkp)
                have hb5 : Hid (Bx (w4.setCell ⟨vb, a, none⟩ (.int .i64 q.v)) ab q) := hid (hkp ab _ _ _ hbx.out (by decide))
                obtain ⟨w5, hw5⟩ : ∃ w5, w4.setCell ⟨vb, a, none⟩ (.int .i64 q.v) = w5 := ⟨_, rfl⟩
                rw [hw5] at f5 v5 r5 hb5
                obtain ⟨e0, e1, e2, e3⟩ := hBx.out _ hb5.out
                clear hkp
                go_wp2_with fail
                try rw [hw5]
                refine (f5.out.set a haK q.v).mono ?_
                rintro e w6 ⟨rfl, g6, k6⟩
                have st6 : Hid (SR w fb vb K (setV v (a + 1) q.v) seq _ ls w6 ∧ Bx w6 ab q) := hid ⟨⟨g6, r5.out.keep k6, h2.out.tie, v5.out.keep k6, rng_set h2.out.rng hqv.out, h2.out.hvl⟩, hb5.out.keep k6⟩
                clear g6 k6 f5 v5 r5 hb5
                go_wp2_with fail
                go_meet
                case rel => exact ⟨_, seq, ls, st6⟩
            · have u3 : ((κ : Int) == 3) = false := by rw [beq_eq_false_iff_ne]; omega
              have u4 : ((κ : Int) == 4) = false := by rw [beq_eq_false_iff_ne]; omega
              have u5 : ((κ : Int) == 5) = false := by rw [beq_eq_false_iff_ne]; omega
              have u6 : ((κ : Int) == 6) = false := by rw [beq_eq_false_iff_ne]; omega
              have u7 : ((κ : Int) == 7) = false := by rw [beq_eq_false_iff_ne]; omega
              have m3 : ¬ (κ : Int) = 3 := by omega
              have m4 : ¬ (κ : Int) = 4 := by omega
              have m5 : ¬ (κ : Int) = 5 := by omega
              have m6 : ¬ (κ : Int) = 6 := by omega
              have m7 : ¬ (κ : Int) = 7 := by omega
              by_cases hsq : seq (a + 1) = seq (b + 1)
              · as_aux_lemma =>
                  have hrj := hid (rjoin_same _ a b w4 h2.out.rf h2.out.tie p.out (by omega) haK hbK hsq)
                  have hfj := hid (h2.out.fs.join_same a b haK hbK hsq)
                  clear hsq
                  go_wp2_with fail
                  refine hrj.out.mono ?_
                  rintro e w5 ⟨rfl, rfl⟩
                  go_wp2_with fail
                  refine hfj.out.mono ?_
                  rintro e w6 ⟨rfl, g6, k6⟩
                  have h6 := hid (h2.out.keep g6 k6)
                  have hb6 := hid (hbx.out.keep k6)
                  clear g6 k6 hrj hfj
                  go_wp2_with fail
                  refine (num_err 20 _ (h6.out.fs.handle hg.out rfl)).mono ?_
                  rintro e w7 ⟨rfl, b7⟩
                  have st7 : Hid (SR w fb vb K v seq _ ls w7 ∧ Bx w7 ab q) := hid ⟨h6.out.more b7, hb6.out.keep (Keep.ofBelow b7)⟩
                  clear b7 h6 hb6
                  go_wp2_with fail
                  go_meet
                  case rel => exact ⟨v, seq, ls, st7⟩
              · as_aux_lemma =>
                  have hrj := hid (rjoin_ok _ a b w4 h2.out.rf h2.out.tie p.out (by omega) haK hbK hsq)
                  have hsqh := hid hsq
                  clear hsq
                  go_wp2_with fail
                  refine hrj.out.mono ?_
                  rintro e w5 ⟨x5, ls5, rfl, rf5, tie5, b5⟩
                  have hb5 := hid (hbx.out.keep (Keep.ofBelow b5))
                  obtain ⟨e0, e1, e2, e3⟩ := hBx.out _ hb5.out
                  have g5 := hid (h2.out.fs.more b5)
                  have v5 := hid (h2.out.vr.more b5)
                  replace rf5 := hid rf5
                  replace tie5 := hid tie5
                  clear hrj b5
                  go_wp2_with fail
                  refine (g5.out.join a b haK hbK hsqh.out).mono ?_
                  rintro e w6 ⟨rfl, g6, k6⟩
                  have st6 : Hid (SR w fb vb K v (joinS seq (a + 1) (b + 1)) x5 ls5 w6 ∧ Bx w6 ab q) := hid ⟨⟨g6, rf5.out.keep k6, tie5.out, v5.out.keep k6, h2.out.rng, h2.out.hvl⟩, hb5.out.keep k6⟩
                  clear g6 k6 g5 v5 rf5 tie5 hb5
                  go_wp2_with fail
                  go_meet
                  case rel => exact ⟨v, _, ls5, st6⟩
          case rest =>
            clear h2 hbx d0 d1 d2 d3 hκ hκ8
            as_aux_lemma =>
              obtain ⟨v', seq', ls', h5⟩ := hcut
              have p := h5.out.1.fs.part
              have hfa := hid (h5.out.1.rf.find h5.out.1.tie p (by omega) a haK)
              have hfb := hid (h5.out.1.rf.find h5.out.1.tie p (by omega) b hbK)
              obtain ⟨d0, d1, d2, d3⟩ := hBx.out _ h5.out.2
              clear p
              go_wp2_with fail
              refine hfa.out.mono ?_
              rintro e w6 ⟨i1, k1, rfl, hi1, _, rfl⟩
              replace hi1 := hid hi1
              go_wp2_with fail
              refine hfb.out.mono ?_
              rintro e w6 ⟨i2, k2, rfl, hi2, _, rfl⟩
              have hiff : (i1 = i2) ↔ (seq' (a + 1) = seq' (b + 1)) := by
                constructor
                · intro e
                  have := hi1.out
                  rw [e, hi2] at this
                  injection this with this
                  exact this.symm
                · intro e
                  exact h5.out.1.tie.alone hi1.out (by rw [e]; exact hi2)
              have hsm := h5.out.1.fs.same a b haK hbK
              obtain ⟨X, hX⟩ : ∃ X : Bool, decide (seq' (a + 1) = seq' (b + 1)) = X := ⟨_, rfl⟩
              rw [hX] at hsm
              have hii : ((i1 : Int) == (i2 : Int)) = X := by
                rw [← hX]
                by_cases e : i1 = i2
                · rw [decide_eq_true (hiff.1 e)]; simp [e]
                · rw [decide_eq_false (fun c => e (hiff.2 c))]; simp; omega
              replace hsm := hid hsm
              clear hi1 hi2 hiff hX hfa hfb
              go_wp2_with fail
              refine hsm.out.mono ?_
              rintro e w6 ⟨rfl, g6, k6⟩
              have h6 := hid (h5.out.1.keep g6 k6)
              obtain ⟨e0, e1, e2, e3⟩ := hBx.out _ (h5.out.2.keep k6)
              clear g6 k6 hsm h5
              go_wp2_with fail
              refine (told_ok _ b _ h6.out.fs hg.out rfl h6.out.vr h6.out.rng h6.out.rf h6.out.tie (by omega) hbK).mono ?_
              rintro e w7 ⟨rfl, g7, k7⟩
              have st7 := hid (h6.out.keep g7 k7)
              clear h6 g7 k7
              go_wp2_with fail
              go_roundw
              case rel => exact ⟨t + 1, by omega, by omega, by go_num, ⟨v', seq', ls', st7.out⟩⟩
              case measure => simp [intOf]; omega
        · as_aux_lemma =>
            have hsb := hid (h2.out.fs.same_bad q.a q.b hin)
            have hjb : Hid (∀ y, FS w.heap.size w fb K v seq y → _) := hid (fun y hy => FS.join_bad hy q.a q.b hin)
            have ways : q.a < 0 ∨ (¬ q.a < 0 ∧ (K : Int) ≤ q.a) ∨ ((¬ q.a < 0 ∧ ¬ (K : Int) ≤ q.a) ∧ q.b < 0) ∨ ((¬ q.a < 0 ∧ ¬ (K : Int) ≤ q.a) ∧ (¬ q.b < 0 ∧ (K : Int) ≤ q.b)) := by omega
            clear hin hκ hκ8
            rcases ways with y1 | ⟨y1, y2⟩ | ⟨⟨y1, y2⟩, y3⟩ | ⟨⟨y1, y2⟩, y3, y4⟩
            all_goals
              first
                | (have s1 : decide (q.a < 0) = true := decide_eq_true y1)
                | (have s1 : decide (q.a < 0) = false := decide_eq_false y1; first
                    | (have s2 : decide ((K : Int) ≤ q.a) = true := decide_eq_true y2)
                    | (have s2 : decide ((K : Int) ≤ q.a) = false := decide_eq_false y2; first
                        | (have s3 : decide (q.b < 0) = true := decide_eq_true y3)
                        | (have s3 : decide (q.b < 0) = false := decide_eq_false y3; have s4 : decide ((K : Int) ≤ q.b) = true := decide_eq_true y4)))
              go_wp2_with fail
              refine hsb.out.mono ?_
              rintro e w5 ⟨rfl, g5, k5⟩
              have h5 := hid (h2.out.keep g5 k5)
              obtain ⟨_, e1, e2, _⟩ := (hbx.out.keep k5).cells
              clear hsb g5 k5
              go_wp2_with fail
              refine (hjb.out _ h5.out.fs).mono ?_
              rintro e w6 ⟨rfl, g6, k6⟩
              have h6 := hid (h5.out.keep g6 k6)
              clear h5 g6 k6 hjb
              go_wp2_with fail
              refine (num_err 12 _ (h6.out.fs.handle hg.out rfl)).mono ?_
              rintro e w7 ⟨rfl, b7⟩
              have h7 := hid (h6.out.more b7)
              clear h6 b7
              go_wp2_with fail
              refine (num_err 12 _ (h7.out.fs.handle hg.out rfl)).mono ?_
              rintro e w8 ⟨rfl, b8⟩
              have st8 : Hid (∃ v seq ls, SR w fb vb K v seq _ ls w8) := hid ⟨v, seq, ls, h7.out.more b8⟩
              clear h7 b8 h2
              go_wp2_with fail
              go_roundw
              case rel => exact ⟨t + 1, by omega, by omega, by go_num, st8⟩
              case measure => simp [intOf]; omega
    · have hstop : qs.length ≤ t ∨ (t < qs.length ∧ 80 ≤ t) := by omega
      clear hgo
      obtain ⟨v, seq, ls, h1⟩ := hst.out
      replace h1 := hid h1
      clear hst
      rcases hstop with hstop | ⟨hstop1, hstop2⟩
      all_goals
        go_wp2_with fail
        refine (sure_ok _ (h1.out.fs.handle hg.out rfl)).mono ?_
        rintro e ws ⟨rfl, bs⟩
        have hs := hid (h1.out.more bs)
        clear bs
        go_wp2_with fail
        go_ret
        exact ⟨rfl, hs.out.fs.below⟩

end Go.Proofs.YtpelpcplagfdiaaDoor
