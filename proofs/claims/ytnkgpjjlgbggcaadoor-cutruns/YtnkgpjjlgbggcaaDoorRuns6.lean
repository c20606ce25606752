/- 'CutRuns', walked. -/
import Derived.Test.YtnkgpjjlgbggcaaDoorTie6
import Derived.Deep.CutBlock
namespace Go.Proofs.YtnkgpjjlgbggcaaDoor
open Go.RowKit
set_option linter.unusedVariables false

/-- Where the law stands. -/
structure CR (w : World) (fb vb K : Nat) (v : Nat → Int) (lv : Value) (ls : List (Nat × Nat)) (t : Nat) (wr : World) : Prop where
  fs : FS w.heap.size w fb K v (adjL ls) wr
  vr : VB wr vb K v
  lk : Lk w.heap.size wr lv ls
  tl : TL K (adjL ls) ls
  rng : Rng v
  len : ls.length ≤ t
  hvl : w.heap.size ≤ vb

theorem Lk.keep {B : Nat} {w w' : World} {lv : Value} {ls : List (Nat × Nat)} (h : Lk B w lv ls) (k : Keep w w') : Lk B w' lv ls := by
  have h' : w.ownsRow B 42 2 lv ls.length (lcs ls) := h
  refine ⟨h'.1, ?_⟩
  rcases h'.2 with hn | ⟨g, cap, cur, e, hb', hgg, rest⟩
  · exact Or.inl hn
  · exact Or.inr ⟨g, cap, cur, e, hb', k g _ _ _ hgg (by decide) (by decide), rest⟩

theorem Lk.lower {B B' : Nat} {w : World} {lv : Value} {ls : List (Nat × Nat)} (h : Lk B w lv ls) (hb : B' ≤ B) : Lk B' w lv ls := by
  have h' : w.ownsRow B 42 2 lv ls.length (lcs ls) := h
  refine ⟨h'.1, ?_⟩
  rcases h'.2 with hn | ⟨g, cap, cur, e, hb', rest⟩
  · exact Or.inl hn
  · exact Or.inr ⟨g, cap, cur, e, by omega, rest⟩

section
variable {w wr w' : World} {fb vb B K t : Nat} {v : Nat → Int} {lv : Value} {ls : List (Nat × Nat)}

theorem CR.keep (h : CR w fb vb K v lv ls t wr) (g : FS w.heap.size w fb K v (adjL ls) w') (k : Keep wr w') : CR w fb vb K v lv ls t w' := ⟨g, h.vr.keep k, h.lk.keep k, h.tl, h.rng, h.len, h.hvl⟩

theorem CR.more (h : CR w fb vb K v lv ls t wr) (hb : Below wr.heap.size wr w') : CR w fb vb K v lv ls t w' := h.keep (h.fs.more hb) (Keep.ofBelow hb)

theorem CR.next (h : CR w fb vb K v lv ls t wr) : CR w fb vb K v lv ls (t + 1) wr := ⟨h.fs, h.vr, h.lk, h.tl, h.rng, by have := h.len; omega, h.hvl⟩

/-- The links' row grows: the rest stays. -/
theorem FS.row {adj : Nat → Nat → Prop} (h : FS w.heap.size w fb K v adj wr) {n : Nat} {xs : List Value} (ho : wr.ownsRow B 42 2 lv n xs) (hB : w.heap.size ≤ B) (hg : wr.grownBy w' lv.ownBlock) : FS w.heap.size w fb K v adj w' := by
  obtain ⟨nb, N, T, sub, seq, pp, par, f1, f2, f3, f4, f5⟩ := h.st
  have ht : Turned (fun k => lv.ownBlock = some k) wr w' := ⟨hg.os, hg.tape, hg.output, hg.size, fun k hk ho => hg.block k hk (fun e => ho e.symm)⟩
  have hty : ∀ k, lv.ownBlock = some k → ∃ cur, wr.heap[k]? = some (.cells cur 42 (0, 0)) := fun k hk => by
    rcases ho.2 with ⟨rfl, _⟩ | ⟨g, cap, cur, rfl, _, hgg, _⟩
    · cases hk
    · cases hk; exact ⟨cur, hgg⟩
  have e1 : ¬ lv.ownBlock = some fb := fun e => by
    obtain ⟨cur, hc⟩ := hty fb e
    have := f1.self
    rw [hc] at this
    injection this with this
    injection this with _ this
    exact absurd this (by decide)
  have e2 : ¬ lv.ownBlock = some nb := fun e => by
    obtain ⟨cur, hc⟩ := hty nb e
    have := f1.nodes
    rw [hc] at this
    injection this with this
    injection this with _ this
    exact absurd this (by decide)
  exact ⟨⟨nb, N, T, sub, seq, pp, par, f1.of ht e1 e2, f2, f3, f4, f5⟩, h.flo, h.below.trans (ht.below (fun j hj => Nat.le_trans hB (ho.lt j hj).1) h.below.size), h.n1, h.n2, h.lw⟩

theorem VB.row (h : VB wr vb K v) {n : Nat} {xs : List Value} (ho : wr.ownsRow B 42 2 lv n xs) (hg : wr.grownBy w' lv.ownBlock) : VB w' vb K v := by
  have hlt := (Array.getElem?_eq_some_iff.1 (show wr.heap[vb]? = _ from h)).1
  refine (hg.block vb hlt (fun e => ?_)).trans h
  rcases ho.2 with ⟨rfl, _⟩ | ⟨g, cap, cur, rfl, _, hgg, _⟩
  · cases e
  · cases e
    rw [show wr.heap[_]? = _ from h] at hgg
    injection hgg with hgg
    injection hgg with _ hgg
    exact absurd hgg (by decide)

theorem pair_new (W : World) (a b : Nat) : ∀ j u, (lcs [(a, b)])[j]? = some u → (W.alloc (.cells #[.int .i64 (a : Int), .int .i64 (b : Int)] 42)).cell? ((⟨W.heap.size, 0, none⟩ : Addr).add j) = some u := by
  intro j u hu
  rw [add_from, Nat.zero_add]
  unfold World.cell?
  rw [heap_alloc_new]
  simpa [lcs] using hu

theorem adj_eq {adj : Nat → Nat → Prop} {K : Nat} {ls : List (Nat × Nat)} (h : TL K adj ls) : adj = adjL ls := by
  funext x y
  exact propext (h.eq x y)
end

set_option maxRecDepth 100000 in
set_option maxHeartbeats 30000000 in
theorem runs_law (n : Int) (ad : Option Addr) (qs : List Act4) (cap : Nat) (w : World) (hg : Handle w) (hq : Acts w ad qs) :
    Calls Tryd.prog 3 #[.int .i64 n, .slice ad qs.length cap] w fun e w' => e = .returned (.bool true) ∧ Below w.heap.size w w' := by
  obtain ⟨i0, hif, hz0, hz1, hz2⟩ := info_parts infoPair
  obtain ⟨K, hK, hK1, hK2⟩ := mod_up n 16 (by decide) (by decide)
  have hK16 : K ≤ 16 := by omega
  have hKu : IntKind.u64.wrap (K : Int) = (K : Int) := by rw [IntKind.wrap_u64]; omega
  have hql := hq.bound
  have hmk := make_vals K (by omega)
  have hnew := hid (new_ok K w (by omega) (by omega))
  replace hq := hid hq
  replace hg := hid hg
  go_enter Tryd.func3, Tryd.ntmps3
  go_wp2_with fail
  try rw [hK]
  refine hnew.out.mono ?_
  rintro e w1 ⟨fb, rfl, h1⟩
  have hsz := h1.below.size
  have hTL : TL K noE [] := TL.nil K noE (fun x y e => e)
  have hno := adj_eq hTL
  have st1 : Hid (∃ v ls, CR w fb w1.heap.size K v (.slice none 0 0) ls 0 (w1.alloc (.cells (Array.replicate K (.int .i64 0)) 2))) := hid ⟨zero, [], hno ▸ h1.alloc _, vb_new w1 K, World.ownsRow_nil _ _ _ _, hno ▸ hTL, rng_zero, by simp, hsz⟩
  clear hnew hK h1 hsz hTL hno
  go_wp2_with fail
  generalize w1.alloc (.cells (Array.replicate K (.int .i64 0)) 2) = w2 at st1 ⊢
  generalize w1.heap.size = vb at st1 ⊢
  clear hmk
  go_loopw [8, 10, 11, 12, 13, 14, 15, 16, 17, 18, 19, 20, 150, 167] (fun x u _ _ _ _ _ _ _ _ _ _ _ _ wr => ∃ t : Nat, t ≤ qs.length ∧ t ≤ 80 ∧ u = .int .i64 (t : Int) ∧ Hid (∃ v ls, CR w fb vb K v x ls t wr)) (fun _ u _ _ _ _ _ _ _ _ _ _ _ _ _ => 80 - (intOf u).toNat)
  case atStart => exact ⟨0, by omega, by omega, by go_num, st1⟩
  case round =>
    clear st1
    obtain ⟨t, ht1, ht2, rfl, hst⟩ := hrel
    by_cases hgo : t < qs.length ∧ t < 80
    · obtain ⟨hgo1, hgo2⟩ := hgo
      obtain ⟨q, hqt⟩ : ∃ q, qs[t]? = some q := ⟨_, List.getElem?_eq_getElem hgo1⟩
      obtain ⟨v, ls, h1⟩ := hst.out
      have hqv := hid (hq.out.rng q (List.mem_of_getElem? hqt))
      cases ad with
      | none => have := hq.out.nil rfl; subst this; simp at hgo1
      | some a0 =>
        obtain ⟨c0, c1, c2, c3⟩ := (hq.out.below h1.fs.below).at hqt
        have HV : Hid (∀ y, Below w.heap.size w y → y.cell? (a0.add (t * 4)) = some (.int .i64 q.k) ∧ y.cell? ⟨(a0.add (t * 4)).block, (a0.add (t * 4)).off + 3, none⟩ = some (.int .i64 q.v)) := hid (fun y hy => by
          obtain ⟨e0, _, _, e3⟩ := (hq.out.below hy).at hqt
          exact ⟨e0, e3⟩)
        obtain ⟨κ, hκ, hκ8⟩ := mod_inN q.k 8 (by decide) (by decide)
        have hκ : wrap64 ((IntKind.u64.wrap q.k).tmod 8) = (κ : Int) := hκ
        have h2 := h1.more (Below.refl wr.heap.size wr).drew
        have i1 : (0 : Int) ≤ (t : Int) := by omega
        have i2 : (t : Int) < (qs.length : Int) := by omega
        clear hqt hst h1
        go_wp2_with fail
        go_region
        generalize hwd : wr.drew = w3 at h2 ⊢
        have hll := h2.len
        replace h2 := hid h2
        clear c0 c1 c2 c3 hwd
        by_cases hin : (0 ≤ q.a ∧ q.a < (K : Int)) ∧ (0 ≤ q.b ∧ q.b < (K : Int))
        · obtain ⟨a, hae⟩ : ∃ a : Nat, q.a = (a : Int) := ⟨q.a.toNat, by omega⟩
          obtain ⟨b, hbe⟩ : ∃ b : Nat, q.b = (b : Int) := ⟨q.b.toNat, by omega⟩
          have haK : a < K := by omega
          have hbK : b < K := by omega
          rw [hae, hbe]
          have t1 : decide ((a : Int) < 0) = false := decide_eq_false (by omega)
          have t2 : decide ((K : Int) ≤ (a : Int)) = false := decide_eq_false (by omega)
          have t2' : decide (K ≤ a) = false := decide_eq_false (by omega)
          have t3 : decide ((b : Int) < 0) = false := decide_eq_false (by omega)
          have t4 : decide ((K : Int) ≤ (b : Int)) = false := decide_eq_false (by omega)
          have t4' : decide (K ≤ b) = false := decide_eq_false (by omega)
          have j1 : (0 : Int) ≤ (a : Int) := by omega
          have j2 : (a : Int) < (K : Int) := by omega
          clear hin hae hbe
          go_wp2_with fail
          refine (rfind6_ok w.heap.size _ ls a b w3 h2.out.lk (by omega)).mono ?_
          rintro e w4 ⟨z, rfl, hfz, rfl⟩
          obtain ⟨nb, hnear, hzn, hzc⟩ : ∃ nb : Bool, Hid (Calls Tryd.prog 5 #[.pointer (some ⟨fb, 0, none⟩), .int .i64 (a : Int), .int .i64 (b : Int)] w3 fun e w' => e = .returned (.tuple #[.bool nb, .nilIface]) ∧ FS w.heap.size w fb K v (adjL ls) w' ∧ Keep w3 w') ∧ decide ((0 : Int) ≤ z) = nb ∧ Hid ((adjL ls (a + 1) (b + 1) ∧ ∃ (i : Nat) (p : Nat × Nat), z = (i : Int) ∧ ls[i]? = some p ∧ isL a b p) ∨ (¬ adjL ls (a + 1) (b + 1) ∧ z = -1)) := by
            have hf := h2.out.tl.found hfz
            rcases hf with ⟨e1, i, p, e2, e3, e4⟩ | ⟨e1, e2⟩
            · exact ⟨true, hid (h2.out.fs.nearY a b haK hbK e1), decide_eq_true (by omega), hid (Or.inl ⟨e1, i, p, e2, e3, e4⟩)⟩
            · exact ⟨false, hid (h2.out.fs.nearN a b haK hbK e1), decide_eq_false (by omega), hid (Or.inr ⟨e1, e2⟩)⟩
          clear hfz
          go_wp2_with fail
          refine hnear.out.mono ?_
          rintro e w4 ⟨rfl, g4, k4⟩
          have h4 := hid (h2.out.keep g4 k4)
          obtain ⟨d0, d3⟩ := HV.out w4 h4.out.fs.below
          clear hnear g4 k4 h2
          go_upto_block 2 with fail
          clear t1 t2 t2' t3 t4 t4'
          go_cut [8, 18, 19] from 39 to 207 (fun x _ _ wc => ∃ (v : Nat → Int) (ls : List (Nat × Nat)), Hid (CR w fb vb K v x ls (t + 1) wc))
          case first =>
            have kinds : κ = 4 ∨ κ = 5 ∨ κ = 6 ∨ κ = 7 ∨ (κ ≠ 4 ∧ κ ≠ 5 ∧ κ ≠ 6 ∧ κ ≠ 7) := by omega
            rcases kinds with rfl | rfl | rfl | rfl | ⟨n4, n5, n6, n7⟩
            iterate 2
              (rcases hzc.out with ⟨hadj, i, p, hzi, hip, hpl⟩ | ⟨hadj, hzi⟩
               · as_aux_lemma =>
                   subst hzi
                   have s1 : decide ((i : Int) < 0) = false := decide_eq_false (by omega)
                   have hil : i < ls.length := (List.getElem?_eq_some_iff.1 hip).1
                   have htl := hid (h4.out.tl.cut hip hpl)
                   have hct := hid (h4.out.fs.cut a b haK hbK hadj)
                   clear hzc hadj hip hpl hzn
                   go_wp2_with fail
                   refine hct.out.mono ?_
                   rintro e w5 ⟨rfl, g5, k5⟩
                   have v5 := hid (h4.out.vr.keep k5)
                   have l5 := hid (h4.out.lk.keep k5)
                   replace g5 := hid g5
                   clear hct k5
                   go_wp2_with fail
                   refine (rwithout6_ok w.heap.size _ ls i w5 l5.out hil (by omega)).mono ?_
                   rintro e w6 ⟨x6, rfl, l6, b6⟩
                   have st6 : Hid (CR w fb vb K v x6 (ls.take i ++ ls.drop (i + 1)) (t + 1) w6) := by
                     have hadj2 := adj_eq htl.out
                     have hsz := g5.out.below.size
                     refine hid ⟨hadj2 ▸ g5.out.more b6, v5.out.more b6, ?_, hadj2 ▸ htl.out, h4.out.rng, ?_, h4.out.hvl⟩
                     · exact l6.lower hsz
                     · have := h4.out.len
                       simp
                       omega
                   clear g5 v5 l5 l6 b6 htl h4
                   go_wp2_with fail
                   go_meet
                   case rel => exact ⟨v, _, st6⟩
               · as_aux_lemma =>
                   subst hzi
                   have hct := hid (h4.out.fs.cutN a b haK hbK hadj)
                   clear hzc hadj hzn
                   go_wp2_with fail
                   refine hct.out.mono ?_
                   rintro e w5 ⟨rfl, g5, k5⟩
                   have h5 := hid (h4.out.keep g5 k5)
                   clear hct g5 k5 h4
                   go_wp2_with fail
                   refine (num_err 21 _ (h5.out.fs.handle hg.out rfl)).mono ?_
                   rintro e w6 ⟨rfl, b6⟩
                   have st6 : Hid (CR w fb vb K v u8 ls (t + 1) w6) := hid (h5.out.more b6).next
                   clear h5 b6
                   go_wp2_with fail
                   go_meet
                   case rel => exact ⟨v, ls, st6⟩)
            iterate 2
              (as_aux_lemma =>
                 have cv := h4.out.vr.cell a haK
                 have fv := h4.out.vr.fro a
                 have f5 := hid (h4.out.fs.other h4.out.vr (by decide) (by decide) h4.out.hvl a (.int .i64 q.v))
                 have v5 := hid (h4.out.vr.set a q.v)
                 have l5 : Hid (Lk w.heap.size (w4.setCell ⟨vb, a, none⟩ (.int .i64 q.v)) u8 ls) := by
                   have hh := h4.out.lk
                   refine hid ⟨hh.1, hh.2.imp id (fun ⟨g, cap, cur, e, hb', hgg, rest⟩ => ⟨g, cap, cur, e, hb', ?_, rest⟩)⟩
                   rw [Below.heap_setCell _ _ _ _ (fun e => ?_)]
                   · exact hgg
                   · have := h4.out.vr
                     have e : g = vb := e
                     rw [e, show w4.heap[vb]? = _ from this] at hgg
                     injection hgg with hgg
                     injection hgg with _ hgg
                     exact absurd hgg (by decide)
                 obtain ⟨w5, hw5⟩ : ∃ w5, w4.setCell ⟨vb, a, none⟩ (.int .i64 q.v) = w5 := ⟨_, rfl⟩
                 rw [hw5] at f5 v5 l5
                 obtain ⟨e0, e3⟩ := HV.out w5 f5.out.below
                 clear hzc hzn
                 go_wp2_with fail
                 try rw [hw5]
                 refine (f5.out.set a haK q.v).mono ?_
                 rintro e w6 ⟨rfl, g6, k6⟩
                 have st6 : Hid (CR w fb vb K (setV v (a + 1) q.v) u8 ls (t + 1) w6) := hid ⟨g6, v5.out.keep k6, l5.out.keep k6, h4.out.tl, rng_set h4.out.rng hqv.out, by have := h4.out.len; omega, h4.out.hvl⟩
                 clear g6 k6 f5 v5 l5 h4
                 go_wp2_with fail
                 go_meet
                 case rel => exact ⟨_, ls, st6⟩)
            · have u4 : ((κ : Int) == 4) = false := by rw [beq_eq_false_iff_ne]; omega
              have u5 : ((κ : Int) == 5) = false := by rw [beq_eq_false_iff_ne]; omega
              have u6 : ((κ : Int) == 6) = false := by rw [beq_eq_false_iff_ne]; omega
              have u7 : ((κ : Int) == 7) = false := by rw [beq_eq_false_iff_ne]; omega
              have m4 : ¬ (κ : Int) = 4 := by omega
              have m5 : ¬ (κ : Int) = 5 := by omega
              have m6 : ¬ (κ : Int) = 6 := by omega
              have m7 : ¬ (κ : Int) = 7 := by omega
              have hrd : Hid (∀ y, Lk w.heap.size y u8 ls → _) := hid (fun y hy => rroad6_ok w.heap.size u8 ls K a b y hy h4.out.tl.rng haK hbK (by omega) (by omega))
              clear hzc hzn
              by_cases hroad : ∃ l, Rd (adjL ls) (a + 1) (b + 1) l
              · as_aux_lemma =>
                  obtain ⟨l0, hl0⟩ := hroad
                  have hlk := hid (h4.out.fs.link_same a b haK hbK l0 hl0)
                  go_wp2_with fail
                  refine hlk.out.mono ?_
                  rintro e w5 ⟨rfl, g5, k5⟩
                  have h5 := hid (h4.out.keep g5 k5)
                  clear hlk g5 k5 h4
                  go_wp2_with fail
                  refine (hrd.out _ h5.out.lk).mono ?_
                  rintro e w6 ⟨v6, rfl, b6, hr6⟩
                  have h6 := hid (h5.out.more b6)
                  have hform : ∃ g6 c6 L6, v6 = .slice (some ⟨g6, 0, none⟩) L6 c6 ∧ 0 < L6 := by
                    rcases hr6 with ⟨_, hno⟩ | ⟨l, ho, hl⟩
                    · exact absurd hl0.wk (hno l0)
                    · have hpos : 0 < l.length := by
                        obtain ⟨m, e, _⟩ := hl.wk.head
                        cases l with
                        | nil => cases e
                        | cons x y => simp
                      rcases ho.2 with ⟨_, e⟩ | ⟨g', cap', cur, e, _⟩
                      · omega
                      · exact ⟨g', cap', _, e, hpos⟩
                  obtain ⟨g6, c6, L6, hv6, hL6⟩ := hform
                  subst hv6
                  have s1 : decide ((0 : Int) < (L6 : Int)) = true := decide_eq_true (by omega)
                  have s2 : decide (0 < L6) = true := decide_eq_true hL6
                  clear hr6 b6 h5 hl0 hrd
                  go_wp2_with fail
                  refine (num_err 20 _ (h6.out.fs.handle hg.out rfl)).mono ?_
                  rintro e w7 ⟨rfl, b7⟩
                  have st7 : Hid (CR w fb vb K v u8 ls (t + 1) w7) := hid (h6.out.more b7).next
                  clear h6 b7
                  go_wp2_with fail
                  go_meet
                  case rel => exact ⟨v, ls, st7⟩
              · as_aux_lemma =>
                  have hno : ∀ l, ¬ Rd (adjL ls) (a + 1) (b + 1) l := fun l hl => hroad ⟨l, hl⟩
                  have hne : a ≠ b := fun e => hno [a + 1] (e ▸ ⟨Wk.one _ (by omega), by simp⟩)
                  have hnad : ¬ adjL ls (a + 1) (b + 1) := fun e => hno [a + 1, b + 1] ⟨Wk.step _ _ _ _ (by omega) e (Wk.one _ (by omega)), by simp; omega⟩
                  have htl := hid (h4.out.tl.link haK hbK hne hnad)
                  have hlk := hid (h4.out.fs.link a b haK hbK hno)
                  replace hno := hid hno
                  clear hroad hne hnad
                  go_wp2_with fail
                  refine hlk.out.mono ?_
                  rintro e w5 ⟨rfl, g5, k5⟩
                  have v5 := hid (h4.out.vr.keep k5)
                  have l5 := hid (h4.out.lk.keep k5)
                  have hadj2 := adj_eq htl.out
                  rw [hadj2] at g5
                  replace g5 := hid g5
                  clear hlk k5 hadj2
                  go_wp2_with fail
                  refine (hrd.out _ l5.out).mono ?_
                  rintro e w6 ⟨v6, rfl, b6, hr6⟩
                  have hv6 : v6 = .slice none 0 0 := by
                    rcases hr6 with ⟨e, _⟩ | ⟨l, _, hl⟩
                    · exact e
                    · exact absurd hl (hno.out _)
                  subst hv6
                  have g6 := hid (g5.out.more b6)
                  have v6' := hid (v5.out.more b6)
                  have l6 : w6.ownsRow w.heap.size 42 2 u8 ls.length (lcs ls) := l5.out.keep (Keep.ofBelow b6)
                  have hb7 := (Below.refl w6.heap.size w6).alloc (Nat.le_refl _) (.cells #[.int .i64 (a : Int), .int .i64 (b : Int)] 42)
                  have g7 := hid (g6.out.more hb7)
                  have v7 := hid (v6'.out.more hb7)
                  have l7 := l6.alloc (.cells #[.int .i64 (a : Int), .int .i64 (b : Int)] 42)
                  have hsz6 : w.heap.size ≤ w6.heap.size := g6.out.below.size
                  clear hr6 b6 g5 v5 l5 hrd hno g6 v6' l6 hb7
                  go_wp2_with (at_builtin; refine wpList_append_own _ rfl (.tmp 142) (.tmp 146) 29 rfl w.heap.size 42 i0 _ 2 16 Tryd.underlying29 hif hz0 hz1 hz2 rfl (by decide) _ _ _ rfl l7 ⟨w6.heap.size, 0, none⟩ 1 1 (lcs [(a, b)]) rfl rfl (pair_new w6 a b) (lcs_one _) (by unfold maxLen; omega) (by omega) (by simp; omega) ?_; intro x8 w8 ho8 hg8 _; refine Hid.out ?_)
                  have st8 : Hid (CR w fb vb K v x8 (ls ++ [(a, b)]) (t + 1) w8) := by
                    have hadj2 := adj_eq htl.out
                    refine hid ⟨FS.row g7.out l7 (Nat.le_refl _) hg8, VB.row v7.out l7 hg8, ?_, hadj2 ▸ htl.out, h4.out.rng, by have := h4.out.len; simp; omega, h4.out.hvl⟩
                    unfold Lk
                    rw [List.length_append, lcs_append]
                    exact ho8
                  clear g7 v7 l7 ho8 hg8 htl h4
                  refine hid ?_
                  go_wp2_with fail
                  go_meet
                  case rel => exact ⟨v, _, st8⟩
          case rest =>
            clear h4 d0 d3 hzc hzn hκ hκ8
            obtain ⟨v', ls', h5⟩ := hcut
            obtain ⟨c, hc, hcK⟩ := mod_inM q.v K (by omega) (by omega)
            obtain ⟨_, d3⟩ := HV.out wc h5.out.fs.below
            have hl5 := h5.out.len
            have hrd : Hid (∀ y, Lk w.heap.size y u8 ls' → _) := hid (fun y hy => rroad6_ok w.heap.size u8 ls' K c b y hy h5.out.tl.rng hcK hbK (by omega) (by omega))
            as_aux_lemma =>
              go_wp2_with fail
              try rw [hc]
              refine (hrd.out _ h5.out.lk).mono ?_
              rintro e w6 ⟨v6, rfl, b6, hr6⟩
              have h6 := hid (h5.out.more b6)
              rcases hr6 with ⟨e6, hno⟩ | ⟨l, ho, hl⟩
              · subst e6
                have htd := hid (told6N w.heap.size fb K c b vb v' (adjL ls') w w6 h6.out.fs hg.out rfl hcK hbK (fun l hl => hno l hl.wk))
                clear hno b6 h5 hrd
                go_wp2_with fail
                try rw [hc]
                refine htd.out.mono ?_
                rintro e w7 ⟨rfl, g7, k7⟩
                have st7 := hid (h6.out.keep g7 k7)
                clear htd h6 g7 k7
                go_wp2_with fail
                go_roundw
                case rel => exact ⟨t + 1, by omega, by omega, by go_num, ⟨v', ls', st7.out⟩⟩
                case measure => simp [intOf]; omega
              · have hpos : 0 < l.length := by
                  obtain ⟨m, e, _⟩ := hl.wk.head
                  cases l with
                  | nil => cases e
                  | cons x y => simp
                obtain ⟨g6, c6, e6, hro⟩ := RO.ofRow ho hpos
                have hr64 := h6.out.rng
                have htd := hid (told6Y w.heap.size fb K c b vb g6 c6 v' (adjL ls') (l.map (· + 1)) w w6 h6.out.fs h6.out.vr hro (by omega) hcK hbK hl (fun z _ => hr64 z))
                obtain ⟨L6, hL6⟩ : ∃ L6, (l.map (· + 1)).length = L6 := ⟨_, rfl⟩
                rw [hL6] at e6 htd
                subst e6
                clear ho hl hro hpos b6 h5 hrd hr64 hL6
                go_wp2_with fail
                try rw [hc]
                refine htd.out.mono ?_
                rintro e w7 ⟨rfl, g7, k7⟩
                have st7 := hid (h6.out.keep g7 k7)
                clear htd h6 g7 k7
                go_wp2_with fail
                go_roundw
                case rel => exact ⟨t + 1, by omega, by omega, by go_num, ⟨v', ls', st7.out⟩⟩
                case measure => simp [intOf]; omega
        · as_aux_lemma =>
            have hnb := hid (h2.out.fs.near_bad q.a q.b hin)
            have hlb : Hid (∀ y, FS w.heap.size w fb K v (adjL ls) y → _) := hid (fun y hy => FS.link_bad hy q.a q.b hin)
            have hcb : Hid (∀ y, FS w.heap.size w fb K v (adjL ls) y → _) := hid (fun y hy => FS.cut_bad hy q.a q.b hin)
            have ways : q.a < 0 ∨ (¬ q.a < 0 ∧ (K : Int) ≤ q.a) ∨ ((¬ q.a < 0 ∧ ¬ (K : Int) ≤ q.a) ∧ q.b < 0) ∨ ((¬ q.a < 0 ∧ ¬ (K : Int) ≤ q.a) ∧ (¬ q.b < 0 ∧ (K : Int) ≤ q.b)) := by omega
            obtain ⟨qa, hqa⟩ : ∃ z, q.a = z := ⟨_, rfl⟩
            obtain ⟨qb, hqb⟩ : ∃ z, q.b = z := ⟨_, rfl⟩
            rw [hqa, hqb] at hnb hlb hcb ways
            rw [hqa, hqb]
            clear hin hκ hκ8 hqa hqb
            rcases ways with y1 | ⟨y1, y2⟩ | ⟨⟨y1, y2⟩, y3⟩ | ⟨⟨y1, y2⟩, y3, y4⟩
            all_goals
              first
                | (have s1 : decide (qa < 0) = true := decide_eq_true y1)
                | (have s1 : decide (qa < 0) = false := decide_eq_false y1; first
                    | (have s2 : decide ((K : Int) ≤ qa) = true := decide_eq_true y2)
                    | (have s2 : decide ((K : Int) ≤ qa) = false := decide_eq_false y2; first
                        | (have s3 : decide (qb < 0) = true := decide_eq_true y3)
                        | (have s3 : decide (qb < 0) = false := decide_eq_false y3; have s4 : decide ((K : Int) ≤ qb) = true := decide_eq_true y4)))
              go_wp2_with fail
              refine hnb.out.mono ?_
              rintro e w4 ⟨rfl, g4, k4⟩
              have h4 := hid (h2.out.keep g4 k4)
              clear hnb g4 k4
              go_wp2_with fail
              refine (hlb.out _ h4.out.fs).mono ?_
              rintro e w5 ⟨rfl, g5, k5⟩
              have h5 := hid (h4.out.keep g5 k5)
              clear h4 g5 k5 hlb
              go_wp2_with fail
              refine (num_err 12 _ (h5.out.fs.handle hg.out rfl)).mono ?_
              rintro e w6 ⟨rfl, b6⟩
              have h6 := hid (h5.out.more b6)
              clear h5 b6
              go_wp2_with fail
              refine (hcb.out _ h6.out.fs).mono ?_
              rintro e w7 ⟨rfl, g7, k7⟩
              have h7 := hid (h6.out.keep g7 k7)
              clear h6 g7 k7 hcb
              go_wp2_with fail
              refine (num_err 12 _ (h7.out.fs.handle hg.out rfl)).mono ?_
              rintro e w8 ⟨rfl, b8⟩
              have h8 := hid (h7.out.more b8)
              clear h7 b8
              go_wp2_with fail
              refine (num_err 12 _ (h8.out.fs.handle hg.out rfl)).mono ?_
              rintro e w9 ⟨rfl, b9⟩
              have st9 : Hid (∃ v ls, CR w fb vb K v _ ls (t + 1) w9) := hid ⟨v, ls, (h8.out.more b9).next⟩
              clear h8 b9 h2
              go_wp2_with fail
              go_roundw
              case rel => exact ⟨t + 1, by omega, by omega, by go_num, st9⟩
              case measure => simp [intOf]; omega
    · have hstop : qs.length ≤ t ∨ (t < qs.length ∧ 80 ≤ t) := by omega
      clear hgo
      obtain ⟨v, ls, h1⟩ := hst.out
      replace h1 := hid h1
      clear hst
      rcases hstop with hstop | ⟨hstop1, hstop2⟩
      all_goals
        go_wp2_with fail
        refine (sure_ok _ (h1.out.fs.handle hg.out rfl)).mono ?_
        rintro e ws ⟨rfl, bs⟩
        have hs := hid (h1.out.more bs)
        clear bs
        go_wp2_with fail
        go_ret
        exact ⟨rfl, hs.out.fs.below⟩

end Go.Proofs.YtnkgpjjlgbggcaaDoor
