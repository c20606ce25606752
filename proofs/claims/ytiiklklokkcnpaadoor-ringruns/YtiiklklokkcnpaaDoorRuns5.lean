/- 'RingRuns', walked. -/
import Derived.Test.YtiiklklokkcnpaaDoorTold5
import Derived.Test.YtiiklklokkcnpaaDoorMerge5
import Derived.Test.YtiiklklokkcnpaaDoorOpen5
import Derived.Deep.CutBlock
namespace Go.Proofs.YtiiklklokkcnpaaDoor
open Go.RowKit
set_option linter.unusedVariables false

/-- Rings and the document's lists, held against one another. -/
structure RR (lo : Nat) (w : World) (rb fb K : Nat) (v : Nat → Int) (seq : Nat → List Nat) (x : Value) (ls : List (List Nat)) (wr : World) : Prop where
  rg : RG lo w rb fb K v seq wr
  rf : Rf wr x ls
  tie : Tie K ls seq

section
variable {lo rb fb K : Nat} {w wr : World} {v : Nat → Int} {seq : Nat → List Nat} {x : Value} {ls : List (List Nat)}

theorem RR.more (h : RR lo w rb fb K v seq x ls wr) {w' : World} (hb : Below wr.heap.size wr w') : RR lo w rb fb K v seq x ls w' := ⟨h.rg.more hb, h.rf.below hb, h.tie⟩

theorem RR.keep (h : RR lo w rb fb K v seq x ls wr) {w' : World} (g : RG lo w rb fb K v seq w') (k : Keep wr w') : RR lo w rb fb K v seq x ls w' := ⟨g, h.rf.keep k, h.tie⟩

/-- What comes of an act, and the document's answer to it. -/
def Did (K : Nat) (seq seq' : Nat → List Nat) (c : Nat) (F : Nat) (args : List Value) : Prop := ∀ (y : World) (x : Value) (ls : List (List Nat)), Rf y x ls → Tie K ls seq → Calls Tryd.prog F (x :: args).toArray y fun e w' => ∃ x' ls', e = .returned (.tuple #[x', .int .i64 (c : Int)]) ∧ Rf w' x' ls' ∧ Tie K ls' seq' ∧ Below y.heap.size y w'

theorem RG.splitBoth (h : RG lo w rb fb K v seq wr) (hK : K ≤ 1000) (a b : Nat) (ha : a < K) (hb : b < K) :
    Calls Tryd.prog 11 #[.pointer (some ⟨rb, 0, none⟩), .int .i64 (a : Int), .int .i64 (b : Int)] wr fun e w' => ∃ c seq', e = .returned (erv c) ∧ RG lo w rb fb K v seq' w' ∧ Keep wr w' ∧ Did K seq seq' c 12 [.int .i64 (a : Int), .int .i64 (b : Int)] := by
  have p := h.fs.part
  by_cases hin : b + 1 ∈ seq (a + 1)
  · by_cases hab : a = b
    · subst hab
      refine (h.split_self a ha).mono ?_
      rintro e w' ⟨rfl, h1, k1⟩
      refine ⟨20, seq, rfl, h1, k1, fun y x ls hx t => (rsplit_self x a y hx t p hK ha).mono ?_⟩
      rintro e w' ⟨rfl, rfl⟩
      exact ⟨x, ls, rfl, hx, t, Below.refl _ _⟩
    · refine (h.split a b ha hb hab hin).mono ?_
      rintro e w' ⟨rfl, h1, k1⟩
      exact ⟨0, _, rfl, h1, k1, fun y x ls hx t => rsplit_ok x a b y hx t p hK ha hb hab hin⟩
  · refine (h.split_apart a b ha hb hin).mono ?_
    rintro e w' ⟨rfl, h1, k1⟩
    refine ⟨21, seq, rfl, h1, k1, fun y x ls hx t => (rsplit_apart x a b y hx t p hK ha hb hin).mono ?_⟩
    rintro e w' ⟨rfl, rfl⟩
    exact ⟨x, ls, rfl, hx, t, Below.refl _ _⟩

theorem RG.mergeBoth (h : RG lo w rb fb K v seq wr) (hK : K ≤ 1000) (a b : Nat) (ha : a < K) (hb : b < K) :
    Calls Tryd.prog 10 #[.pointer (some ⟨rb, 0, none⟩), .int .i64 (a : Int), .int .i64 (b : Int)] wr fun e w' => ∃ c seq', e = .returned (erv c) ∧ RG lo w rb fb K v seq' w' ∧ Keep wr w' ∧ Did K seq seq' c 17 [.int .i64 (a : Int), .int .i64 (b : Int)] := by
  have p := h.fs.part
  by_cases hin : b + 1 ∈ seq (a + 1)
  · refine (h.merge_same a b ha hb hin).mono ?_
    rintro e w' ⟨rfl, h1, k1⟩
    refine ⟨20, seq, rfl, h1, k1, fun y x ls hx t => (rmerge_same x a b y hx t p hK ha hb hin).mono ?_⟩
    rintro e w' ⟨rfl, rfl⟩
    exact ⟨x, ls, rfl, hx, t, Below.refl _ _⟩
  · refine (h.merge a b ha hb hin).mono ?_
    rintro e w' ⟨rfl, h1, k1⟩
    exact ⟨0, _, rfl, h1, k1, fun y x ls hx t => rmerge_ok x a b y hx t p hK ha hb hin⟩

theorem RG.apartBoth (h : RG lo w rb fb K v seq wr) (hK : K ≤ 1000) (a : Nat) (ha : a < K) :
    Calls Tryd.prog 13 #[.pointer (some ⟨rb, 0, none⟩), .int .i64 (a : Int)] wr fun e w' => ∃ c seq', e = .returned (erv c) ∧ RG lo w rb fb K v seq' w' ∧ Keep wr w' ∧ Did K seq seq' c 14 [.int .i64 (a : Int)] := by
  have p := h.fs.part
  have hp := List.length_pos_of_mem (p.self (a + 1) (by omega))
  by_cases h1l : (seq (a + 1)).length = 1
  · refine (h.apart_alone a ha h1l).mono ?_
    rintro e w' ⟨rfl, h1, k1⟩
    refine ⟨20, seq, rfl, h1, k1, fun y x ls hx t => (rapart_alone x a y hx t p hK ha h1l).mono ?_⟩
    rintro e w' ⟨rfl, rfl⟩
    exact ⟨x, ls, rfl, hx, t, Below.refl _ _⟩
  · refine (h.apart a ha (by omega)).mono ?_
    rintro e w' ⟨d, hd, rfl, h1, k1⟩
    exact ⟨0, _, rfl, h1, k1, fun y x ls hx t => rapart_ok x a d y hx t p hK ha (by omega) hd⟩
end

set_option maxRecDepth 100000 in
set_option maxHeartbeats 8000000 in
theorem runs_law (n : Int) (ad : Option Addr) (qs : List Act3) (cap : Nat) (w : World) (hg : Handle w) (hq : Acts3 w ad qs) :
    Calls Tryd.prog 3 #[.int .i64 n, .slice ad qs.length cap] w fun e w' => e = .returned (.bool true) ∧ Below w.heap.size w w' := by
  obtain ⟨K, hK, hK1, hK2⟩ := mod_up n 20 (by decide) (by decide)
  have hK20 : K ≤ 20 := by omega
  have hql := hq.bound
  have hnew := hid (gnew_ok K w (by omega) (by omega))
  replace hq := hid hq
  replace hg := hid hg
  go_enter Tryd.func3, Tryd.ntmps3
  go_wp2_with fail
  try rw [hK]
  refine hnew.out.mono ?_
  rintro e w1 ⟨rb, fb, rfl, h1⟩
  replace h1 := hid h1
  clear hnew hK
  go_wp2_with fail
  refine (rnew_ok K w1 (by omega) (by omega)).mono ?_
  rintro e w2 ⟨x2, rfl, f2, b2⟩
  have st2 : Hid (∃ v seq ls, RR w.heap.size w rb fb K v seq x2 ls w2) := hid ⟨_, _, _, h1.out.more b2, f2, tie_new K⟩
  clear h1 f2 b2
  go_wp2_with fail
  go_loopw [8, 9, 10, 11, 12, 13, 14, 15, 16, 17, 18, 19, 107, 122, 133] (fun x u _ _ _ _ _ _ _ _ _ _ _ _ _ wr => ∃ t : Nat, t ≤ qs.length ∧ t ≤ 80 ∧ u = .int .i64 (t : Int) ∧ Hid (∃ v seq ls, RR w.heap.size w rb fb K v seq x ls wr)) (fun _ u _ _ _ _ _ _ _ _ _ _ _ _ _ _ => 80 - (intOf u).toNat)
  case atStart => exact ⟨0, by omega, by omega, by go_num, st2⟩
  case round =>
    clear st2
    obtain ⟨t, ht1, ht2, rfl, hst⟩ := hrel
    by_cases hgo : t < qs.length ∧ t < 80
    · obtain ⟨hgo1, hgo2⟩ := hgo
      obtain ⟨q, hqt⟩ : ∃ q, qs[t]? = some q := ⟨_, List.getElem?_eq_getElem hgo1⟩
      obtain ⟨v, seq, ls, h1⟩ := hst.out
      cases ad with
      | none => have := hq.out.nil rfl; subst this; simp at hgo1
      | some a0 =>
        obtain ⟨c0, c1, c2⟩ := (hq.out.below h1.rg.fs.below).at hqt
        obtain ⟨κ, hκ, hκ8⟩ := mod_inN q.k 8 (by decide) (by decide)
        have hκ : wrap64 ((IntKind.u64.wrap q.k).tmod 8) = (κ : Int) := hκ
        have h2 := h1.more (Below.refl wr.heap.size wr).drew
        have i1 : (0 : Int) ≤ (t : Int) := by omega
        have i2 : (t : Int) < (qs.length : Int) := by omega
        replace h1 := hid h1
        clear hqt hst
        go_wp2_with fail
        go_region
        generalize hwd : wr.drew = w2 at h2 ⊢
        have d0 : w2.cell? (a0.add (t * 3)) = some (.int .i64 q.k) := by rw [← hwd]; exact c0
        replace h2 := hid h2
        clear h1 c0 c1 c2 hwd
        by_cases hin : (0 ≤ q.a ∧ q.a < (K : Int)) ∧ (0 ≤ q.b ∧ q.b < (K : Int))
        · obtain ⟨a, hae⟩ : ∃ a : Nat, q.a = (a : Int) := ⟨q.a.toNat, by omega⟩
          obtain ⟨b, hbe⟩ : ∃ b : Nat, q.b = (b : Int) := ⟨q.b.toNat, by omega⟩
          have haK : a < K := by omega
          have hbK : b < K := by omega
          rw [hae, hbe]
          have t1 : decide ((a : Int) < 0) = false := decide_eq_false (by omega)
          have t2 : decide ((K : Int) ≤ (a : Int)) = false := decide_eq_false (by omega)
          have t2' : decide (K ≤ a) = false := decide_eq_false (by omega)
          have t3 : decide ((b : Int) < 0) = false := decide_eq_false (by omega)
          have t4 : decide ((K : Int) ≤ (b : Int)) = false := decide_eq_false (by omega)
          have t4' : decide (K ≤ b) = false := decide_eq_false (by omega)
          clear hin hae hbe
          go_upto_block 2 with fail
          clear t1 t2 t2' t3 t4 t4'
          go_cut [8, 12, 13] from 38 to 179 (fun x g f wc => ∃ (v : Nat → Int) (seq : Nat → List Nat) (ls : List (List Nat)) (c : Nat), g = erv c ∧ f = .int .i64 (c : Int) ∧ Hid (RR w.heap.size w rb fb K v seq x ls wc))
          case first =>
            have kinds : κ = 3 ∨ κ = 4 ∨ κ = 5 ∨ κ = 6 ∨ κ = 7 ∨ (κ ≠ 3 ∧ κ ≠ 4 ∧ κ ≠ 5 ∧ κ ≠ 6 ∧ κ ≠ 7) := by omega
            have hsp := hid (h2.out.rg.splitBoth (by omega) a b haK hbK)
            have hap := hid (h2.out.rg.apartBoth (by omega) a haK)
            have hmg := hid (h2.out.rg.mergeBoth (by omega) a b haK hbK)
            rcases kinds with rfl | rfl | rfl | rfl | rfl | ⟨n3, n4, n5, n6, n7⟩
            iterate 3
              (go_wp2_with fail
               refine hsp.out.mono ?_
               rintro e w3 ⟨c, seq3, rfl, g3, k3, did⟩
               have hdid := hid (did w3 _ ls (h2.out.rf.keep k3) h2.out.tie)
               replace g3 := hid g3
               clear hsp hap hmg did k3
               go_wp2_with fail
               refine hdid.out.mono ?_
               rintro e w4 ⟨x4, ls4, rfl, f4, t4, b4⟩
               have st4 : Hid (RR w.heap.size w rb fb K v seq3 x4 ls4 w4) := hid ⟨g3.out.more b4, f4, t4⟩
               clear hdid g3 f4 t4 b4
               go_wp2_with fail
               go_meet
               case rel => exact ⟨v, seq3, ls4, c, rfl, rfl, st4⟩)
            · go_wp2_with fail
              refine hap.out.mono ?_
              rintro e w3 ⟨c, seq3, rfl, g3, k3, did⟩
              have hdid := hid (did w3 _ ls (h2.out.rf.keep k3) h2.out.tie)
              replace g3 := hid g3
              clear hsp hap hmg did k3
              go_wp2_with fail
              refine hdid.out.mono ?_
              rintro e w4 ⟨x4, ls4, rfl, f4, t4, b4⟩
              have st4 : Hid (RR w.heap.size w rb fb K v seq3 x4 ls4 w4) := hid ⟨g3.out.more b4, f4, t4⟩
              clear hdid g3 f4 t4 b4
              go_wp2_with fail
              go_meet
              case rel => exact ⟨v, seq3, ls4, c, rfl, rfl, st4⟩
            · go_wp2_with fail
              refine (h2.out.rg.turn a haK).mono ?_
              rintro e w3 ⟨rfl, g3, k3⟩
              have hdid := hid (rturn_ok _ a w3 (h2.out.rf.keep k3) h2.out.tie h2.out.rg.fs.part (by omega) haK)
              replace g3 := hid g3
              clear hsp hap hmg k3
              go_wp2_with fail
              refine hdid.out.mono ?_
              rintro e w4 ⟨x4, ls4, rfl, f4, t4, b4⟩
              have st4 : Hid (RR w.heap.size w rb fb K v (turnS seq (a + 1)) x4 ls4 w4) := hid ⟨g3.out.more b4, f4, t4⟩
              clear hdid g3 f4 t4 b4
              go_wp2_with fail
              go_meet
              case rel => exact ⟨v, _, ls4, 0, rfl, rfl, st4⟩
            · have u3 : ((κ : Int) == 3) = false := by rw [beq_eq_false_iff_ne]; omega
              have u4 : ((κ : Int) == 4) = false := by rw [beq_eq_false_iff_ne]; omega
              have u5 : ((κ : Int) == 5) = false := by rw [beq_eq_false_iff_ne]; omega
              have u6 : ((κ : Int) == 6) = false := by rw [beq_eq_false_iff_ne]; omega
              have u7 : ((κ : Int) == 7) = false := by rw [beq_eq_false_iff_ne]; omega
              go_wp2_with fail
              refine hmg.out.mono ?_
              rintro e w3 ⟨c, seq3, rfl, g3, k3, did⟩
              have hdid := hid (did w3 _ ls (h2.out.rf.keep k3) h2.out.tie)
              replace g3 := hid g3
              clear hsp hap hmg did k3
              go_wp2_with fail
              refine hdid.out.mono ?_
              rintro e w4 ⟨x4, ls4, rfl, f4, t4, b4⟩
              have st4 : Hid (RR w.heap.size w rb fb K v seq3 x4 ls4 w4) := hid ⟨g3.out.more b4, f4, t4⟩
              clear hdid g3 f4 t4 b4
              go_wp2_with fail
              go_meet
              case rel => exact ⟨v, seq3, ls4, c, rfl, rfl, st4⟩
          case rest =>
            clear h2 d0 hκ hκ8
            obtain ⟨v, seq, ls, c, rfl, rfl, h3⟩ := hcut
            go_wp2_with fail
            refine (num_erv c _ (h3.out.rg.fs.handle hg.out rfl)).mono ?_
            rintro e w4 ⟨rfl, b4⟩
            have h4 := hid (h3.out.more b4)
            clear h3 b4
            go_wp2_with fail
            refine (told_ok _ b h4.out.rg h4.out.rf h4.out.tie (by omega) hbK).mono ?_
            rintro e w5 ⟨rfl, g5, k5⟩
            have h5 := hid (h4.out.keep g5 k5)
            clear h4 g5 k5
            have p := hid h5.out.rg.fs.part
            go_wp2_with fail
            refine (h5.out.rf.find h5.out.tie p.out (by omega) a haK).mono ?_
            rintro e w6 ⟨i, k, rfl, hi, _, rfl⟩
            replace hi := hid hi
            go_wp2_with fail
            refine (h5.out.rf.find h5.out.tie p.out (by omega) b hbK).mono ?_
            rintro e w6 ⟨j, m, rfl, hj, _, rfl⟩
            replace hj := hid hj
            by_cases hin : b + 1 ∈ seq (a + 1)
            · have he := (p.out.one (show a + 1 ≠ 0 by omega) (show b + 1 ≠ 0 by omega)).2 hin
              have hsame := hid (h5.out.rg.same a b haK hbK true (decide_eq_true he))
              obtain rfl : i = j := h5.out.tie.alone hi.out (by rw [he]; exact hj.out)
              clear hin he
              go_wp2_with fail
              refine hsame.out.mono ?_
              rintro e w7 ⟨rfl, g7, k7⟩
              have st7 : Hid (∃ v seq ls, RR w.heap.size w rb fb K v seq _ ls w7) := hid ⟨v, seq, ls, h5.out.keep g7 k7⟩
              clear hsame g7 k7 hi hj h5
              go_wp2_with fail
              go_roundw
              case rel => exact ⟨t + 1, by omega, by omega, by go_num, st7⟩
              case measure => simp [intOf]; omega
            · have hne : seq (a + 1) ≠ seq (b + 1) := fun e => hin ((p.out.one (by omega) (by omega)).1 e)
              have hsame := hid (h5.out.rg.same a b haK hbK false (decide_eq_false hne))
              have hij : i ≠ j := fun e => by
                have h6 := hi.out
                rw [e, hj.out] at h6
                injection h6 with h6
                exact hne h6.symm
              have u1 : ((i : Int) == (j : Int)) = false := by rw [beq_eq_false_iff_ne]; omega
              clear hin hne
              go_wp2_with fail
              refine hsame.out.mono ?_
              rintro e w7 ⟨rfl, g7, k7⟩
              have st7 : Hid (∃ v seq ls, RR w.heap.size w rb fb K v seq _ ls w7) := hid ⟨v, seq, ls, h5.out.keep g7 k7⟩
              clear hsame g7 k7 hi hj h5
              go_wp2_with fail
              go_roundw
              case rel => exact ⟨t + 1, by omega, by omega, by go_num, st7⟩
              case measure => simp [intOf]; omega
        · have hmb := hid (h2.out.rg.merge_bad q.a q.b hin)
          have hsb : Hid (∀ y, RG w.heap.size w rb fb K v seq y → _) := hid (fun y hy => RG.split_bad hy q.a q.b hin)
          have ways : q.a < 0 ∨ (¬ q.a < 0 ∧ (K : Int) ≤ q.a) ∨ ((¬ q.a < 0 ∧ ¬ (K : Int) ≤ q.a) ∧ q.b < 0) ∨ ((¬ q.a < 0 ∧ ¬ (K : Int) ≤ q.a) ∧ (¬ q.b < 0 ∧ (K : Int) ≤ q.b)) := by omega
          obtain ⟨qa, hqa⟩ : ∃ z, q.a = z := ⟨_, rfl⟩
          obtain ⟨qb, hqb⟩ : ∃ z, q.b = z := ⟨_, rfl⟩
          rw [hqa, hqb] at hmb hsb ways
          rw [hqa, hqb]
          clear hin hκ hκ8 d0 hqa hqb
          rcases ways with y1 | ⟨y1, y2⟩ | ⟨⟨y1, y2⟩, y3⟩ | ⟨⟨y1, y2⟩, y3, y4⟩
          all_goals
            first
              | (have s1 : decide (qa < 0) = true := decide_eq_true y1)
              | (have s1 : decide (qa < 0) = false := decide_eq_false y1; first
                  | (have s2 : decide ((K : Int) ≤ qa) = true := decide_eq_true y2)
                  | (have s2 : decide ((K : Int) ≤ qa) = false := decide_eq_false y2; first
                      | (have s3 : decide (qb < 0) = true := decide_eq_true y3)
                      | (have s3 : decide (qb < 0) = false := decide_eq_false y3; have s4 : decide ((K : Int) ≤ qb) = true := decide_eq_true y4)))
            go_wp2_with fail
            refine hmb.out.mono ?_
            rintro e w3 ⟨rfl, g3, k3⟩
            have h3 := hid (h2.out.keep g3 k3)
            clear hmb g3 k3
            go_wp2_with fail
            refine (num_err 12 _ (h3.out.rg.fs.handle hg.out rfl)).mono ?_
            rintro e w4 ⟨rfl, b4⟩
            have h4 := hid (h3.out.more b4)
            clear h3 b4
            go_wp2_with fail
            refine (hsb.out _ h4.out.rg).mono ?_
            rintro e w5 ⟨rfl, g5, k5⟩
            have h5 := hid (h4.out.keep g5 k5)
            clear h4 g5 k5 hsb
            go_wp2_with fail
            refine (num_err 12 _ (h5.out.rg.fs.handle hg.out rfl)).mono ?_
            rintro e w6 ⟨rfl, b6⟩
            have st7 : Hid (∃ v seq ls, RR w.heap.size w rb fb K v seq _ ls w6) := hid ⟨v, seq, ls, h5.out.more b6⟩
            clear h5 b6 h2
            go_wp2_with fail
            go_roundw
            case rel => exact ⟨t + 1, by omega, by omega, by go_num, st7⟩
            case measure => simp [intOf]; omega
    · have hstop : qs.length ≤ t ∨ (t < qs.length ∧ 80 ≤ t) := by omega
      clear hgo
      obtain ⟨v, seq, ls, h1⟩ := hst.out
      replace h1 := hid h1
      clear hst
      rcases hstop with hstop | ⟨hstop1, hstop2⟩
      all_goals
        go_wp2_with fail
        refine (sure_ok _).mono ?_
        rintro e ws ⟨rfl, bs⟩
        have hs := hid (h1.out.more bs)
        clear bs
        go_wp2_with fail
        go_ret
        exact ⟨rfl, hs.out.rg.fs.below⟩

end Go.Proofs.YtiiklklokkcnpaaDoor
