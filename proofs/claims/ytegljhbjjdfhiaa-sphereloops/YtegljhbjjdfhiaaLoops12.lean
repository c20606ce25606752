/- 'SphereLoops', walked. -/
import Derived.Test.YtegljhbjjdfhiaaIntsM10
import Derived.Test.YtegljhbjjdfhiaaBcount
import Derived.Test.YtegljhbjjdfhiaaLegal12
import Derived.Test.YtegljhbjjdfhiaaLibL10
import Derived.Deep.RegionHeld3
namespace Go.Proofs.Ytegljhbjjdfhiaa
open Go.RowKit
set_option linter.unusedVariables false

/-- Loops round one vertex, n of them. -/
structure Lp (lo tb n : Nat) (R : Nat → List Nat) (y : World) : Prop where
  ta : TA y lo tb 1 12 R
  tw : Tw 1 12 R
  laid : ∀ d, In 1 R d ↔ d < 2 * n
  ed : (es 1 R 12).length = n
  fa : iso R 1 + (fcs 1 R (2 * 12)).length = n + 1
  cm : cc 1 12 R = 1

theorem Lp.xi {lo tb n : Nat} {R : Nat → List Nat} {y : World} (h : Lp lo tb n R y) : Xi 1 12 R = 0 := by
  have h1 := h.ed
  have h2 := h.fa
  have h3 := h.cm
  unfold Xi
  rw [h1, h3]
  omega

theorem Lp.more {lo tb n : Nat} {R : Nat → List Nat} {y y' : World} (h : Lp lo tb n R y) (hb : Below y.heap.size y y') : Lp lo tb n R y' := ⟨h.ta.more hb, h.tw, h.laid, h.ed, h.fa, h.cm⟩

/-- One loop more, both corners one. -/
theorem Lp.lay {lo tb n d : Nat} {R : Nat → List Nat} {y : World} (h : Lp lo tb n R y) (hn : n < 12) (hd : d < 2 * n) :
    Co 1 R ((0 : Nat) : Int) (d : Int) ∧ One 1 R 0 0 (co (d : Int)) (co (d : Int)) ∧ ¬ In 1 R (2 * n) ∧ ¬ In 1 R (2 * n + 1) ∧ ∀ y', TA y' lo tb 1 12 (layR R n 0 0 (co (d : Int)) (co (d : Int))) → Lp lo tb (n + 1) (layR R n 0 0 (co (d : Int)) (co (d : Int))) y' := by
  have hin : d ∈ R 0 := by
    obtain ⟨v, hv, hm⟩ := (h.laid d).2 hd
    obtain rfl : v = 0 := by omega
    exact hm
  have hone : One 1 R 0 0 (some d) (some d) := ⟨0, rfl⟩
  have hno : ¬ In 1 R (2 * n) := fun q => by have := (h.laid _).1 q; omega
  have hno1 : ¬ In 1 R (2 * n + 1) := fun q => by have := (h.laid _).1 q; omega
  rw [co_some]
  refine ⟨⟨0, rfl, by decide, .inr ⟨d, rfl, hin⟩⟩, hone, hno, hno1, fun y' hy' => ?_⟩
  have hs : ∀ x, some d = some x → x ∈ R 0 := fun x e => by cases e; exact hin
  have hl := h.ta.tn.lay h.tw hn (show 0 < 1 by decide) (show 0 < 1 by decide) hs hs hno
  obtain ⟨s1, _, s3⟩ := lay_steps h.ta.tn h.tw hn (show 0 < 1 by decide) (show 0 < 1 by decide) hs hs (fun e => by cases e) (fun e => by cases e) hno
  obtain ⟨s4, s5, _⟩ := s3 rfl
  have s6 := s5 hone
  have e1 := h.ed
  have e2 := h.fa
  have e3 := h.cm
  refine ⟨hy', hl.2.1, fun x => ?_, by rw [s1, e1], by omega, by rw [s4, e3]⟩
  rw [hl.2.2 x, h.laid x]
  omega

theorem bits_and (z : Int) : ∃ b : Nat, b < 2 ∧ bits BinOp.and IntKind.i64 z 1 = (b : Int) := by
  refine ⟨((BitVec.ofInt 64 z) &&& (BitVec.ofInt 64 1)).toNat, ?_, ?_⟩
  · rw [BitVec.toNat_and]
    have : (BitVec.ofInt 64 1).toNat = 1 := by decide
    rw [this, Nat.and_one_is_mod]
    omega
  · show IntKind.i64.wrap (((BitVec.ofInt 64 z) &&& (BitVec.ofInt 64 1)).toNat : Nat) = _
    have h : ((BitVec.ofInt 64 z) &&& (BitVec.ofInt 64 1)).toNat < 2 := by
      rw [BitVec.toNat_and]
      have : (BitVec.ofInt 64 1).toNat = 1 := by decide
      rw [this, Nat.and_one_is_mod]
      omega
    rw [IntKind.wrap_i64]
    omega

theorem rn_one (w : World) : RN (w.alloc (.cells #[.int .i64 0] 3)) (.slice (some ⟨w.heap.size, 0, none⟩) 1 1) (List.range 1) := by
  refine ⟨_, 1, 1, rfl, rfl, by omega, fun j x hx => ?_⟩
  match j, hx with
  | 0, hx => cases hx; exact ⟨_, _, rfl, cell_one_new _ _ _ 0 _ rfl⟩

set_option maxRecDepth 100000 in
set_option maxHeartbeats 8000000 in
theorem loops_law (vv : Value) (zs : List Int) (w : World) (hL : IV w vv zs) :
    Calls Try.prog 4 #[vv] w fun x w' => x = .returned (.bool true) ∧ Below w.heap.size w w' := by
  have h1 := hid (new_ok 1 12 w (by decide) (by decide) (by decide) (by decide))
  have hno : ∀ d, ¬ In 1 R00 d := no00 1
  have hst1 := lay_steps (e := 0) (u := 0) (v := 0) (a := none) (b := none) (Tn.new 1 12) (Tw.new 1 12) (by decide) (by decide) (by decide) (fun y e => by cases e) (fun y e => by cases e) (fun _ => rfl) (fun _ => rfl) (hno _)
  have hl1 := (Tn.new 1 12).lay (Tw.new 1 12) (e := 0) (u := 0) (v := 0) (a := none) (b := none) (by decide) (by decide) (by decide) (fun y e => by cases e) (fun y e => by cases e) (hno _)
  have hlp1 : Hid (∀ y, TA y w.heap.size w.heap.size 1 12 (layR R00 0 0 0 none none) → Lp w.heap.size w.heap.size 1 (layR R00 0 0 0 none none) y) := hid (fun y hy => by
    obtain ⟨s1, _, s3⟩ := hst1
    obtain ⟨s4, s5, _⟩ := s3 rfl
    have s6 := s5 rfl
    replace s1 : (es 1 (layR R00 0 0 0 none none) 12).length = (es 1 R00 12).length + 1 := s1
    replace s4 : cc 1 12 (layR R00 0 0 0 none none) = cc 1 12 R00 := s4
    replace s6 : (fcs 1 (layR R00 0 0 0 none none) (2 * 12)).length + iso (layR R00 0 0 0 none none) 1 = (fcs 1 R00 (2 * 12)).length + iso R00 1 + 1 := s6
    rw [es_new, List.length_nil] at s1
    rw [cc_new] at s4
    rw [fcs_new, iso_new, List.length_nil] at s6
    refine ⟨hy, hl1.2.1, fun x => ?_, by omega, by omega, s4⟩
    rw [hl1.2.2 x]
    have := hno x
    constructor
    · rintro (q | q | q)
      · omega
      · omega
      · exact absurd q this
    · intro q
      omega)
  have h2 : Hid (∀ y : World, TA y w.heap.size w.heap.size 1 12 R00 → Calls Try.prog 12 #[.pointer (some ⟨w.heap.size, 0, none⟩), .int .i64 0, .agg #[.int .i64 0, .int .i64 (-1)], .agg #[.int .i64 0, .int .i64 (-1)]] y fun x w' => x = .returned .nilIface ∧ TA w' w.heap.size w.heap.size 1 12 (layR R00 0 0 0 none none) ∧ Kp w.heap.size y w') := hid (fun y hy => lay_ok hy 0 0 0 (-1) (-1) (by decide) (hno _) (hno _) ⟨0, rfl, by decide, .inl ⟨rfl, rfl⟩⟩ ⟨0, rfl, by decide, .inl ⟨rfl, rfl⟩⟩)
  have hsu := hid (fun y => sure_ok y)
  obtain ⟨lad, N, lcap, rfl, hsl⟩ := hL
  have hlen := hid hsl.len
  have hbig := hsl.big
  have hC : Hid (∀ y, Below w.heap.size w y → ∀ (j : Nat) z, zs[j]? = some z → ∃ b o, lad = some ⟨b, o, none⟩ ∧ y.cell? ⟨b, o + j, none⟩ = some (.int .i64 z)) := hid (fun y hy j z hz => by
    obtain ⟨b, o, e, c⟩ := hsl.cell j z hz
    exact ⟨b, o, e, (hy.cell (World.block_lt_of_cell? _ _ c)).trans c⟩)
  clear hsl hno hst1 hl1
  go_enter Try.func4, Try.ntmps4
  go_wp2_with fail
  refine h1.out.mono ?_
  rintro x w1 ⟨rfl, a1, b1⟩
  replace a1 := hid a1
  replace b1 := hid b1
  go_wp2_with fail
  refine (h2.out w1 a1.out).mono ?_
  rintro x w2 ⟨rfl, a2, k2⟩
  have b2 : Hid (Below w.heap.size w w2) := b1.out.trans (k2.below b1.out.size)
  replace a2 := hid (hlp1.out _ a2)
  clear k2 a1 b1 h1 h2 hlp1
  go_wp2_with fail
  go_loopw [5, 6, 7, 8, 9] (fun s5 s6 _ _ _ wr => ∃ (i : Nat) (R : Nat → List Nat), i ≤ N ∧ i ≤ 10 ∧ s6 = .int .i64 (i : Int) ∧ s5 = .int .i64 ((i + 1 : Nat) : Int) ∧ Hid (Lp w.heap.size w.heap.size (i + 1) R wr ∧ Below w.heap.size w wr)) (fun _ s6 _ _ _ _ => 10 - (intOf s6).toNat)
  case atStart => exact ⟨0, _, by omega, by omega, by go_num, by go_num, hid ⟨a2.out, b2.out⟩⟩
  case round =>
    obtain ⟨i, R, hi, hi10, rfl, rfl, hst⟩ := hrel
    clear a2 b2
    obtain ⟨n, hn⟩ : ∃ n, i + 1 = n := ⟨_, rfl⟩
    rw [hn] at hst ⊢
    have hnn : n ≤ 11 := by omega
    have hn1 : 1 ≤ n := by omega
    by_cases hlt : i < N ∧ i < 10
    · obtain ⟨z, hz⟩ : ∃ z, zs[i]? = some z := ⟨_, List.getElem?_eq_getElem (by rw [hlen.out]; exact hlt.1)⟩
      obtain ⟨b, o, rfl, cz⟩ := hC.out _ hst.out.2 i z hz
      have i1 : (0 : Int) ≤ (i : Int) := by omega
      have i2 : (i : Int) < (N : Int) := by omega
      have v1 : decide ((i : Int) < (N : Int)) = true := decide_eq_true (by omega)
      have v2 : decide ((i : Int) < 10) = true := decide_eq_true (by omega)
      have v2' : decide (i < 10) = true := decide_eq_true (by omega)
      obtain ⟨m, hm1, hmn, hm2⟩ := mod_inN z n hn1 (by omega)
      obtain ⟨c, hc2, hcb⟩ := bits_and z
      have u1 : IntKind.u64.wrap ((n : Nat) : Int) = (n : Int) := by rw [IntKind.wrap_u64]; omega
      have hdl : 2 * m + c < 2 * n := by omega
      have u2 : ¬ ((n : Int) = 0) := by omega
      have u5 : ¬ (n = 0) := by omega
      have u6 : ((n : Int) == 0) = false := by simp; omega
      have u3 : IntKind.i64.wrap (2 * (m : Int)) = 2 * (m : Int) := by rw [IntKind.wrap_i64]; omega
      have u4 : IntKind.i64.wrap (2 * (m : Int) + (c : Int)) = ((2 * m + c : Nat) : Int) := by rw [IntKind.wrap_i64]; omega
      clear hz
      go_upto_region 8 with fail
      go_region_held3 (fun y => y.cell? ⟨b, o + i, none⟩ = some (.int .i64 z)) (first | exact cz | go_keep) (fail)
      obtain ⟨w3, hw3⟩ : ∃ w3, (wr.alloc (.cells #[.int .i64 0, .int .i64 (2 * (m : Int) + (c : Int))] 43)).drew = w3 := ⟨_, rfl⟩
      have k3 : w3.heap[wr.heap.size]? = some (.cells #[.int .i64 0, .int .i64 (2 * (m : Int) + (c : Int))] 43 (0, 0)) := by rw [← hw3]; exact (MapKept.heap_alloc wr _).1
      have b3 : Below wr.heap.size wr w3 := by rw [← hw3]; exact (balloc wr _).drew
      rw [hw3]
      obtain ⟨L1, L2, L3, L4, L5⟩ := hst.out.1.lay (by omega) hdl
      have hco : Co 1 R ((0 : Nat) : Int) ((2 * m + c : Nat) : Int) := L1
      have hleg : Hid (∀ y, Below w3.heap.size w3 y → Calls Try.prog 11 #[.pointer (some ⟨w.heap.size, 0, none⟩), .agg #[.int .i64 0, .int .i64 (2 * (m : Int) + (c : Int))], .agg #[.int .i64 0, .int .i64 (2 * (m : Int) + (c : Int))]] y fun x w' => x = .returned (.tuple #[.bool true, .nilIface]) ∧ Below y.heap.size y w') := hid (fun y hy => by
        have := slegal_ok ((hst.out.1.ta.more b3).more hy) hst.out.1.tw (by decide) 0 0 (by decide) (by decide) _ _ true hco hco ⟨fun _ => .inr L2, fun _ => rfl⟩
        rw [show ((2 * m + c : Nat) : Int) = 2 * (m : Int) + (c : Int) by omega] at this
        exact this)
      have hlay : Hid (∀ y, Below w3.heap.size w3 y → Calls Try.prog 12 #[.pointer (some ⟨w.heap.size, 0, none⟩), .int .i64 (n : Int), .agg #[.int .i64 0, .int .i64 (2 * (m : Int) + (c : Int))], .agg #[.int .i64 0, .int .i64 (2 * (m : Int) + (c : Int))]] y fun x w' => x = .returned .nilIface ∧ (∃ R', Lp w.heap.size w.heap.size (n + 1) R' w') ∧ Kp w.heap.size y w') := hid (fun y hy => by
        have := lay_ok ((hst.out.1.ta.more b3).more hy) n 0 0 _ _ (by omega) L3 L4 hco hco
        rw [show ((2 * m + c : Nat) : Int) = 2 * (m : Int) + (c : Int) by omega] at this
        refine this.mono ?_
        rintro x w' ⟨rfl, t, kp⟩
        refine ⟨rfl, ⟨_, L5 w' ?_⟩, kp⟩
        rw [show ((2 * m + c : Nat) : Int) = 2 * (m : Int) + (c : Int) by omega]
        exact t)
      have hb3 := hid (hst.out.2.trans (b3.mono hst.out.2.size))
      have hcel : Hid (∀ y, Below w3.heap.size w3 y → y.cell? ⟨wr.heap.size, 0, none⟩ = some (.int .i64 0) ∧ y.cell? ⟨wr.heap.size, 1, none⟩ = some (.int .i64 (2 * (m : Int) + (c : Int)))) := hid (fun y hy => by
        obtain ⟨z1, z2, _, _⟩ := blk2 ((hy.block _ (Array.getElem?_eq_some_iff.1 k3).1).trans k3)
        exact ⟨z1, z2⟩)
      obtain ⟨x0, x1⟩ := hcel.out _ (Below.refl _ _)
      have hnh := hid hn
      clear hw3 k3 b3 L1 L2 L3 L4 L5 hco hst cz hm1 hm2 hcb hdl u1 u2 u3 u4 u5 u6 hn hmn hc2
      go_wp2_with fail
      refine (hleg.out _ (Below.refl _ _)).mono ?_
      rintro x w4 ⟨rfl, b4⟩
      replace b4 := hid b4
      clear x0 x1
      obtain ⟨x0, x1⟩ := hcel.out _ b4.out
      go_wp2_with fail
      refine (hlay.out _ b4.out).mono ?_
      rintro x w5 ⟨rfl, ⟨R', hlp⟩, k5⟩
      have hb4 := hid (hb3.out.trans (b4.out.mono hb3.out.size))
      have hb5 := hid (hb4.out.trans (k5.below hb4.out.size))
      replace hlp := hid hlp
      clear k5 x0 x1
      go_wp2_with fail
      go_roundw
      case rel => exact ⟨i + 1, R', by omega, by omega, by go_num, by have := hnh.out; go_num, hid ⟨by rw [hnh.out]; exact hlp.out, hb5.out⟩⟩
      case measure => simp [intOf]; omega
    · have hdn : Hid (n ≤ 11) := hid hnn
      have hcnt : Hid (∀ y, TA y w.heap.size w.heap.size 1 12 R → Calls Try.prog 16 #[.pointer (some ⟨w.heap.size, 0, none⟩), .slice (some ⟨y.heap.size, 0, none⟩) 1 1] (y.alloc (.cells #[.int .i64 0] 3)) fun x w' => x = .returned (.tuple #[.agg #[.int .i64 1, .int .i64 (n : Int), .int .i64 ((n : Int) + 1), .int .i64 1], .nilIface]) ∧ Below y.heap.size y w') := hid (fun y hy => by
        have hb : Below y.heap.size y (y.alloc (.cells #[.int .i64 0] 3)) := (Below.refl _ _).alloc (Nat.le_refl _) _
        have := scount_all (hy.more hb) hst.out.1.tw (by decide) (by decide) (by decide) _ (rn_one y)
        rw [hst.out.1.ed, hst.out.1.fa, hst.out.1.cm] at this
        refine this.mono ?_
        rintro e w' ⟨rfl, b⟩
        exact ⟨rfl, hb.trans (b.mono hb.size)⟩)
      have hflt : Hid (∀ y, TA y w.heap.size w.heap.size 1 12 R → Calls Try.prog 13 #[.pointer (some ⟨w.heap.size, 0, none⟩), .slice (some ⟨y.heap.size, 0, none⟩) 1 1] (y.alloc (.cells #[.int .i64 0] 3)) fun x w' => x = .returned (.tuple #[.bool true, .nilIface]) ∧ Below y.heap.size y w') := hid (fun y hy => by
        have hb : Below y.heap.size y (y.alloc (.cells #[.int .i64 0] 3)) := (Below.refl _ _).alloc (Nat.le_refl _) _
        refine (sflat_all (hy.more hb) hst.out.1.tw (by decide) (by decide) (by decide) _ (rn_one y) true (by simp [hst.out.1.xi])).mono ?_
        rintro e w' ⟨rfl, b⟩
        exact ⟨rfl, hb.trans (b.mono hb.size)⟩)
      have hta := hid hst.out.1.ta
      have hbw := hid hst.out.2
      have hway : (decide ((i : Int) < (N : Int)) = false ∧ decide (i < N) = false) ∨ ((decide ((i : Int) < (N : Int)) = true ∧ decide (i < N) = true) ∧ decide ((i : Int) < 10) = false ∧ decide (i < 10) = false) := by
        by_cases q : i < N
        · exact .inr ⟨⟨decide_eq_true (by omega), decide_eq_true (by omega)⟩, decide_eq_false (by omega), decide_eq_false (by omega)⟩
        · exact .inl ⟨decide_eq_false (by omega), decide_eq_false (by omega)⟩
      clear hst hlt hC
      rcases hway with ⟨v1, v1'⟩ | ⟨⟨v1, v1'⟩, v2, v2'⟩
      all_goals
        go_wp2_with fail
        refine (hflt.out wr hta.out).mono ?_
        rintro x w3 ⟨rfl, b3⟩
        have hta3 := hid (hta.out.more b3)
        have hb3 := hid (hbw.out.trans (b3.mono hbw.out.size))
        clear b3
        go_wp2_with fail
        refine (hcnt.out w3 hta3.out).mono ?_
        rintro x w4 ⟨rfl, b4⟩
        have hb4 := hid (hb3.out.trans (b4.mono hb3.out.size))
        clear b4
        obtain ⟨w5, hw5⟩ : ∃ w5, w4.alloc (.cells #[.int .i64 1, .int .i64 (n : Int), .int .i64 ((n : Int) + 1), .int .i64 1] 52) = w5 := ⟨_, rfl⟩
        have k5 : w5.heap[w4.heap.size]? = some (.cells #[.int .i64 1, .int .i64 (n : Int), .int .i64 ((n : Int) + 1), .int .i64 1] 52 (0, 0)) := by rw [← hw5]; exact (MapKept.heap_alloc w4 _).1
        have b5 : Below w4.heap.size w4 w5 := by rw [← hw5]; exact balloc w4 _
        have hb5 := hid (hb4.out.trans (b5.mono hb4.out.size))
        obtain ⟨⟨y0, y1, y2, y3⟩, _⟩ := blk4 k5
        replace hw5 := hid hw5
        clear k5 b5
        go_upto_region 15 with fail
        rw [hw5.out]
        clear hw5
        go_wp2_with fail
        refine (hsu.out _).mono ?_
        rintro x w6 ⟨rfl, b6⟩
        have hb6 := hid (hb5.out.trans (b6.mono hb5.out.size))
        clear b6
        go_wp2_with fail
        go_ret
        exact ⟨rfl, hb6.out⟩
end Go.Proofs.Ytegljhbjjdfhiaa
