/- What stage 19's laws call: sure, giveCommand, sameCommand, num. -/
import Derived.Test.YtmmpkhoejcfdmaaDoorEncode19
import Derived.Test.YtmmpkhoejcfdmaaDoorDecode19
import Derived.Test.YtmmpkhoejcfdmaaDoorErrAs
namespace Go.Proofs.YtmmpkhoejcfdmaaDoor
open Go.RowKit
set_option linter.unusedVariables false

theorem num_erv (z : Int) (w : World) (hg : Handle w) : Calls Tryd.prog 12 #[erv z] w fun e w' => e = .returned (.int .i64 z) ∧ Below w.heap.size w w' := by
  unfold erv
  by_cases h : z = 0
  · rw [if_pos h, h]
    exact num_nil w
  · rw [if_neg h]
    exact num_err z w hg

/-- Decode, whatever the bytes are. -/
theorem decode_any {ad : Option Addr} {n cap : Nat} {b : List UInt8} {w : World} (hb : Bytes w ad cap b) (hn : b.length = n) (hl : n ≤ 6000) :
    Calls Tryd.prog 16 #[.slice ad n cap] w fun e w' => ∃ ad' cap', e = .returned (.tuple #[cv (dC b) (.slice ad' (dC b).d.length cap'), erv (dE b)]) ∧ Bytes w' ad' cap' (dC b).d ∧ Below w.heap.size w w' := by
  cases b with
  | nil =>
    subst hn
    refine (decode_nil ad cap w).mono ?_
    rintro e w' ⟨rfl, hb'⟩
    exact ⟨none, 0, rfl, Bytes.none _, hb'⟩
  | cons k r =>
    cases hp : pt k.toNat with
    | none =>
      refine (decode_none hb hn hp).mono ?_
      rintro e w' ⟨rfl, hb'⟩
      rw [dC_none hp, dE_none hp]
      exact ⟨none, 0, rfl, Bytes.none _, hb'⟩
    | some p => exact decode_some hb hn hp (by rw [List.length_cons] at hn; omega)

/-- Encode, whatever the command is. -/
theorem encode_any (c : Cm) (ad : Option Addr) (n cap : Nat) (hn : c.d.length = n) (hw : Wf c) (w : World) (hby : Bytes w ad cap c.d) (hnl : n ≤ 6000) :
    Calls Tryd.prog 10 #[cv c (.slice ad n cap)] w fun e w' => ∃ ad' m cap', e = .returned (.tuple #[.slice ad' m cap', erv (chk c)]) ∧ Below w.heap.size w w' ∧ ((chk c = 0 ∧ m = (enc c).length ∧ Bytes w' ad' cap' (enc c)) ∨ (¬ chk c = 0 ∧ m = 0)) := by
  by_cases hc : chk c = 0
  · refine (encode_ok c ad n cap hn hc hw w hby hnl).mono ?_
    rintro e w' ⟨ad', cap', rfl, h1, h2⟩
    refine ⟨ad', _, cap', ?_, h2, .inl ⟨hc, rfl, h1⟩⟩
    unfold erv
    rw [if_pos hc]
  · refine (encode_err c ad n cap hn hc w).mono ?_
    rintro e w' ⟨rfl, h2⟩
    refine ⟨none, 0, 0, ?_, h2, .inr ⟨hc, rfl⟩⟩
    unfold erv
    rw [if_neg hc]

def c11 : Cm := ⟨11, 0, 0, 0, 0, 0, 0, 0, []⟩
theorem enc11 : enc c11 = [11] := by decide
theorem chk11 : chk c11 = 0 := by decide
theorem dC11 : dC [11] = c11 := rfl
theorem dE11 : dE [11] = 0 := by decide

theorem string_at {w : World} {ad : Option Addr} {cap n : Nat} {l : List UInt8} (h : Bytes w ad cap l) (hn : n = l.length) :
    (convert 27 9 (.slice ad n cap)).run Tryd.prog w = .ok (.string ⟨l.toArray⟩) w := by
  subst hn
  cases ad with
  | none =>
    have h1 := h.nil rfl
    have h2 := h.le
    have h3 : l = [] := List.eq_nil_of_length_eq_zero (by omega)
    subst h3
    exact run_convert_bytes_nil w 27 5 Tryd.underlying27 Tryd.underlying5 _ _ 9 Tryd.underlying9
  | some a =>
    refine run_convert_bytes_back w 27 9 5 a cap l Tryd.underlying27 Tryd.underlying5 Tryd.underlying9 ?_
    intro j hj
    exact h.cell a rfl j _ (by simp [bc, hj])

theorem dec11 {ad : Option Addr} {cap : Nat} {w : World} (hb : Bytes w ad cap [11]) :
    Calls Tryd.prog 16 #[.slice ad 1 cap] w fun e w' => ∃ ad' cap', e = .returned (.tuple #[.agg #[.int .i64 11, .int .u32 0, .int .u32 0, .int .u32 0, .int .u32 0, .int .i64 0, .int .i64 0, .int .i32 0, .slice ad' 0 cap'], .nilIface]) ∧ Below w.heap.size w w' := by
  refine (decode_any hb rfl (by decide)).mono ?_
  rintro e w' ⟨ad', cap', rfl, _, h⟩
  exact ⟨ad', cap', rfl, h⟩

theorem enc_11 (w : World) :
    Calls Tryd.prog 10 #[.agg #[.int .i64 11, .int .u32 0, .int .u32 0, .int .u32 0, .int .u32 0, .int .i64 0, .int .i64 0, .int .i32 0, .slice none 0 0]] w fun e w' => ∃ ad cap, e = .returned (.tuple #[.slice ad 1 cap, .nilIface]) ∧ Bytes w' ad cap [11] ∧ Below w.heap.size w w' := by
  have he := encode_ok c11 none 0 0 rfl chk11 ⟨by decide, by decide, by decide, by decide, by decide, by decide⟩ w (Bytes.none w) (by omega)
  rw [enc11] at he
  exact he

set_option maxRecDepth 100000 in
set_option maxHeartbeats 1000000 in
theorem sure_any (w : World) :
    Calls Tryd.prog 8 #[] w fun e w' => e = .returned (.bool true) ∧ Below w.heap.size w w' := by
  have he := hid (enc_11 w)
  go_enter Tryd.func8, Tryd.ntmps8
  go_wp2_with fail
  refine he.out.mono ?_
  rintro e w2 ⟨ad, cap, rfl, hb, b2⟩
  replace b2 := hid b2
  clear he
  have hn := new_of w2 #[.int .u8 11] 5
  have hb3 := balloc w2 (.cells #[.int .u8 11] 5)
  have hby : Bytes (w2.alloc (.cells #[.int .u8 11] 5)) (some ⟨w2.heap.size, 0, none⟩) 1 [11] := Bytes.ofBlock (cs := [.int .u8 11]) hn rfl (by decide) (by decide)
  have hd := hid (dec11 hby)
  have hb2 := hb.below hb3
  have b3 := hid (b2.out.trans (hb3.mono b2.out.size))
  replace hb2 := hid hb2
  clear hb hn hb3 hby
  go_wp2_with fail
  refine hd.out.mono ?_
  rintro e w4 ⟨ad', cap', rfl, b4⟩
  have hb5 := hb2.out.below b4
  have b5 := hid (b3.out.trans (b4.mono b3.out.size))
  have hb6 := hb5.below (balloc w4 (.cells #[.int .i64 11, .int .u32 0, .int .u32 0, .int .u32 0, .int .u32 0, .int .i64 0, .int .i64 0, .int .i32 0, .slice ad' 0 cap'] 34))
  have hs := string_at (n := 1) hb6 rfl
  clear hd hb5 hb2 b4 hb6
  go_wp2_with fail
  go_ret
  exact ⟨rfl, b5.out.trans ((balloc _ _).mono b5.out.size)⟩

/-- A document's command's block. -/
structure RB (w : World) (b : Nat) (c : Cm) (dv : Value) : Prop where
  blk : w.heap[b]? = some (.cells (ccs c dv) 29 (0, 0))

theorem RB.lt {w : World} {b : Nat} {c : Cm} {dv : Value} (h : RB w b c dv) : b < w.heap.size := (Array.getElem?_eq_some_iff.1 h.blk).1
theorem RB.more {w w' : World} {b : Nat} {c : Cm} {dv : Value} (h : RB w b c dv) (hb : Below w.heap.size w w') : RB w' b c dv := ⟨(hb.block b h.lt).trans h.blk⟩
theorem RB.cells {w : World} {b : Nat} {c : Cm} {dv : Value} (h : RB w b c dv) : w.cell? ⟨b, 0, none⟩ = some (.int .i64 c.code) ∧ w.cell? ⟨b, 1, none⟩ = some (.int .u32 (c.a0 : Int)) ∧ w.cell? ⟨b, 2, none⟩ = some (.int .u32 (c.p0 : Int)) ∧ w.cell? ⟨b, 3, none⟩ = some (.int .u32 (c.a1 : Int)) ∧ w.cell? ⟨b, 4, none⟩ = some (.int .u32 (c.p1 : Int)) ∧ w.cell? ⟨b, 5, none⟩ = some (.int .i64 c.s0) ∧ w.cell? ⟨b, 6, none⟩ = some (.int .i64 c.s1) ∧ w.cell? ⟨b, 7, none⟩ = some (.int .i32 c.w) ∧ w.cell? ⟨b, 8, none⟩ = some dv :=
  ⟨cell_of h.blk rfl, cell_of h.blk rfl, cell_of h.blk rfl, cell_of h.blk rfl, cell_of h.blk rfl, cell_of h.blk rfl, cell_of h.blk rfl, cell_of h.blk rfl, cell_of h.blk rfl⟩

structure Gs (w wr : World) (B R H : Nat) (c : Cm) (dv h0 h1 h2 h3 : Value) : Prop where
  rb : RB wr B c dv
  z : ZB wr R
  h : wr.heap[H]? = some (.cells #[h0, h1, h2, h3] 32 (0, 0))
  lt : B < R ∧ R < H
  bel : Below w.heap.size w wr
  B0 : w.heap.size = B

theorem Gs.drew {w wr : World} {B R H : Nat} {c : Cm} {dv h0 h1 h2 h3 : Value} (g : Gs w wr B R H c dv h0 h1 h2 h3) : Gs w wr.drew B R H c dv h0 h1 h2 h3 :=
  ⟨⟨g.rb.blk⟩, ⟨g.z.blk⟩, g.h, g.lt, g.bel.drew, g.B0⟩

theorem Gs.set {w wr : World} {B R H : Nat} {c : Cm} {dv h0 h1 h2 h3 k0 k1 k2 k3 : Value} (g : Gs w wr B R H c dv h0 h1 h2 h3) (j : Nat) (u : Value) (e : (#[h0, h1, h2, h3] : Array Value).setIfInBounds j u = #[k0, k1, k2, k3]) : Gs w (wr.setCell ⟨H, j, none⟩ u) B R H c dv k0 k1 k2 k3 := by
  have S := (Turned.refl (fun k => k = H) wr).setCell (p := ⟨H, j, none⟩) rfl u
  have h1 := g.lt
  have h2 := g.B0
  refine ⟨⟨(S.block B g.rb.lt (by omega)).trans g.rb.blk⟩, ⟨(S.block R g.z.lt (by omega)).trans g.z.blk⟩, ?_, g.lt, g.bel.trans (S.below (fun k hk => by omega) g.bel.size), g.B0⟩
  rw [set_block g.h, e]

set_option maxRecDepth 100000 in
set_option maxHeartbeats 4000000 in
theorem give_ok (c : Cm) (ad : Option Addr) (n cap : Nat) (w : World) :
    Calls Tryd.prog 9 #[cv c (.slice ad n cap)] w fun e w' => e = .returned (cv c (.slice ad n cap)) ∧ Below w.heap.size w w' := by
  have hB1 := RB.mk (new_of w (ccs c (.slice ad n cap)) 29)
  have b1 := balloc w (.cells (ccs c (.slice ad n cap)) 29)
  obtain ⟨B, hB⟩ : ∃ B, w.heap.size = B := ⟨_, rfl⟩
  have hs1 : (w.alloc (.cells (ccs c (.slice ad n cap)) 29)).heap.size = B + 1 := by simp [hB]
  rw [hB] at hB1
  go_enter Tryd.func9, Tryd.ntmps9
  go_upto_region 1 with fail
  obtain ⟨w1, hw1⟩ : ∃ w1, w.alloc (.cells (ccs c (.slice ad n cap)) 29) = w1 := ⟨_, rfl⟩
  rw [hw1] at hB1 b1 hs1 ⊢
  clear hw1
  have b2 := balloc w1 (.cells (kcs 0) 34)
  have hz2 := ZB.mk (new_of w1 (kcs 0) 34)
  have hB2 := hB1.more b2
  have hs2 : (w1.alloc (.cells (kcs 0) 34)).heap.size = B + 2 := by simp [hs1]
  rw [hs1] at hz2
  have b12 := b1.trans (b2.mono b1.size)
  go_upto_region 2 with fail
  obtain ⟨w2, hw2⟩ : ∃ w2, w1.alloc (.cells (kcs 0) 34) = w2 := ⟨_, rfl⟩
  rw [hw2] at hz2 hB2 hs2 b12 ⊢
  clear hw2 b2 b1 hB1
  have b3 := balloc w2 (.cells #[.int .u32 0, .int .u32 0, .int .u32 0, .int .u32 0] 32)
  have hn3 := new_of w2 #[.int .u32 0, .int .u32 0, .int .u32 0, .int .u32 0] 32
  rw [hs2] at hn3
  have hg0 : Gs w (w2.alloc (.cells #[.int .u32 0, .int .u32 0, .int .u32 0, .int .u32 0] 32)) B (B + 1) (B + 2) c (.slice ad n cap) (.int .u32 0) (.int .u32 0) (.int .u32 0) (.int .u32 0) :=
    ⟨hB2.more b3, hz2.more b3, hn3, by omega, b12.trans (b3.mono b12.size), hB⟩
  clear b3 hn3 hB2 hz2 b12 hs1
  clear hs2
  obtain ⟨R, hR⟩ : ∃ R, B + 1 = R := ⟨_, rfl⟩
  obtain ⟨H, hH⟩ : ∃ H, B + 2 = H := ⟨_, rfl⟩
  obtain ⟨wr, hwr⟩ : ∃ wr, w2.alloc (.cells #[.int .u32 0, .int .u32 0, .int .u32 0, .int .u32 0] 32) = wr := ⟨_, rfl⟩
  rw [hwr, hR, hH] at hg0
  rw [hwr, hR, hH]
  clear hwr hR hH
  replace hg0 := hid hg0
  replace hB := hid hB
  go_wp2_with fail
  refine wp_loop_rounds 3 ?_
  rw [rounds_succ]
  go_wp2_with fail
  obtain ⟨c0, c1, c2, c3, c4, c5, c6, c7, c8⟩ := hg0.out.rb.cells
  have k0 : wr.cell? ⟨H, 0, none⟩ = some (.int .u32 0) := cell_of hg0.out.h rfl
  have k1 : wr.cell? ⟨H, 1, none⟩ = some (.int .u32 0) := cell_of hg0.out.h rfl
  have q0 := frozen_of hg0.out.h (k := 0)
  have q1 := frozen_of hg0.out.h (k := 1)
  have hg1 := hid (((hg0.out.set (k0 := (.int .u32 (c.a0 : Int))) (k1 := (.int .u32 0)) (k2 := (.int .u32 0)) (k3 := (.int .u32 0)) 0 (.int .u32 (c.a0 : Int)) rfl).set (k0 := (.int .u32 (c.a0 : Int))) (k1 := (.int .u32 (c.p0 : Int))) (k2 := (.int .u32 0)) (k3 := (.int .u32 0)) 1 (.int .u32 (c.p0 : Int)) rfl).drew)
  have hS := hid (And.intro hg0.out.drew.rb.cells hg1.out.rb.cells)
  go_region_held3 (fun y => y.cell? ⟨B, 0, none⟩ = some (.int .i64 c.code) ∧ y.cell? ⟨B, 1, none⟩ = some (.int .u32 (c.a0 : Int)) ∧ y.cell? ⟨B, 2, none⟩ = some (.int .u32 (c.p0 : Int)) ∧ y.cell? ⟨B, 3, none⟩ = some (.int .u32 (c.a1 : Int)) ∧ y.cell? ⟨B, 4, none⟩ = some (.int .u32 (c.p1 : Int)) ∧ y.cell? ⟨B, 5, none⟩ = some (.int .i64 c.s0) ∧ y.cell? ⟨B, 6, none⟩ = some (.int .i64 c.s1) ∧ y.cell? ⟨B, 7, none⟩ = some (.int .i32 c.w) ∧ y.cell? ⟨B, 8, none⟩ = some (.slice ad n cap)) (first | with_reducible exact hS.out.1 | with_reducible exact hS.out.2 | go_keep) (fail)
  all_goals
    clear hS c0 c1 c2 c3 c4 c5 c6 c7 c8 k0 k1 q0 q1
    try (rename_i hHd; clear hHd)
    obtain ⟨w4, hw4⟩ : ∃ w4, ((wr.setCell ⟨H, 0, none⟩ (.int .u32 (c.a0 : Int))).setCell ⟨H, 1, none⟩ (.int .u32 (c.p0 : Int))).drew = w4 := ⟨_, rfl⟩
    rw [hw4] at hg1 ⊢
    clear hw4 hg0
    go_wp2_with fail
    rw [rounds_succ]
    go_wp2_with fail
    obtain ⟨c0, c1, c2, c3, c4, c5, c6, c7, c8⟩ := hg1.out.rb.cells
    have k0 : w4.cell? ⟨H, 2, none⟩ = some (.int .u32 0) := cell_of hg1.out.h rfl
    have k1 : w4.cell? ⟨H, 3, none⟩ = some (.int .u32 0) := cell_of hg1.out.h rfl
    have q0 := frozen_of hg1.out.h (k := 2)
    have q1 := frozen_of hg1.out.h (k := 3)
    have hg2 := hid (((hg1.out.set (k0 := (.int .u32 (c.a0 : Int))) (k1 := (.int .u32 (c.p0 : Int))) (k2 := (.int .u32 (c.a1 : Int))) (k3 := (.int .u32 0)) 2 (.int .u32 (c.a1 : Int)) rfl).set (k0 := (.int .u32 (c.a0 : Int))) (k1 := (.int .u32 (c.p0 : Int))) (k2 := (.int .u32 (c.a1 : Int))) (k3 := (.int .u32 (c.p1 : Int))) 3 (.int .u32 (c.p1 : Int)) rfl).drew)
    have hS := hid (And.intro hg1.out.drew.rb.cells hg2.out.rb.cells)
    go_region_held3 (fun y => y.cell? ⟨B, 0, none⟩ = some (.int .i64 c.code) ∧ y.cell? ⟨B, 1, none⟩ = some (.int .u32 (c.a0 : Int)) ∧ y.cell? ⟨B, 2, none⟩ = some (.int .u32 (c.p0 : Int)) ∧ y.cell? ⟨B, 3, none⟩ = some (.int .u32 (c.a1 : Int)) ∧ y.cell? ⟨B, 4, none⟩ = some (.int .u32 (c.p1 : Int)) ∧ y.cell? ⟨B, 5, none⟩ = some (.int .i64 c.s0) ∧ y.cell? ⟨B, 6, none⟩ = some (.int .i64 c.s1) ∧ y.cell? ⟨B, 7, none⟩ = some (.int .i32 c.w) ∧ y.cell? ⟨B, 8, none⟩ = some (.slice ad n cap)) (first | with_reducible exact hS.out.1 | with_reducible exact hS.out.2 | go_keep) (fail)
    all_goals
      clear hS c0 c1 c2 c3 c4 c5 c6 c7 c8 k0 k1 q0 q1
      try (rename_i hHd; clear hHd)
      obtain ⟨w5, hw5⟩ : ∃ w5, ((w4.setCell ⟨H, 2, none⟩ (.int .u32 (c.a1 : Int))).setCell ⟨H, 3, none⟩ (.int .u32 (c.p1 : Int))).drew = w5 := ⟨_, rfl⟩
      rw [hw5] at hg2 ⊢
      clear hw5 hg1
      go_wp2_with fail
      rw [rounds_succ]
      obtain ⟨c0, c1, c2, c3, c4, c5, c6, c7, c8⟩ := hg2.out.rb.cells
      obtain ⟨z0, z1, z2, z3, z4, z5, z6, z7, z8⟩ := hg2.out.z.cells
      obtain ⟨f0, f1, f2, f3, f4, f5, f6, f7, f8⟩ := hg2.out.z.fr
      have k0 : w5.cell? ⟨H, 0, none⟩ = some (.int .u32 (c.a0 : Int)) := cell_of hg2.out.h rfl
      have k1 : w5.cell? ⟨H, 1, none⟩ = some (.int .u32 (c.p0 : Int)) := cell_of hg2.out.h rfl
      have k2 : w5.cell? ⟨H, 2, none⟩ = some (.int .u32 (c.a1 : Int)) := cell_of hg2.out.h rfl
      have k3 : w5.cell? ⟨H, 3, none⟩ = some (.int .u32 (c.p1 : Int)) := cell_of hg2.out.h rfl
      have hfin := hid (set9_block hg2.out.z.blk (.int .i64 c.code) (.int .u32 (c.a0 : Int)) (.int .u32 (c.p0 : Int)) (.int .u32 (c.a1 : Int)) (.int .u32 (c.p1 : Int)) (.int .i64 c.s0) (.int .i64 c.s1) (.int .i32 c.w) (.slice ad n cap))
      have hbz := hid (set9_below hg2.out.bel (g := R) (by have := hg2.out.B0; have := hg2.out.lt; omega) (.int .i64 c.code) (.int .u32 (c.a0 : Int)) (.int .u32 (c.p0 : Int)) (.int .u32 (c.a1 : Int)) (.int .u32 (c.p1 : Int)) (.int .i64 c.s0) (.int .i64 c.s1) (.int .i32 c.w) (.slice ad n cap))
      go_wp2_with fail
      refine bodyPost_ret (results_cell_row rfl _ _ R 34 _ (0, 0) _ rfl hfin.out Tryd.underlying34 rfl (by kernel_rfl)) rfl ?_
      exact ⟨rfl, hbz.out⟩

end Go.Proofs.YtmmpkhoejcfdmaaDoor
