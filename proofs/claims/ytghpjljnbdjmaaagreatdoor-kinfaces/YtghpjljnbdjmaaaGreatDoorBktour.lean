/- The tour in memory; reached, lower, enter, leave, newTour, walked. newTour, walked. look, walked. goRound, walked. -/
import Derived.Test.YtghpjljnbdjmaaaGreatDoorBknear
import Derived.BigRegion
namespace Go.Proofs.YtghpjljnbdjmaaaGreatDoor
open Go.RowKit
set_option linter.unusedVariables false

open Pq (fl fl_length fl_succ fl_get fl_congr)

/-- A tour: its struct, the places, the lowest places, the edges of trees, the bridges. -/
structure Um (base : Nat) (w0 w : World) (ub : Nat) (tp : Option Addr) (pb qb gb bb V E : Nat) (pl lw : Nat → Nat) (gr : Nat → Bool) (c : Nat) (bv : Value) (bs : List Nat) : Prop where
  blk : w.heap[ub]? = some (.cells #[.pointer tp, .slice (some ⟨pb, 0, none⟩) V V, .slice (some ⟨qb, 0, none⟩) V V, .slice (some ⟨gb, 0, none⟩) E E, .int .i64 (c : Int), bv] 87 (0, 0))
  prow : w.ownsRow base 3 1 (.slice (some ⟨pb, 0, none⟩) V V) V (ncs (fl V pl))
  lrow : w.ownsRow base 3 1 (.slice (some ⟨qb, 0, none⟩) V V) V (ncs (fl V lw))
  grow : w.ownsRow base 4 1 (.slice (some ⟨gb, 0, none⟩) E E) E (bl E gr)
  brow : Rw bb w bv bs
  ne : pb ≠ qb ∧ pb ≠ gb ∧ qb ≠ gb ∧ ub ≠ pb ∧ ub ≠ qb ∧ ub ≠ gb
  lts : pb < bb ∧ qb < bb ∧ gb < bb ∧ ub < bb ∧ bb ≤ w.heap.size
  ubl : base ≤ ub
  bel : Below base w0 w
  low : base ≤ w0.heap.size

section
variable {base : Nat} {w0 w w' : World} {ub pb qb gb bb V E : Nat} {tp : Option Addr} {pl lw : Nat → Nat} {gr : Nat → Bool} {c : Nat} {bv : Value} {bs : List Nat}

theorem Um.more (h : Um base w0 w ub tp pb qb gb bb V E pl lw gr c bv bs) (hb : Below w.heap.size w w') : Um base w0 w' ub tp pb qb gb bb V E pl lw gr c bv bs :=
  ⟨by rw [hb.block ub (Array.getElem?_eq_some_iff.1 h.blk).1]; exact h.blk, ownsRow_below h.prow hb, ownsRow_below h.lrow hb, ownsRow_below h.grow hb, h.brow.more hb, h.ne, ⟨h.lts.1, h.lts.2.1, h.lts.2.2.1, h.lts.2.2.2.1, Nat.le_trans h.lts.2.2.2.2 hb.size⟩, h.ubl, h.bel.trans (hb.mono (Nat.le_trans h.low h.bel.size)), h.low⟩

theorem Um.c0 (h : Um base w0 w ub tp pb qb gb bb V E pl lw gr c bv bs) : w.cell? ⟨ub, 0, none⟩ = some (.pointer tp) := by simp [World.cell?, h.blk]
theorem Um.c1 (h : Um base w0 w ub tp pb qb gb bb V E pl lw gr c bv bs) : w.cell? ⟨ub, 1, none⟩ = some (.slice (some ⟨pb, 0, none⟩) V V) := by simp [World.cell?, h.blk]
theorem Um.c2 (h : Um base w0 w ub tp pb qb gb bb V E pl lw gr c bv bs) : w.cell? ⟨ub, 2, none⟩ = some (.slice (some ⟨qb, 0, none⟩) V V) := by simp [World.cell?, h.blk]
theorem Um.c3 (h : Um base w0 w ub tp pb qb gb bb V E pl lw gr c bv bs) : w.cell? ⟨ub, 3, none⟩ = some (.slice (some ⟨gb, 0, none⟩) E E) := by simp [World.cell?, h.blk]
theorem Um.c4 (h : Um base w0 w ub tp pb qb gb bb V E pl lw gr c bv bs) : w.cell? ⟨ub, 4, none⟩ = some (.int .i64 (c : Int)) := by simp [World.cell?, h.blk]
theorem Um.c5 (h : Um base w0 w ub tp pb qb gb bb V E pl lw gr c bv bs) : w.cell? ⟨ub, 5, none⟩ = some bv := by simp [World.cell?, h.blk]
theorem Um.fu (h : Um base w0 w ub tp pb qb gb bb V E pl lw gr c bv bs) (k : Nat) : w.frozen? ⟨ub, k, none⟩ = false := by simp [World.frozen?, h.blk]
theorem Um.pat (h : Um base w0 w ub tp pb qb gb bb V E pl lw gr c bv bs) {x : Nat} (hx : x < V) : w.cell? ⟨pb, x, none⟩ = some (.int .i64 (pl x : Int)) := by rw [h.prow.cellAt x (by omega)]; exact ncs_get hx
theorem Um.lat (h : Um base w0 w ub tp pb qb gb bb V E pl lw gr c bv bs) {x : Nat} (hx : x < V) : w.cell? ⟨qb, x, none⟩ = some (.int .i64 (lw x : Int)) := by rw [h.lrow.cellAt x (by omega)]; exact ncs_get hx
theorem Um.gat (h : Um base w0 w ub tp pb qb gb bb V E pl lw gr c bv bs) {e : Nat} (he : e < E) : w.cell? ⟨gb, e, none⟩ = some (.bool (gr e)) := by rw [h.grow.cellAt e (by omega)]; exact bl_get he
theorem Um.bsz (h : Um base w0 w ub tp pb qb gb bb V E pl lw gr c bv bs) : base ≤ w.heap.size := Nat.le_trans h.low h.bel.size

theorem kept_ne {w w' : World} {base e size n b k m cap : Nat} {xs : List Value} (h : w.ownsRow base e size (.slice (some ⟨b, 0, none⟩) m cap) n xs) (hg : w.grownBy w' (some k)) (hne : b ≠ k) : w'.ownsRow base e size (.slice (some ⟨b, 0, none⟩) m cap) n xs :=
  h.kept hg (.inr (by simp [Value.ownBlock]; omega))

/-- A vertex's place. -/
theorem Um.setP (h : Um base w0 w ub tp pb qb gb bb V E pl lw gr c bv bs) (x n : Nat) : Um base w0 (w.setCell ⟨pb, x, none⟩ (.int .i64 (n : Int))) ub tp pb qb gb bb V E (updN pl x n) lw gr c bv bs := by
  obtain ⟨s1, s2⟩ := h.prow.stored x (.int .i64 (n : Int))
  rw [ncs_set] at s1
  have hn := h.ne
  have hl := h.lts
  refine ⟨?_, s1, kept_ne h.lrow s2 (by omega), kept_ne h.grow s2 (by omega), h.brow.keptA s2 (fun k q1 q2 => ?_), h.ne, ?_, h.ubl, below_row h.bel h.low h.prow (Nat.le_refl _) s2, h.low⟩
  · rw [s2.block ub (Array.getElem?_eq_some_iff.1 h.blk).1 (by simp; omega)]; exact h.blk
  · have := (World.ownsRow.lt h.brow k q1).1
    have h2 : pb = k := by simpa [Value.ownBlock] using q2
    omega
  · have := s2.size; omega

/-- A vertex's lowest place. -/
theorem Um.setL (h : Um base w0 w ub tp pb qb gb bb V E pl lw gr c bv bs) (x n : Nat) : Um base w0 (w.setCell ⟨qb, x, none⟩ (.int .i64 (n : Int))) ub tp pb qb gb bb V E pl (updN lw x n) gr c bv bs := by
  obtain ⟨s1, s2⟩ := h.lrow.stored x (.int .i64 (n : Int))
  rw [ncs_set] at s1
  have hn := h.ne
  have hl := h.lts
  refine ⟨?_, kept_ne h.prow s2 (by omega), s1, kept_ne h.grow s2 (by omega), h.brow.keptA s2 (fun k q1 q2 => ?_), h.ne, ?_, h.ubl, below_row h.bel h.low h.lrow (Nat.le_refl _) s2, h.low⟩
  · rw [s2.block ub (Array.getElem?_eq_some_iff.1 h.blk).1 (by simp; omega)]; exact h.blk
  · have := (World.ownsRow.lt h.brow k q1).1
    have h2 : qb = k := by simpa [Value.ownBlock] using q2
    omega
  · have := s2.size; omega

/-- An edge of a tree. -/
theorem Um.setG (h : Um base w0 w ub tp pb qb gb bb V E pl lw gr c bv bs) (e : Nat) : Um base w0 (w.setCell ⟨gb, e, none⟩ (.bool true)) ub tp pb qb gb bb V E pl lw (on gr e) c bv bs := by
  obtain ⟨s1, s2⟩ := h.grow.stored e (.bool true)
  rw [bl_set] at s1
  have hn := h.ne
  have hl := h.lts
  refine ⟨?_, kept_ne h.prow s2 (by omega), kept_ne h.lrow s2 (by omega), s1, h.brow.keptA s2 (fun k q1 q2 => ?_), h.ne, ?_, h.ubl, below_row h.bel h.low h.grow (Nat.le_refl _) s2, h.low⟩
  · rw [s2.block ub (Array.getElem?_eq_some_iff.1 h.blk).1 (by simp; omega)]; exact h.blk
  · have := (World.ownsRow.lt h.brow k q1).1
    have h2 : gb = k := by simpa [Value.ownBlock] using q2
    omega
  · have := s2.size; omega

theorem grown_put (w : World) (b k : Nat) (u : Value) : w.grownBy (w.setCell ⟨b, k, none⟩ u) (some b) :=
  ⟨rfl, rfl, rfl, by simp [World.setCell], fun i _ hn => Below.heap_setCell _ _ _ _ (fun q => hn (by rw [q]))⟩

/-- The count. -/
theorem Um.setC (h : Um base w0 w ub tp pb qb gb bb V E pl lw gr c bv bs) (n : Nat) : Um base w0 (w.setCell ⟨ub, 4, none⟩ (.int .i64 (n : Int))) ub tp pb qb gb bb V E pl lw gr n bv bs := by
  have s2 := grown_put w ub 4 (.int .i64 (n : Int))
  have hn := h.ne
  have hl := h.lts
  refine ⟨?_, kept_ne h.prow s2 (by omega), kept_ne h.lrow s2 (by omega), kept_ne h.grow s2 (by omega), h.brow.keptA s2 (fun k q1 q2 => ?_), h.ne, ?_, h.ubl, h.bel.grown s2 h.bsz (fun k q => by have := h.ubl; simp at q; omega), h.low⟩
  · rw [set_block h.blk]; rfl
  · have := (World.ownsRow.lt h.brow k q1).1
    have h2 : ub = k := by simpa using q2
    omega
  · have := s2.size; omega

/-- The bridges: a row that has grown, laid into the struct. -/
theorem Um.setB (h : Um base w0 w ub tp pb qb gb bb V E pl lw gr c bv bs) {v : Value} {bs' : List Nat} (hg : w.grownBy w' bv.ownBlock) (hr : Rw bb w' v bs') : Um base w0 (w'.setCell ⟨ub, 5, none⟩ v) ub tp pb qb gb bb V E pl lw gr c v bs' := by
  have hn := h.ne
  have hl := h.lts
  have ap : ∀ k, k < bb → some k ≠ bv.ownBlock := fun k hk q => by have := (World.ownsRow.lt h.brow k q.symm).1; omega
  have hsz := hg.size
  have k1 : ∀ {e b n m cap : Nat} {xs : List Value}, w.ownsRow base e 1 (.slice (some ⟨b, 0, none⟩) m cap) n xs → b < bb → w'.ownsRow base e 1 (.slice (some ⟨b, 0, none⟩) m cap) n xs := fun ho hb => ho.kept hg (.inr (ap _ hb))
  have s2 := grown_put w' ub 5 v
  have hbel : Below base w0 w' := h.bel.grown hg h.bsz (fun k q => Nat.le_trans (Nat.le_of_lt (Nat.lt_of_le_of_lt h.ubl hl.2.2.2.1)) (World.ownsRow.lt h.brow k q).1)
  have hub : w'.heap[ub]? = some (.cells #[.pointer tp, .slice (some ⟨pb, 0, none⟩) V V, .slice (some ⟨qb, 0, none⟩) V V, .slice (some ⟨gb, 0, none⟩) E E, .int .i64 (c : Int), bv] 87 (0, 0)) := by rw [hg.block ub (Array.getElem?_eq_some_iff.1 h.blk).1 (ap ub hl.2.2.2.1)]; exact h.blk
  refine ⟨?_, kept_ne (k1 h.prow hl.1) s2 (by omega), kept_ne (k1 h.lrow hl.2.1) s2 (by omega), kept_ne (k1 h.grow hl.2.2.1) s2 (by omega), hr.keptA s2 (fun k q1 q2 => ?_), h.ne, ?_, h.ubl, hbel.grown s2 (Nat.le_trans h.low hbel.size) (fun k q => by have := h.ubl; simp at q; omega), h.low⟩
  · rw [set_block hub]; rfl
  · have := (World.ownsRow.lt hr k q1).1
    have h2 : ub = k := by simpa using q2
    omega
  · have := s2.size; omega

set_option maxRecDepth 100000 in
theorem treached_ok (h : Um base w0 w ub tp pb qb gb bb V E pl lw gr c bv bs) (x : Nat) (b : Bool) (hx : x < V) (hb : b = true ↔ pl x ≠ 0) : Calls Tryz.prog 39 #[.pointer (some ⟨ub, 0, none⟩), .int .i64 (x : Int)] w fun r w' => r = .returned (.bool b) ∧ w = w' := by
  have c1 := h.c1
  have ca := h.pat hx
  have t1 : ((pl x : Int) != 0) = b := by
    cases b with
    | true => have := hb.1 rfl; simp; omega
    | false =>
      have : pl x = 0 := Classical.not_not.1 (fun q => by have := hb.2 q; simp at this)
      rw [this]; simp
  have i1 : (0 : Int) ≤ (x : Int) := by omega
  have i2 : (x : Int) < (V : Int) := by omega
  clear h hb
  go_enter Tryz.func39, Tryz.ntmps39
  go_wp2_with fail
  go_ret
  exact ⟨rfl, rfl⟩

set_option maxRecDepth 100000 in
set_option maxHeartbeats 2000000 in
theorem lower_ok (h : Um base w0 w ub tp pb qb gb bb V E pl lw gr c bv bs) (x n : Nat) (hx : x < V) : Calls Tryz.prog 102 #[.pointer (some ⟨ub, 0, none⟩), .int .i64 (x : Int), .int .i64 (n : Int)] w fun r w' => r = .returned (.tuple #[]) ∧ Um base w0 w' ub tp pb qb gb bb V E pl (updN lw x (min (lw x) n)) gr c bv bs := by
  have c2 := h.c2
  have ca := h.lat hx
  have fz := h.lrow.frozenAt x
  have fin := hid ((h.setL x (min (lw x) n)).more (Below.refl _ _).drew)
  obtain ⟨m, hm⟩ : ∃ m, min (lw x) n = m := ⟨_, rfl⟩
  rw [hm] at fin ⊢
  have hmi : min (lw x : Int) (n : Int) = (m : Int) := by omega
  generalize lw x = a at ca hmi
  have i1 : (0 : Int) ≤ (x : Int) := by omega
  have i2 : (x : Int) < (V : Int) := by omega
  clear h hm
  go_enter Tryz.func102, Tryz.ntmps102
  go_wp2_with fail
  go_region
  have hif : (if n < a then (n : Int) else (a : Int)) = (m : Int) := by split <;> omega
  rw [hif]
  go_end0
  exact ⟨rfl, fin.out⟩

set_option maxRecDepth 100000 in
set_option maxHeartbeats 4000000 in
theorem enter_ok (h : Um base w0 w ub tp pb qb gb bb V E pl lw gr c bv bs) (x : Nat) (hx : x < V) (hc : c ≤ 1048576) : Calls Tryz.prog 69 #[.pointer (some ⟨ub, 0, none⟩), .int .i64 (x : Int)] w fun r w' => r = .returned (.tuple #[]) ∧ Um base w0 w' ub tp pb qb gb bb V E (updN pl x (c + 1)) (updN lw x (c + 1)) gr (c + 1) bv bs := by
  have c4 := h.c4
  have f4 := h.fu 4
  obtain ⟨C, hC⟩ : ∃ C, c + 1 = C := ⟨_, rfl⟩
  have hw1 : IntKind.i64.wrap ((c : Int) + 1) = (C : Int) := by rw [IntKind.wrap_i64]; omega
  have hw2 : wrap64 ((c : Int) + 1) = (C : Int) := by rw [IntWalk.wrap64_in _ ⟨by omega, by omega⟩]; omega
  rw [hC]
  have h1 := h.setC C
  replace hC := hid hC
  replace h := hid h
  go_enter Tryz.func69, Tryz.ntmps69
  go_upto_region 1 with fail
  generalize w.setCell ⟨ub, 4, none⟩ (.int .i64 (C : Int)) = w1 at h1 ⊢
  clear h c4 f4 hw1 hw2
  have c1 := h1.c1
  have c2 := h1.c2
  have c4 := h1.c4
  have ca := h1.pat hx
  have cb := h1.lat hx
  have fa := h1.prow.frozenAt x
  have fb := h1.lrow.frozenAt x
  have fb2 := (h1.setP x C).lrow.frozenAt x
  have cb2 := (h1.setP x C).lat hx
  have fin := hid (((h1.setP x C).setL x C).more (Below.refl _ _).drew)
  generalize pl x = px at ca
  generalize lw x = lx at cb cb2
  have hne := h1.ne
  have n1 : ¬ pb = qb := by omega
  have n2 : ¬ qb = pb := by omega
  have n3 : ¬ pb = ub := by omega
  have n4 : ¬ qb = ub := by omega
  have n5 : ¬ ub = pb := by omega
  have n6 : ¬ ub = qb := by omega
  have i1 : (0 : Int) ≤ (x : Int) := by omega
  have i2 : (x : Int) < (V : Int) := by omega
  clear h1 hne
  go_region
  go_end0
  exact ⟨rfl, fin.out⟩

set_option maxRecDepth 100000 in
set_option maxHeartbeats 4000000 in
theorem leave_no (h : Um base w0 w ub tp pb qb gb bb V E pl lw gr c bv bs) (v u e : Nat) (hv : v < V) (hu : u < V) (hne : lw v ≠ pl v) : Calls Tryz.prog 101 #[.pointer (some ⟨ub, 0, none⟩), .int .i64 (v : Int), .int .i64 (u : Int), .int .i64 (e : Int)] w fun r w' => r = .returned (.tuple #[]) ∧ Um base w0 w' ub tp pb qb gb bb V E pl (updN lw u (min (lw u) (lw v))) gr c bv bs := by
  have c1 := h.c1
  have c2 := h.c2
  have ca := h.pat hv
  have cb := h.lat hv
  have hlow := hid (fun y (hy : Below w.heap.size w y) => lower_ok (h.more hy) u (lw v) hu)
  have hd := hid (h.more (Below.refl w.heap.size w).drew)
  obtain ⟨P, hP⟩ : ∃ P, pl v = P := ⟨_, rfl⟩
  obtain ⟨L, hL⟩ : ∃ L, lw v = L := ⟨_, rfl⟩
  rw [hP] at ca
  rw [hL] at cb hlow ⊢
  have t1 : ((L : Int) == (P : Int)) = false := by simp; omega
  have i1 : (0 : Int) ≤ (v : Int) := by omega
  have i2 : (v : Int) < (V : Int) := by omega
  have hL2 := hid hL
  clear h hne hP hL
  go_enter Tryz.func101, Tryz.ntmps101
  go_wp2_with fail
  go_region
  have hb := hid ((Below.refl w.heap.size w).drew)
  generalize w.drew = w1 at hb hd ⊢
  have d2 := hd.out.c2
  have db := hd.out.lat hv
  rw [hL2.out] at db
  clear c1 c2 ca cb
  go_wp2_with fail
  refine (hlow.out w1 hb.out).mono ?_
  rintro r w2 ⟨rfl, h2⟩
  replace h2 := hid h2
  clear d2 db hlow hd
  go_wp2_with fail
  go_end0
  exact ⟨rfl, h2.out⟩

set_option maxRecDepth 100000 in
set_option maxHeartbeats 4000000 in
theorem leave_yes (h : Um base w0 w ub tp pb qb gb bb V E pl lw gr c bv bs) (v u e : Nat) (hv : v < V) (hu : u < V) (hne : lw v = pl v) (hbs : bs.length ≤ 1048576) : Calls Tryz.prog 101 #[.pointer (some ⟨ub, 0, none⟩), .int .i64 (v : Int), .int .i64 (u : Int), .int .i64 (e : Int)] w fun r w' => ∃ bv', r = .returned (.tuple #[]) ∧ Um base w0 w' ub tp pb qb gb bb V E pl (updN lw u (min (lw u) (lw v))) gr c bv' (bs ++ [e]) := by
  obtain ⟨i0, hif, hz0, hz1, hz2⟩ := info_parts infoInt
  have c1 := h.c1
  have c2 := h.c2
  have ca := h.pat hv
  have cb := h.lat hv
  have hd := hid (h.more (Below.refl w.heap.size w).drew)
  obtain ⟨L, hL⟩ : ∃ L, lw v = L := ⟨_, rfl⟩
  rw [← hne, hL] at ca
  rw [hL] at cb ⊢
  have t1 : ((L : Int) == (L : Int)) = true := by simp
  have i1 : (0 : Int) ≤ (v : Int) := by omega
  have i2 : (v : Int) < (V : Int) := by omega
  replace hL := hid hL
  clear h hne
  go_enter Tryz.func101, Tryz.ntmps101
  go_wp2_with fail
  go_region
  generalize w.drew = w1 at hd ⊢
  have c5 := hd.out.c5
  have hown : w1.ownsRow bb 3 1 bv bs.length (ncs bs) := hd.out.brow
  have hbb := hd.out.lts.2.2.2.2
  have ba := hid (balloc w1 (.cells #[.int .i64 (e : Int)] 3))
  clear c1 c2 ca cb
  go_wp2_with (at_builtin; refine wpList_append_own _ rfl (.tmp 27) (.tmp 29) 30 rfl bb 3 i0 _ 1 8 Tryz.underlying30 hif hz0 hz1 hz2 rfl (by decide) _ _ _ rfl (hown.alloc _) ⟨w1.heap.size, 0, none⟩ 1 1 [.int .i64 (e : Int)] rfl rfl (one_new w1 _ _) (by simp [Value.oneCell']) (by unfold maxLen; omega) (by omega) (by simp; omega) ?_; intro v3 w3 ho3 hg3 _; refine Hid.out ?_)
  have hr3 : Rw bb w3 v3 (bs ++ [e]) := by
    unfold Rw
    rw [List.length_append, ncs_append]
    exact ho3
  have hfa := hd.out.more ba.out
  have h4 := hfa.setB hg3 hr3
  have e5 : w3.cell? ⟨ub, 5, none⟩ = some bv := by
    have hl := hfa.lts
    rw [hg3.cell_far ⟨ub, 5, none⟩ (by show ub < _; omega) (fun q => by have := (World.ownsRow.lt hfa.brow ub q.symm).1; omega)]
    exact hfa.c5
  have f5 : w3.frozen? ⟨ub, 5, none⟩ = false := by
    have hl := hfa.lts
    rw [hg3.frozen_far ⟨ub, 5, none⟩ (by show ub < _; omega) (fun q => by have := (World.ownsRow.lt hfa.brow ub q.symm).1; omega)]
    exact hfa.fu 5
  obtain ⟨g5, k5, rfl⟩ : ∃ g5 k5, v3 = .slice g5 (bs ++ [e]).length k5 := by
    obtain ⟨a, b, h1, _⟩ := own_any hr3
    exact ⟨a, b, h1⟩
  obtain ⟨N, hN⟩ : ∃ N, (bs ++ [e]).length = N := ⟨_, rfl⟩
  rw [hN] at h4 ⊢
  replace h4 := hid h4
  replace hN := hid hN
  clear ho3 hg3 hr3 hfa hown ba hd c5
  refine hid ?_
  go_upto_region 2 with fail
  generalize w3.setCell ⟨ub, 5, none⟩ (.slice g5 N k5) = w4 at h4 ⊢
  clear e5 f5
  have d2 := h4.out.c2
  have db := h4.out.lat hv
  rw [hL.out] at db
  have hlow := hid (lower_ok h4.out u L hu)
  go_wp2_with fail
  refine hlow.out.mono ?_
  rintro r w5 ⟨rfl, h5⟩
  replace h5 := hid h5
  clear d2 db hlow h4
  go_wp2_with fail
  go_end0
  exact ⟨_, rfl, h5.out⟩
end

end Go.Proofs.YtghpjljnbdjmaaaGreatDoor

namespace Go.Proofs.YtghpjljnbdjmaaaGreatDoor
open Go.RowKit
set_option linter.unusedVariables false

open Pq (fl fl_length fl_succ fl_get fl_congr)

set_option maxRecDepth 100000 in
/-- 'make' of numbers, of marks. -/
theorem make_ints (N : Nat) (hN : N ≤ 1048576) (w : World) : (Instr.makeSlice 30 (.int .i64 (N : Int)) (.int .i64 (N : Int))).run Tryz.prog w = .ok (.slice (some ⟨w.heap.size, 0, none⟩) N N) (w.alloc (.cells (Array.replicate N (.int .i64 0)) 3)) := by
  obtain ⟨i0, hi, hz0, hz1, hz2⟩ := info_parts infoInt
  have h := run_make (P := Tryz.prog) w 30 3 i0 _ Tryz.underlying30 hi hz0 .i64 .i64 N N (by omega) (Int.le_refl _) (by rw [hz2]; omega) (by omega)
  rw [h]
  simp only [Int.toNat_natCast, hz1]
  congr 3
  apply Array.ext
  · simp [madeCells]
  · intro j h1 h2
    simp [madeCells, Value.cells, Nat.mod_one]

set_option maxRecDepth 100000 in
theorem make_bools (N : Nat) (hN : N ≤ 1048576) (w : World) : (Instr.makeSlice 85 (.int .i64 (N : Int)) (.int .i64 (N : Int))).run Tryz.prog w = .ok (.slice (some ⟨w.heap.size, 0, none⟩) N N) (w.alloc (.cells (Array.replicate N (.bool false)) 4)) := by
  obtain ⟨i0, hi, hz0, hz1, hz2⟩ := info_parts infoBool
  have h := run_make (P := Tryz.prog) w 85 4 i0 _ Tryz.underlying85 hi hz0 .i64 .i64 N N (by omega) (Int.le_refl _) (by rw [hz2]; omega) (by omega)
  rw [h]
  simp only [Int.toNat_natCast, hz1]
  congr 3
  apply Array.ext
  · simp [madeCells]
  · intro j h1 h2
    simp [madeCells, Value.cells, Nat.mod_one]

theorem ncs_zero (N : Nat) : ncs (fl N (fun _ => 0)) = List.replicate N (.int .i64 0) := by
  apply List.ext_getElem?
  intro j
  by_cases hj : j < N
  · rw [ncs_get hj]; simp [hj]
  · rw [List.getElem?_eq_none (by simp; omega), List.getElem?_eq_none (by simp; omega)]
theorem bl_zero (N : Nat) : bl N (fun _ => false) = List.replicate N (.bool false) := by
  apply List.ext_getElem?
  intro j
  by_cases hj : j < N
  · rw [bl_get hj]; simp [hj]
  · rw [List.getElem?_eq_none (by simp; omega), List.getElem?_eq_none (by simp; omega)]

/-- A new tour. -/
theorem um_new {w0 w : World} {ub pb qb gb V E : Nat} {tp : Option Addr} (hb : Below w0.heap.size w0 w)
    (hp : w.heap[pb]? = some (.cells (Array.replicate V (.int .i64 0)) 3 (0, 0))) (hq : w.heap[qb]? = some (.cells (Array.replicate V (.int .i64 0)) 3 (0, 0))) (hg : w.heap[gb]? = some (.cells (Array.replicate E (.bool false)) 4 (0, 0)))
    (hu : w.heap[ub]? = some (.cells #[.pointer tp, .slice (some ⟨pb, 0, none⟩) V V, .slice (some ⟨qb, 0, none⟩) V V, .slice (some ⟨gb, 0, none⟩) E E, .int .i64 0, .slice none 0 0] 87 (0, 0)))
    (hpq : pb ≠ qb) (h1 : w0.heap.size ≤ pb) (h2 : w0.heap.size ≤ qb) (h3 : w0.heap.size ≤ gb) (h4 : w0.heap.size ≤ ub) (hV : V ≤ 1048576) (hE : E ≤ 1048576) :
    Um w0.heap.size w0 w ub tp pb qb gb w.heap.size V E (fun _ => 0) (fun _ => 0) (fun _ => false) 0 (.slice none 0 0) [] := by
  have l1 := (Array.getElem?_eq_some_iff.1 hp).1
  have l2 := (Array.getElem?_eq_some_iff.1 hq).1
  have l3 := (Array.getElem?_eq_some_iff.1 hg).1
  have l4 := (Array.getElem?_eq_some_iff.1 hu).1
  have ty : ∀ {a b : Nat} {ca cb : Array Value} {ta tb : TypeId}, w.heap[a]? = some (.cells ca ta (0, 0)) → w.heap[b]? = some (.cells cb tb (0, 0)) → ta ≠ tb → a ≠ b := fun ha hb' hne q => by
    subst q
    rw [ha] at hb'
    injection hb' with q
    injection q with _ q _
    exact hne q
  refine ⟨hu, ?_, ?_, ?_, World.ownsRow_nil _ _ _ _, ⟨hpq, ty hp hg (by decide), ty hq hg (by decide), ty hu hp (by decide), ty hu hq (by decide), ty hu hg (by decide)⟩, ⟨l1, l2, l3, l4, Nat.le_refl _⟩, h4, hb, Nat.le_refl _⟩
  · exact ⟨by simp, .inr ⟨pb, V, _, rfl, h1, hp, Nat.le_refl _, by unfold maxLen; omega, by simp, by rw [ncs_zero]; simp⟩⟩
  · exact ⟨by simp, .inr ⟨qb, V, _, rfl, h2, hq, Nat.le_refl _, by unfold maxLen; omega, by simp, by rw [ncs_zero]; simp⟩⟩
  · exact ⟨by simp, .inr ⟨gb, E, _, rfl, h3, hg, Nat.le_refl _, by unfold maxLen; omega, by simp, by rw [bl_zero]; simp⟩⟩

theorem four_new (w : World) (A B C S : Array Value) (a b c s : TypeId) (X : World) (hX : X = ((((w.alloc (.cells A a)).alloc (.cells B b)).alloc (.cells C c)).alloc (.cells S s)).drew) :
    X.heap[w.heap.size]? = some (.cells A a (0, 0)) ∧ X.heap[w.heap.size + 1]? = some (.cells B b (0, 0)) ∧ X.heap[w.heap.size + 1 + 1]? = some (.cells C c (0, 0)) ∧ X.heap[w.heap.size + 1 + 1 + 1]? = some (.cells S s (0, 0)) := by
  subst hX
  have z1 : (w.alloc (.cells A a)).heap.size = w.heap.size + 1 := by simp
  have z2 : ((w.alloc (.cells A a)).alloc (.cells B b)).heap.size = w.heap.size + 1 + 1 := by simp
  have z3 : (((w.alloc (.cells A a)).alloc (.cells B b)).alloc (.cells C c)).heap.size = w.heap.size + 1 + 1 + 1 := by simp
  refine ⟨?_, ?_, ?_, ?_⟩
  · show ((((w.alloc (.cells A a)).alloc (.cells B b)).alloc (.cells C c)).alloc (.cells S s)).heap[w.heap.size]? = _
    rw [Below.heap_alloc _ _ _ (by omega), Below.heap_alloc _ _ _ (by omega), Below.heap_alloc _ _ _ (by omega)]
    exact heap_alloc_new _ _
  · show ((((w.alloc (.cells A a)).alloc (.cells B b)).alloc (.cells C c)).alloc (.cells S s)).heap[w.heap.size + 1]? = _
    rw [Below.heap_alloc _ _ _ (by omega), Below.heap_alloc _ _ _ (by omega), ← z1]
    exact heap_alloc_new _ _
  · show ((((w.alloc (.cells A a)).alloc (.cells B b)).alloc (.cells C c)).alloc (.cells S s)).heap[w.heap.size + 1 + 1]? = _
    rw [Below.heap_alloc _ _ _ (by omega), ← z2]
    exact heap_alloc_new _ _
  · show ((((w.alloc (.cells A a)).alloc (.cells B b)).alloc (.cells C c)).alloc (.cells S s)).heap[w.heap.size + 1 + 1 + 1]? = _
    rw [← z3]
    exact heap_alloc_new _ _

theorem four_below {w0 w : World} (hb : Below w0.heap.size w0 w) (A B C S : Array Value) (a b c s : TypeId) : Below w0.heap.size w0 ((((w.alloc (.cells A a)).alloc (.cells B b)).alloc (.cells C c)).alloc (.cells S s)).drew := by
  have h1 := hb.alloc hb.size (.cells A a)
  have h2 := h1.alloc h1.size (.cells B b)
  have h3 := h2.alloc h2.size (.cells C c)
  exact (h3.alloc h3.size (.cells S s)).drew

set_option maxRecDepth 100000 in
set_option maxHeartbeats 4000000 in
theorem newtour_ok (w : World) (tp : Option Addr) (V E : Nat) (hV : V ≤ 1048576) (hE : E ≤ 1048576) (hs : Calls Tryz.prog 36 #[.pointer tp] w fun x w' => x = .returned (.tuple #[.int .i64 (V : Int), .int .i64 (E : Int)]) ∧ ∃ m, w' = w.drewN m) :
    Calls Tryz.prog 37 #[.pointer tp] w fun r w' => ∃ ub pb qb gb bb, r = .returned (.pointer (some ⟨ub, 0, none⟩)) ∧ Um w.heap.size w w' ub tp pb qb gb bb V E (fun _ => 0) (fun _ => 0) (fun _ => false) 0 (.slice none 0 0) [] := by
  have m1 := make_ints V hV
  have m2 := make_bools E hE
  replace hs := hid hs
  go_enter Tryz.func37, Tryz.ntmps37
  go_wp2_with fail
  refine hs.out.mono ?_
  rintro x w1 ⟨rfl, n1, rfl⟩
  have b1 := hid (belowN (Below.refl w.heap.size w) n1)
  obtain ⟨w1, hw1⟩ : ∃ w1, w.drewN n1 = w1 := ⟨_, rfl⟩
  rw [hw1] at b1 ⊢
  have hsz := b1.out.size
  clear hs hw1
  go_wp2_with fail
  go_region
  all_goals
    go_wp2_with fail
    go_ret
    first
      | exact ⟨_, w1.heap.size, w1.heap.size + 1, w1.heap.size + 1 + 1, _, rfl, um_new (four_below b1.out _ _ _ _ _ _ _ _) (by exact (four_new w1 _ _ _ _ _ _ _ _ _ rfl).1) (by exact (four_new w1 _ _ _ _ _ _ _ _ _ rfl).2.1) (by exact (four_new w1 _ _ _ _ _ _ _ _ _ rfl).2.2.1) (by exact (four_new w1 _ _ _ _ _ _ _ _ _ rfl).2.2.2) (by omega) (by omega) (by omega) (by omega) (by omega) hV hE⟩
      | exact ⟨_, w1.heap.size, w1.heap.size + 1 + 1, w1.heap.size + 1, _, rfl, um_new (four_below b1.out _ _ _ _ _ _ _ _) (by exact (four_new w1 _ _ _ _ _ _ _ _ _ rfl).1) (by exact (four_new w1 _ _ _ _ _ _ _ _ _ rfl).2.2.1) (by exact (four_new w1 _ _ _ _ _ _ _ _ _ rfl).2.1) (by exact (four_new w1 _ _ _ _ _ _ _ _ _ rfl).2.2.2) (by omega) (by omega) (by omega) (by omega) (by omega) hV hE⟩
      | exact ⟨_, w1.heap.size + 1, w1.heap.size, w1.heap.size + 1 + 1, _, rfl, um_new (four_below b1.out _ _ _ _ _ _ _ _) (by exact (four_new w1 _ _ _ _ _ _ _ _ _ rfl).2.1) (by exact (four_new w1 _ _ _ _ _ _ _ _ _ rfl).1) (by exact (four_new w1 _ _ _ _ _ _ _ _ _ rfl).2.2.1) (by exact (four_new w1 _ _ _ _ _ _ _ _ _ rfl).2.2.2) (by omega) (by omega) (by omega) (by omega) (by omega) hV hE⟩
      | exact ⟨_, w1.heap.size + 1, w1.heap.size + 1 + 1, w1.heap.size, _, rfl, um_new (four_below b1.out _ _ _ _ _ _ _ _) (by exact (four_new w1 _ _ _ _ _ _ _ _ _ rfl).2.1) (by exact (four_new w1 _ _ _ _ _ _ _ _ _ rfl).2.2.1) (by exact (four_new w1 _ _ _ _ _ _ _ _ _ rfl).1) (by exact (four_new w1 _ _ _ _ _ _ _ _ _ rfl).2.2.2) (by omega) (by omega) (by omega) (by omega) (by omega) hV hE⟩
      | exact ⟨_, w1.heap.size + 1 + 1, w1.heap.size, w1.heap.size + 1, _, rfl, um_new (four_below b1.out _ _ _ _ _ _ _ _) (by exact (four_new w1 _ _ _ _ _ _ _ _ _ rfl).2.2.1) (by exact (four_new w1 _ _ _ _ _ _ _ _ _ rfl).1) (by exact (four_new w1 _ _ _ _ _ _ _ _ _ rfl).2.1) (by exact (four_new w1 _ _ _ _ _ _ _ _ _ rfl).2.2.2) (by omega) (by omega) (by omega) (by omega) (by omega) hV hE⟩
      | exact ⟨_, w1.heap.size + 1 + 1, w1.heap.size + 1, w1.heap.size, _, rfl, um_new (four_below b1.out _ _ _ _ _ _ _ _) (by exact (four_new w1 _ _ _ _ _ _ _ _ _ rfl).2.2.1) (by exact (four_new w1 _ _ _ _ _ _ _ _ _ rfl).2.1) (by exact (four_new w1 _ _ _ _ _ _ _ _ _ rfl).1) (by exact (four_new w1 _ _ _ _ _ _ _ _ _ rfl).2.2.2) (by omega) (by omega) (by omega) (by omega) (by omega) hV hE⟩

end Go.Proofs.YtghpjljnbdjmaaaGreatDoor

namespace Go.Proofs.YtghpjljnbdjmaaaGreatDoor
open Go.RowKit
set_option linter.unusedVariables false

open Pq (fl fl_length fl_succ fl_get fl_congr)

section
variable {w0 w : World} {lo tb V E ub pb qb gb bb : Nat} {R : Nat → List Nat} {pl lw : Nat → Nat} {gr : Nat → Bool} {c : Nat} {bv : Value} {bs : List Nat}

/-- What look asks of the program's other functions, at a dart. -/
structure Lq (w0 : World) (tb V : Nat) (R : Nat → List Nat) (d v y n m : Nat) : Prop where
  o : ∀ z, Below w0.heap.size w0 z → Calls Tryz.prog 51 #[.pointer (some ⟨tb, 0, none⟩), .int .i64 (d : Int)] z fun r w' => r = .returned (.int .i64 (v : Int)) ∧ Below z.heap.size z w'
  h : ∀ z, Below w0.heap.size w0 z → Calls Tryz.prog 44 #[.pointer (some ⟨tb, 0, none⟩), .int .i64 (d : Int)] z fun r w' => r = .returned (.int .i64 (y : Int)) ∧ Below z.heap.size z w'
  b : ∀ z, Below w0.heap.size w0 z → Calls Tryz.prog 100 #[.pointer (some ⟨tb, 0, none⟩), .int .i64 (d : Int)] z fun r w' => r = .returned (.int .i64 (n : Int)) ∧ Below z.heap.size z w'
  t : ∀ z, Calls Tryz.prog 77 #[.int .i64 (d : Int)] z fun r w' => r = .returned (.int .i64 (tw d : Int)) ∧ z = w'
  bt : ∀ z, Below w0.heap.size w0 z → Calls Tryz.prog 100 #[.pointer (some ⟨tb, 0, none⟩), .int .i64 (tw d : Int)] z fun r w' => r = .returned (.int .i64 (m : Int)) ∧ Below z.heap.size z w'
  e : ∀ z, Calls Tryz.prog 68 #[.int .i64 (d : Int)] z fun r w' => r = .returned (.int .i64 ((d / 2 : Nat) : Int)) ∧ z = w'

theorem Lq.of (h : TA w0 lo tb V E R) (hw : Tw V E R) {d : Nat} (hd : In V R d) : Lq w0 tb V R d (og V R d) (og V R (tw d)) (vx V R d) (vx V R (tw d)) :=
  ⟨fun z hz => korigin_ok (h.more hz) d hd, fun z hz => khead_ok (h.more hz) hw d hd, fun z hz => kbehind_ok (h.more hz) d hd, fun z => ktwin_ok d z (low21 h hd), fun z hz => kbehind_ok (h.more hz) (tw d) (hd.tw h.tn hw), fun z => kedge_ok d z (low21 h hd)⟩

set_option maxRecDepth 100000 in
set_option maxHeartbeats 4000000 in
theorem look_past {d v y n m : Nat} (q : Lq w0 tb V R d v y n m) (hm : Um w0.heap.size w0 w ub (some ⟨tb, 0, none⟩) pb qb gb bb V E pl lw gr c bv bs) (hv : v < V) (hyV : y < V) (he : d / 2 < E) (hy : pl y ≠ 0) (hg : gr (d / 2) = false) :
    Calls Tryz.prog 70 #[.pointer (some ⟨ub, 0, none⟩), .int .i64 (d : Int)] w fun r w' => r = .returned (.int .i64 (n : Int)) ∧ Um w0.heap.size w0 w' ub (some ⟨tb, 0, none⟩) pb qb gb bb V E pl (updN lw v (min (lw v) (pl y))) gr c bv bs := by
  have hbel := hm.bel
  have hsz : Hid (w0.heap.size ≤ w.heap.size) := hid hm.bel.size
  have hto : Hid (∀ z, Below w.heap.size w z → Below w0.heap.size w0 z) := hid fun z hz => hbel.trans (hz.mono hsz.out)
  have hS1 : Hid (∀ z, Below w.heap.size w z → z.cell? ⟨ub, 0, none⟩ = some (.pointer (some ⟨tb, 0, none⟩))) := hid fun z hz => (hm.more hz).c0
  have hmm := hid (fun z (hz : Below w.heap.size w z) => hm.more hz)
  obtain ⟨D2, hD2⟩ : ∃ D2, d / 2 = D2 := ⟨_, rfl⟩
  have hq := hid q
  have hed : Hid (∀ z, Calls Tryz.prog 68 #[.int .i64 (d : Int)] z fun r w' => r = .returned (.int .i64 (D2 : Int)) ∧ z = w') := hid fun z => by rw [← hD2]; exact q.e z
  rw [hD2] at he hg
  have i1 : (0 : Int) ≤ (D2 : Int) := by omega
  have i2 : (D2 : Int) < (E : Int) := by omega
  have i3 : (0 : Int) ≤ (y : Int) := by omega
  have i4 : (y : Int) < (V : Int) := by omega
  clear hm hbel q hD2
  go_enter Tryz.func70, Tryz.ntmps70
  go_wp2_with fail
  go_region_held3 (fun z => z.cell? ⟨ub, 0, none⟩ = some (.pointer (some ⟨tb, 0, none⟩))) (first | with_reducible exact hS1.out _ bS.out | with_reducible exact hS1.out _ (Below.refl _ _).drew | with_reducible exact hS1.out _ (Below.refl _ _) | go_keep) ((first | (go_at_call 51; refine (hq.out.o _ (by first | exact hto.out _ bS.out | exact hto.out _ (Below.refl _ _).drew)).mono ?_; rintro r ws ⟨rfl, bs1⟩; have bS := hid (below_thru (by first | exact bS.out | exact (Below.refl w.heap.size w).drew) bs1); clear bs1) | (go_at_call 44; refine (hq.out.h _ (by first | exact hto.out _ bS.out | exact hto.out _ (Below.refl _ _).drew)).mono ?_; rintro r ws ⟨rfl, bs1⟩; have bS := hid (below_thru (by first | exact bS.out | exact (Below.refl w.heap.size w).drew) bs1); clear bs1)))
  have h1 := hid (hmm.out ws bS.out)
  have hre := hid (treached_ok h1.out y true hyV (by simp [hy]))
  clear hS1 hmm
  go_wp2_with fail
  refine hre.out.mono ?_
  rintro r w2 ⟨rfl, rfl⟩
  clear hre
  have c3 := h1.out.c3
  have cg := h1.out.gat he
  rw [hg] at cg
  go_wp2_with fail
  go_quiet ((go_at_call 68; exact Calls.quiet_of_same ((hed.out _).mono (fun _ _ h => ⟨h.1, h.2.symm⟩))))
  have bq := belowN (Below.refl ws.heap.size ws) nq
  have h2 := hid (h1.out.more bq)
  have hb2 := hid (below_thru bS.out bq)
  clear c3 cg h1 bq bS
  generalize ws.drewN nq = w3 at h2 hb2 ⊢
  have c1 := h2.out.c1
  have cy := h2.out.pat hyV
  have hlow := hid (lower_ok h2.out v (pl y) hv)
  obtain ⟨Y, hY⟩ : ∃ Y, pl y = Y := ⟨_, rfl⟩
  rw [hY] at hlow cy
  replace hY := hid hY
  go_wp2_with fail
  refine hlow.out.mono ?_
  rintro r w4 ⟨rfl, h4⟩
  clear hlow c1 cy h2
  have c0 := h4.c0
  have hcall := hid (hq.out.b w4 h4.bel)
  replace h4 := hid h4
  go_wp2_with fail
  refine hcall.out.mono ?_
  rintro r w5 ⟨rfl, b5⟩
  have fin := hid (h4.out.more b5)
  clear hcall b5 h4 c0
  go_wp2_with fail
  go_ret
  exact ⟨rfl, by rw [hY.out]; exact fin.out⟩

set_option maxRecDepth 100000 in
set_option maxHeartbeats 4000000 in
theorem look_new {d v y n m : Nat} (q : Lq w0 tb V R d v y n m) (hm : Um w0.heap.size w0 w ub (some ⟨tb, 0, none⟩) pb qb gb bb V E pl lw gr c bv bs) (hv : v < V) (hyV : y < V) (he : d / 2 < E) (hy : pl y = 0) (hc : c ≤ 1048576) :
    Calls Tryz.prog 70 #[.pointer (some ⟨ub, 0, none⟩), .int .i64 (d : Int)] w fun r w' => r = .returned (.int .i64 (m : Int)) ∧ Um w0.heap.size w0 w' ub (some ⟨tb, 0, none⟩) pb qb gb bb V E (updN pl y (c + 1)) (updN lw y (c + 1)) (on gr (d / 2)) (c + 1) bv bs := by
  have hbel := hm.bel
  have hsz : Hid (w0.heap.size ≤ w.heap.size) := hid hm.bel.size
  have hto : Hid (∀ z, Below w.heap.size w z → Below w0.heap.size w0 z) := hid fun z hz => hbel.trans (hz.mono hsz.out)
  have hS1 : Hid (∀ z, Below w.heap.size w z → z.cell? ⟨ub, 0, none⟩ = some (.pointer (some ⟨tb, 0, none⟩))) := hid fun z hz => (hm.more hz).c0
  have hmm := hid (fun z (hz : Below w.heap.size w z) => hm.more hz)
  obtain ⟨D2, hD2⟩ : ∃ D2, d / 2 = D2 := ⟨_, rfl⟩
  have hq := hid q
  have hed : Hid (∀ z, Calls Tryz.prog 68 #[.int .i64 (d : Int)] z fun r w' => r = .returned (.int .i64 (D2 : Int)) ∧ z = w') := hid fun z => by rw [← hD2]; exact q.e z
  rw [hD2] at he ⊢
  have i1 : (0 : Int) ≤ (D2 : Int) := by omega
  have i2 : (D2 : Int) < (E : Int) := by omega
  have i3 : (0 : Int) ≤ (y : Int) := by omega
  have i4 : (y : Int) < (V : Int) := by omega
  clear hm hbel q hD2
  go_enter Tryz.func70, Tryz.ntmps70
  go_wp2_with fail
  go_region_held3 (fun z => z.cell? ⟨ub, 0, none⟩ = some (.pointer (some ⟨tb, 0, none⟩))) (first | with_reducible exact hS1.out _ bS.out | with_reducible exact hS1.out _ (Below.refl _ _).drew | with_reducible exact hS1.out _ (Below.refl _ _) | go_keep) ((first | (go_at_call 51; refine (hq.out.o _ (by first | exact hto.out _ bS.out | exact hto.out _ (Below.refl _ _).drew)).mono ?_; rintro r ws ⟨rfl, bs1⟩; have bS := hid (below_thru (by first | exact bS.out | exact (Below.refl w.heap.size w).drew) bs1); clear bs1) | (go_at_call 44; refine (hq.out.h _ (by first | exact hto.out _ bS.out | exact hto.out _ (Below.refl _ _).drew)).mono ?_; rintro r ws ⟨rfl, bs1⟩; have bS := hid (below_thru (by first | exact bS.out | exact (Below.refl w.heap.size w).drew) bs1); clear bs1)))
  have h1 := hid (hmm.out ws bS.out)
  have hre := hid (treached_ok h1.out y false hyV (by simp [hy]))
  clear hS1 hmm
  go_wp2_with fail
  refine hre.out.mono ?_
  rintro r w2 ⟨rfl, rfl⟩
  clear hre
  have c3 := h1.out.c3
  have cg := h1.out.gat he
  have fg := h1.out.grow.frozenAt D2
  have h2 := hid ((h1.out.setG D2).more (Below.refl _ _).drew)
  generalize gr D2 = old at cg
  go_wp2_with fail
  go_region_with ((go_at_call 68; refine (hed.out _).mono ?_; rintro r wq ⟨rfl, rfl⟩))
  all_goals
    generalize (ws.setCell ⟨gb, D2, none⟩ (.bool true)).drew = w3 at h2 ⊢
    clear c3 cg fg h1 bS
    have hen := hid (enter_ok h2.out y hyV hc)
    go_wp2_with fail
    refine hen.out.mono ?_
    rintro r w4 ⟨rfl, h4⟩
    replace h4 := hid h4
    clear hen h2
    have hbel4 := h4.out.bel
    have hto2 : Hid (∀ z, Below w4.heap.size w4 z → Below w0.heap.size w0 z) := hid fun z hz => hbel4.trans (hz.mono hbel4.size)
    have hS2 : Hid (∀ z, Below w4.heap.size w4 z → z.cell? ⟨ub, 0, none⟩ = some (.pointer (some ⟨tb, 0, none⟩))) := hid fun z hz => (h4.out.more hz).c0
    clear hbel4
    go_wp2_with fail
    go_region_held3 (fun z => z.cell? ⟨ub, 0, none⟩ = some (.pointer (some ⟨tb, 0, none⟩))) (first | with_reducible exact hS2.out _ bT.out | with_reducible exact hS2.out _ (Below.refl _ _).drew | with_reducible exact hS2.out _ (Below.refl _ _) | go_keep) ((first | (go_at_call 77; refine (hq.out.t _).mono ?_; rintro r wq ⟨rfl, rfl⟩) | (go_at_call 100; refine (hq.out.bt _ (by first | exact hto2.out _ (Below.refl _ _).drew | exact hto2.out _ (Below.refl _ _))).mono ?_; rintro r wt ⟨rfl, bt1⟩; have bT := hid (below_thru (by first | exact (Below.refl w4.heap.size w4).drew | exact Below.refl w4.heap.size w4) bt1); clear bt1)))
    have fin := hid (h4.out.more bT.out)
    clear h4 bT hS2
    go_wp2_with fail
    go_ret
    exact ⟨rfl, fin.out⟩

set_option maxRecDepth 100000 in
set_option maxHeartbeats 4000000 in
theorem look_back {d v y n m : Nat} (q : Lq w0 tb V R d v y n m) (hm : Um w0.heap.size w0 w ub (some ⟨tb, 0, none⟩) pb qb gb bb V E pl lw gr c bv bs) (hv : v < V) (hyV : y < V) (he : d / 2 < E) (hy : pl y ≠ 0) (hg : gr (d / 2) = true) (bs' : List Nat)
    (hlv : ∀ w1, Um w0.heap.size w0 w1 ub (some ⟨tb, 0, none⟩) pb qb gb bb V E pl lw gr c bv bs → Calls Tryz.prog 101 #[.pointer (some ⟨ub, 0, none⟩), .int .i64 (v : Int), .int .i64 (y : Int), .int .i64 ((d / 2 : Nat) : Int)] w1 fun r w' => ∃ bv', r = .returned (.tuple #[]) ∧ Um w0.heap.size w0 w' ub (some ⟨tb, 0, none⟩) pb qb gb bb V E pl (updN lw y (min (lw y) (lw v))) gr c bv' bs') :
    Calls Tryz.prog 70 #[.pointer (some ⟨ub, 0, none⟩), .int .i64 (d : Int)] w fun r w' => ∃ bv', r = .returned (.int .i64 (m : Int)) ∧ Um w0.heap.size w0 w' ub (some ⟨tb, 0, none⟩) pb qb gb bb V E pl (updN lw y (min (lw y) (lw v))) gr c bv' bs' := by
  have hbel := hm.bel
  have hsz : Hid (w0.heap.size ≤ w.heap.size) := hid hm.bel.size
  have hto : Hid (∀ z, Below w.heap.size w z → Below w0.heap.size w0 z) := hid fun z hz => hbel.trans (hz.mono hsz.out)
  have hS1 : Hid (∀ z, Below w.heap.size w z → z.cell? ⟨ub, 0, none⟩ = some (.pointer (some ⟨tb, 0, none⟩))) := hid fun z hz => (hm.more hz).c0
  have hmm := hid (fun z (hz : Below w.heap.size w z) => hm.more hz)
  obtain ⟨D2, hD2⟩ : ∃ D2, d / 2 = D2 := ⟨_, rfl⟩
  have hq := hid q
  have hed : Hid (∀ z, Calls Tryz.prog 68 #[.int .i64 (d : Int)] z fun r w' => r = .returned (.int .i64 (D2 : Int)) ∧ z = w') := hid fun z => by rw [← hD2]; exact q.e z
  rw [hD2] at he hg hlv
  replace hlv := hid hlv
  have i1 : (0 : Int) ≤ (D2 : Int) := by omega
  have i2 : (D2 : Int) < (E : Int) := by omega
  have i3 : (0 : Int) ≤ (y : Int) := by omega
  have i4 : (y : Int) < (V : Int) := by omega
  clear hm hbel q hD2
  go_enter Tryz.func70, Tryz.ntmps70
  go_wp2_with fail
  go_region_held3 (fun z => z.cell? ⟨ub, 0, none⟩ = some (.pointer (some ⟨tb, 0, none⟩))) (first | with_reducible exact hS1.out _ bS.out | with_reducible exact hS1.out _ (Below.refl _ _).drew | with_reducible exact hS1.out _ (Below.refl _ _) | go_keep) ((first | (go_at_call 51; refine (hq.out.o _ (by first | exact hto.out _ bS.out | exact hto.out _ (Below.refl _ _).drew)).mono ?_; rintro r ws ⟨rfl, bs1⟩; have bS := hid (below_thru (by first | exact bS.out | exact (Below.refl w.heap.size w).drew) bs1); clear bs1) | (go_at_call 44; refine (hq.out.h _ (by first | exact hto.out _ bS.out | exact hto.out _ (Below.refl _ _).drew)).mono ?_; rintro r ws ⟨rfl, bs1⟩; have bS := hid (below_thru (by first | exact bS.out | exact (Below.refl w.heap.size w).drew) bs1); clear bs1)))
  have h1 := hid (hmm.out ws bS.out)
  have hre := hid (treached_ok h1.out y true hyV (by simp [hy]))
  clear hS1 hmm
  go_wp2_with fail
  refine hre.out.mono ?_
  rintro r w2 ⟨rfl, rfl⟩
  clear hre
  have c3 := h1.out.c3
  have cg := h1.out.gat he
  rw [hg] at cg
  go_wp2_with fail
  go_quiet ((go_at_call 68; exact Calls.quiet_of_same ((hed.out _).mono (fun _ _ h => ⟨h.1, h.2.symm⟩))))
  have bq := belowN (Below.refl ws.heap.size ws) nq
  have h2 := hid (h1.out.more bq)
  clear c3 cg h1 bq bS
  generalize ws.drewN nq = w3 at h2 ⊢
  have hcall := hid (hlv.out w3 h2.out)
  go_wp2_with fail
  refine (hed.out _).mono ?_
  rintro r wq ⟨rfl, rfl⟩
  go_wp2_with fail
  refine hcall.out.mono ?_
  rintro r w4 ⟨bv4, rfl, h4⟩
  replace h4 := hid h4
  clear hcall h2
  have hbel4 := h4.out.bel
  have hto2 : Hid (∀ z, Below w4.heap.size w4 z → Below w0.heap.size w0 z) := hid fun z hz => hbel4.trans (hz.mono hbel4.size)
  have hS2 : Hid (∀ z, Below w4.heap.size w4 z → z.cell? ⟨ub, 0, none⟩ = some (.pointer (some ⟨tb, 0, none⟩))) := hid fun z hz => (h4.out.more hz).c0
  clear hbel4
  go_wp2_with fail
  go_region_held3 (fun z => z.cell? ⟨ub, 0, none⟩ = some (.pointer (some ⟨tb, 0, none⟩))) (first | with_reducible exact hS2.out _ bT.out | with_reducible exact hS2.out _ (Below.refl _ _).drew | with_reducible exact hS2.out _ (Below.refl _ _) | go_keep) ((first | (go_at_call 77; refine (hq.out.t _).mono ?_; rintro r wq ⟨rfl, rfl⟩) | (go_at_call 100; refine (hq.out.bt _ (by first | exact hto2.out _ (Below.refl _ _).drew | exact hto2.out _ (Below.refl _ _))).mono ?_; rintro r wt ⟨rfl, bt1⟩; have bT := hid (below_thru (by first | exact (Below.refl w4.heap.size w4).drew | exact Below.refl w4.heap.size w4) bt1); clear bt1)))
  have fin := hid (h4.out.more bT.out)
  clear h4 bT hS2
  go_wp2_with fail
  go_ret
  exact ⟨_, rfl, fin.out⟩
end

end Go.Proofs.YtghpjljnbdjmaaaGreatDoor

namespace Go.Proofs.YtghpjljnbdjmaaaGreatDoor
open Go.RowKit
set_option linter.unusedVariables false

open Pq (fl fl_length fl_succ fl_get fl_congr)

open Classical in
/-- The greatest number up to N of which P holds. -/
noncomputable def topk : Nat → (Nat → Prop) → Nat
  | 0, P => 0
  | n + 1, P => if P (n + 1) then n + 1 else topk n P

theorem topk_ge {P : Nat → Prop} : ∀ {N k : Nat}, k ≤ N → P k → k ≤ topk N P
  | 0, k, h, _ => by unfold topk; exact h
  | n + 1, k, h, hp => by
    unfold topk
    by_cases q : P (n + 1)
    · rw [if_pos q]; exact h
    · rw [if_neg q]
      refine topk_ge ?_ hp
      rcases Nat.lt_or_ge k (n + 1) with c | c
      · omega
      · obtain rfl : k = n + 1 := by omega
        exact absurd hp q

theorem topk_is {P : Nat → Prop} : ∀ {N k : Nat}, k ≤ N → P k → P (topk N P) ∧ topk N P ≤ N
  | 0, k, h, hp => by
    obtain rfl : k = 0 := by omega
    unfold topk; exact ⟨hp, Nat.le_refl _⟩
  | n + 1, k, h, hp => by
    unfold topk
    by_cases q : P (n + 1)
    · rw [if_pos q]; exact ⟨q, Nat.le_refl _⟩
    · rw [if_neg q]
      have hk : k ≤ n := by
        rcases Nat.lt_or_ge k (n + 1) with c | c
        · omega
        · obtain rfl : k = n + 1 := by omega
          exact absurd hp q
      have := topk_is hk hp
      exact ⟨this.1, by omega⟩

/-- The tour in memory is where the plain one stands. -/
def To (w0 w : World) (ub tb pb qb gb bb V E : Nat) (g : Gs) : Prop := ∃ bv, Um w0.heap.size w0 w ub (some ⟨tb, 0, none⟩) pb qb gb bb V E g.pl g.lw g.gr g.c bv g.bs

section
variable {w0 w : World} {lo tb V E ub pb qb gb bb : Nat} {R : Nat → List Nat} {g : Gs} {r d : Nat}

open Classical in
/-- One dart looked at. -/
theorem look_step (h : TA w0 lo tb V E R) (hw : Tw V E R) (q : Tq V E R g r) (cu : Cu V R g d) (hm : To w0 w ub tb pb qb gb bb V E g) :
    Calls Tryz.prog 70 #[.pointer (some ⟨ub, 0, none⟩), .int .i64 (d : Int)] w fun x w' => ∃ (d' : Nat) (g' : Gs), x = .returned (.int .i64 (d' : Int)) ∧ Tq V E R g' r ∧ (Cu V R g' d' ∨ Fi V R g' r d') ∧ To w0 w' ub tb pb qb gb bb V E g' ∧ g'.D = g.D ++ [d] ∧ (∀ x, g.pl x ≠ 0 → g'.pl x ≠ 0) ∧ g'.sd r = g.sd r := by
  have ht := h.tn
  obtain ⟨bv, hm⟩ := hm
  have lq := Lq.of h hw cu.in_
  have hvV := (og_is cu.in_).1
  have hyV := (og_is (cu.in_.tw ht hw)).1
  have he : d / 2 < E := by have := cu.in_.low ht; omega
  have hV := h.hV
  have hE := h.hE
  have hc := q.count
  have hbs := q.few ht
  obtain ⟨b, hst⟩ := cu.top
  have hr0 : g.pl r ≠ 0 := q.stp r (q.root (by rw [hst]; simp)).1
  by_cases hy : g.pl (og V R (tw d)) = 0
  · obtain ⟨q1, q2⟩ := q.goOn ht hw cu hy
    refine (look_new lq hm hvV hyV he hy (by omega)).mono ?_
    rintro x w' ⟨rfl, h'⟩
    refine ⟨_, _, rfl, q1, .inl q2, ⟨bv, h'⟩, rfl, fun x hx => ?_, ?_⟩
    · show updN g.pl (og V R (tw d)) (g.c + 1) x ≠ 0
      by_cases c : x = og V R (tw d)
      · rw [c, updN_same]; omega
      · rw [updN_ne _ _ c]; exact hx
    · exact updN_ne _ _ (fun c => hr0 (c ▸ hy))
  · cases hg : g.gr (d / 2) with
    | true =>
      obtain ⟨q1, q2⟩ := q.goBack ht hw cu hy hg
      refine (look_back lq hm hvV hyV he hy hg (if g.lw (og V R d) = g.pl (og V R d) then g.bs ++ [d / 2] else g.bs) (fun w1 h1 => ?_)).mono ?_
      · by_cases c : g.lw (og V R d) = g.pl (og V R d)
        · rw [if_pos c]
          exact leave_yes h1 _ _ _ hvV hyV c (by omega)
        · rw [if_neg c]
          exact (leave_no h1 _ _ _ hvV hyV c).mono (fun _ _ k => ⟨bv, k⟩)
      · rintro x w' ⟨bv', rfl, h'⟩
        exact ⟨_, _, rfl, q1, q2, ⟨bv', h'⟩, rfl, fun x hx => hx, rfl⟩
    | false =>
      obtain ⟨q1, q2⟩ := q.goPast ht hw cu hy hg
      refine (look_past lq hm hvV hyV he hy hg).mono ?_
      rintro x w' ⟨rfl, h'⟩
      exact ⟨_, _, rfl, q1, q2, ⟨bv, h'⟩, rfl, fun x hx => hx, rfl⟩

/-- Where the round stands, behind so many darts. -/
def Rq (w0 : World) (ub tb pb qb gb bb V E : Nat) (R : Nat → List Nat) (g0 : Gs) (r f : Nat) (u : Value) (wr : World) (k : Nat) : Prop :=
  ∃ (d : Nat) (g : Gs), u = .int .i64 (d : Int) ∧ g.D.length = k ∧ Tq V E R g r ∧ (Cu V R g d ∨ Fi V R g r d) ∧ To w0 wr ub tb pb qb gb bb V E g ∧ f ∈ g.D ∧ g.sd r = f ∧ (∀ x, g0.pl x ≠ 0 → g.pl x ≠ 0) ∧ g.pl r ≠ 0

set_option maxRecDepth 100000 in
set_option maxHeartbeats 4000000 in
theorem goround_ok (h : TA w0 lo tb V E R) (hw : Tw V E R) (q : Tq V E R g r) (h0 : g.st = []) (hm : To w0 w ub tb pb qb gb bb V E g) (f : Nat) (hf : In V R f) (hy : g.pl (og V R f) = 0) :
    Calls Tryz.prog 40 #[.pointer (some ⟨ub, 0, none⟩), .int .i64 (f : Int)] w fun x w' => x = .returned (.tuple #[]) ∧ ∃ (g' : Gs) (r' : Nat), Tq V E R g' r' ∧ g'.st = [] ∧ To w0 w' ub tb pb qb gb bb V E g' ∧ (∀ x, g.pl x ≠ 0 → g'.pl x ≠ 0) ∧ g'.pl (og V R f) ≠ 0 := by
  have ht := h.tn
  have hV := h.hV
  obtain ⟨q0, cu0⟩ := q.begin_ ht hw h0 hf hy
  have hvV := (og_is hf).1
  have hc := q.count
  obtain ⟨bv, hum⟩ := hm
  have c0 := hum.c0
  have hor := hid (korigin_ok (h.more hum.bel) f hf)
  have hlook := hid (fun (wy : World) (g' : Gs) (r' d' : Nat) (k1 : Tq V E R g' r') (k2 : Cu V R g' d') (k3 : To w0 wy ub tb pb qb gb bb V E g') => look_step h hw k1 k2 k3)
  have hen := hid (fun y (hy : Below w.heap.size w y) => enter_ok (hum.more hy) (og V R f) hvV (by omega))
  have hlk : Hid (∀ (g' : Gs) r', Tq V E R g' r' → g'.D.length ≤ 2 * E) := hid fun g' r' k => k.looked ht
  have hend : Hid (∀ (g' : Gs) d', Tq V E R g' (og V R f) → Fi V R g' (og V R f) d' → Tq V E R { g' with st := [] } (og V R f)) := hid fun g' d' k1 k2 => k1.end_ ht k2
  have hg0 : Hid (Tq V E R (g.begin_ f (og V R f)) (og V R f) ∧ Cu V R (g.begin_ f (og V R f)) f ∧ (g.begin_ f (og V R f)).sd (og V R f) = f ∧ (∀ x, g.pl x ≠ 0 → (g.begin_ f (og V R f)).pl x ≠ 0) ∧ (g.begin_ f (og V R f)).pl (og V R f) ≠ 0) := by
    refine hid ⟨q0, cu0, updN_same _ _ _, fun x hx => ?_, ?_⟩
    · show updN g.pl (og V R f) (g.c + 1) x ≠ 0
      by_cases c : x = og V R f
      · rw [c, updN_same]; omega
      · rw [updN_ne _ _ c]; exact hx
    · show updN g.pl (og V R f) (g.c + 1) (og V R f) ≠ 0
      rw [updN_same]; omega
  have hb0 : Hid (∀ y, Um w0.heap.size w0 y ub (some ⟨tb, 0, none⟩) pb qb gb bb V E (updN g.pl (og V R f) (g.c + 1)) (updN g.lw (og V R f) (g.c + 1)) g.gr (g.c + 1) bv g.bs → To w0 y ub tb pb qb gb bb V E (g.begin_ f (og V R f))) := hid fun y hy => ⟨bv, hy⟩
  generalize g.begin_ f (og V R f) = G0 at hg0 hb0
  generalize og V R f = rr at *
  clear h hw q h0 hum hf hy ht hc q0 cu0
  go_enter Tryz.func40, Tryz.ntmps40
  go_wp2_with fail
  refine hor.out.mono ?_
  rintro x w1 ⟨rfl, b1⟩
  have hcall := hid (hen.out w1 b1)
  clear hor hen b1 c0
  go_wp2_with fail
  refine hcall.out.mono ?_
  rintro x w2 ⟨rfl, h2⟩
  have hT2 := hb0.out w2 h2
  have hl2 := hid (hlook.out w2 G0 rr f hg0.out.1 hg0.out.2.1 hT2)
  clear hcall h2 hb0
  go_wp2_with fail
  refine hl2.out.mono ?_
  rintro x w3 ⟨d3, g3, rfl, k1, k2, k3, k4, k5, k6⟩
  have hst0 : Hid (Rq w0 ub tb pb qb gb bb V E R g rr f (.int .i64 (d3 : Int)) w3 g3.D.length) := hid ⟨d3, g3, rfl, rfl, k1, k2, k3, by rw [k4]; simp, by rw [k6]; exact hg0.out.2.2.1, fun x hx => k5 x (hg0.out.2.2.2.1 x hx), k5 _ hg0.out.2.2.2.2⟩
  have hD3 := hid (hlk.out g3 rr k1)
  clear hl2 k1 k2 k3 k4 k5 k6 hg0 hT2
  go_wp2_with fail
  go_loopw [4] (fun u wr => (∃ d : Nat, u = .int .i64 (d : Int)) ∧ ∃ k : Nat, k ≤ 2 * E ∧ Hid (Rq w0 ub tb pb qb gb bb V E R g rr f u wr k)) (fun u wr => 2 * E + 1 - topk (2 * E) (Rq w0 ub tb pb qb gb bb V E R g rr f u wr))
  case atStart => exact ⟨⟨d3, rfl⟩, _, hD3.out, hst0⟩
  case round =>
    obtain ⟨⟨d4, rfl⟩, k, hk, hr⟩ := hrel
    clear hst0
    obtain ⟨t1, t2⟩ := topk_is hk hr.out
    obtain ⟨K, hK⟩ : ∃ K, topk (2 * E) (Rq w0 ub tb pb qb gb bb V E R g rr f (.int .i64 (d4 : Int)) wr) = K := ⟨_, rfl⟩
    rw [hK] at t1 t2
    obtain ⟨d, g4, e4, hl, k1, k2, k3, k4, k5, k6, k7⟩ := t1
    obtain rfl : d4 = d := by
      have e5 : (d4 : Int) = (d : Int) := by simpa using e4
      omega
    replace hK := hid hK
    clear hr e4
    rcases k2 with cu | fi
    · have hne : d4 ≠ f := fun c => cu.new (c ▸ k4)
      have t3 : ((d4 : Int) != (f : Int)) = true := by simp; omega
      have hcall := hid (hlook.out wr g4 rr d4 k1 cu k3)
      have hkk := hid (And.intro k4 (And.intro k5 (And.intro k6 k7)))
      replace hl := hid hl
      clear k1 cu k3 k4 k5 k6 k7 hne
      go_wp2_with fail
      refine hcall.out.mono ?_
      rintro x w5 ⟨d5, g5, rfl, m1, m2, m3, m4, m5, m6⟩
      have hD5 := hlk.out g5 rr m1
      have hlen : g5.D.length = K + 1 := by rw [m4, List.length_append, hl.out]; rfl
      rw [hlen] at hD5
      have hnew : Hid (Rq w0 ub tb pb qb gb bb V E R g rr f (.int .i64 (d5 : Int)) w5 (K + 1)) := hid ⟨d5, g5, rfl, hlen, m1, m2, m3, by rw [m4]; exact List.mem_append_left _ hkk.out.1, by rw [m6]; exact hkk.out.2.1, fun x hx => m5 x (hkk.out.2.2.1 x hx), m5 _ hkk.out.2.2.2⟩
      replace hD5 := hid hD5
      clear hcall m1 m2 m3 m4 m5 m6 hlen
      go_wp2_with fail
      go_roundw
      case rel => exact ⟨⟨d5, rfl⟩, K + 1, hD5.out, hnew⟩
      case measure =>
        have a1 := topk_ge hD5.out hnew.out
        have a2 := hK.out
        show 2 * E + 1 - topk (2 * E) (Rq w0 ub tb pb qb gb bb V E R g rr f (.int .i64 (d5 : Int)) w5) < 2 * E + 1 - topk (2 * E) (Rq w0 ub tb pb qb gb bb V E R g rr f (.int .i64 (d4 : Int)) wr)
        have := hD5.out
        omega
    · have hde : d4 = f := fi.at_.trans k5
      have t3 : ((d4 : Int) != (f : Int)) = false := by simp [hde]
      have fin := hid (And.intro (hend.out g4 d4 k1 fi) (And.intro k3 (And.intro k6 k7)))
      clear k1 fi k3 k4 k5 k6 k7 hde hl
      go_wp2_with fail
      go_end0
      exact ⟨rfl, { g4 with st := [] }, rr, fin.out.1, rfl, fin.out.2.1, fin.out.2.2.1, fin.out.2.2.2⟩
end

end Go.Proofs.YtghpjljnbdjmaaaGreatDoor
