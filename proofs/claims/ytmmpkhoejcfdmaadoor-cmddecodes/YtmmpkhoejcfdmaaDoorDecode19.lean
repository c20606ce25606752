/- cmd's Decode, walked. -/
import Derived.Test.YtmmpkhoejcfdmaaDoorCheck19
namespace Go.Proofs.YtmmpkhoejcfdmaaDoor
open Go.RowKit
set_option linter.unusedVariables false

abbrev nilS : Value := .slice none 0 0
/-- The cells of a command that is zero but for its code. -/
abbrev kcs (K : Int) : Array Value := #[.int .i64 K, .int .u32 0, .int .u32 0, .int .u32 0, .int .u32 0, .int .i64 0, .int .i64 0, .int .i32 0, .slice none 0 0]
/-- A block of them. -/
structure ZB (w : World) (b : Nat) : Prop where
  blk : w.heap[b]? = some (.cells (kcs 0) 34 (0, 0))
theorem ZB.lt {w : World} {b : Nat} (h : ZB w b) : b < w.heap.size := (Array.getElem?_eq_some_iff.1 h.blk).1
theorem ZB.more {w w' : World} {b : Nat} (h : ZB w b) (hb : Below w.heap.size w w') : ZB w' b := ⟨(hb.block b h.lt).trans h.blk⟩
theorem kcs_ccs (K : Nat) : kcs (K : Int) = ccs ⟨K, 0, 0, 0, 0, 0, 0, 0, []⟩ nilS := rfl
theorem cz_cv : (Value.agg (kcs 0)) = cv cz nilS := rfl

/-- All nine cells written. -/
abbrev set9 (w : World) (g : Nat) (v0 v1 v2 v3 v4 v5 v6 v7 v8 : Value) : World := (((((((((w.setCell ⟨g, 0, none⟩ v0).setCell ⟨g, 1, none⟩ v1).setCell ⟨g, 2, none⟩ v2).setCell ⟨g, 3, none⟩ v3).setCell ⟨g, 4, none⟩ v4).setCell ⟨g, 5, none⟩ v5).setCell ⟨g, 6, none⟩ v6).setCell ⟨g, 7, none⟩ v7).setCell ⟨g, 8, none⟩ v8)
theorem set9_block {w : World} {g : Nat} {a0 a1 a2 a3 a4 a5 a6 a7 a8 : Value} {t : TypeId} (h : w.heap[g]? = some (.cells #[a0, a1, a2, a3, a4, a5, a6, a7, a8] t (0, 0))) (v0 v1 v2 v3 v4 v5 v6 v7 v8 : Value) : (set9 w g v0 v1 v2 v3 v4 v5 v6 v7 v8).heap[g]? = some (.cells #[v0, v1, v2, v3, v4, v5, v6, v7, v8] t (0, 0)) := by
  have q := set_block (k := 8) (set_block (k := 7) (set_block (k := 6) (set_block (k := 5) (set_block (k := 4) (set_block (k := 3) (set_block (k := 2) (set_block (k := 1) (set_block (k := 0) (h) v0) v1) v2) v3) v4) v5) v6) v7) v8
  simp only [List.setIfInBounds_toArray, List.set_cons_zero, List.set_cons_succ] at q
  exact q
theorem set9_below {B : Nat} {a w : World} (h : Below B a w) {g : Nat} (hg : B ≤ g) (v0 v1 v2 v3 v4 v5 v6 v7 v8 : Value) : Below B a (set9 w g v0 v1 v2 v3 v4 v5 v6 v7 v8) :=
  (((((((((h.setCell (p := ⟨g, 0, none⟩) hg v0).setCell (p := ⟨g, 1, none⟩) hg v1).setCell (p := ⟨g, 2, none⟩) hg v2).setCell (p := ⟨g, 3, none⟩) hg v3).setCell (p := ⟨g, 4, none⟩) hg v4).setCell (p := ⟨g, 5, none⟩) hg v5).setCell (p := ⟨g, 6, none⟩) hg v6).setCell (p := ⟨g, 7, none⟩) hg v7).setCell (p := ⟨g, 8, none⟩) hg v8)
theorem set9_turned (w : World) (g : Nat) (v0 v1 v2 v3 v4 v5 v6 v7 v8 : Value) : Turned (fun k => k = g) w (set9 w g v0 v1 v2 v3 v4 v5 v6 v7 v8) :=
  ((((((((((Turned.refl (fun k => k = g) w).setCell (p := ⟨g, 0, none⟩) rfl v0).setCell (p := ⟨g, 1, none⟩) rfl v1).setCell (p := ⟨g, 2, none⟩) rfl v2).setCell (p := ⟨g, 3, none⟩) rfl v3).setCell (p := ⟨g, 4, none⟩) rfl v4).setCell (p := ⟨g, 5, none⟩) rfl v5).setCell (p := ⟨g, 6, none⟩) rfl v6).setCell (p := ⟨g, 7, none⟩) rfl v7).setCell (p := ⟨g, 8, none⟩) rfl v8)
theorem ZB.cells {w : World} {b : Nat} (h : ZB w b) : w.cell? ⟨b, 0, none⟩ = some (.int .i64 0) ∧ w.cell? ⟨b, 1, none⟩ = some (.int .u32 0) ∧ w.cell? ⟨b, 2, none⟩ = some (.int .u32 0) ∧ w.cell? ⟨b, 3, none⟩ = some (.int .u32 0) ∧ w.cell? ⟨b, 4, none⟩ = some (.int .u32 0) ∧ w.cell? ⟨b, 5, none⟩ = some (.int .i64 0) ∧ w.cell? ⟨b, 6, none⟩ = some (.int .i64 0) ∧ w.cell? ⟨b, 7, none⟩ = some (.int .i32 0) ∧ w.cell? ⟨b, 8, none⟩ = some (.slice none 0 0) :=
  ⟨cell_of h.blk rfl, cell_of h.blk rfl, cell_of h.blk rfl, cell_of h.blk rfl, cell_of h.blk rfl, cell_of h.blk rfl, cell_of h.blk rfl, cell_of h.blk rfl, cell_of h.blk rfl⟩
theorem ZB.fr {w : World} {b : Nat} (h : ZB w b) : w.frozen? ⟨b, 0, none⟩ = false ∧ w.frozen? ⟨b, 1, none⟩ = false ∧ w.frozen? ⟨b, 2, none⟩ = false ∧ w.frozen? ⟨b, 3, none⟩ = false ∧ w.frozen? ⟨b, 4, none⟩ = false ∧ w.frozen? ⟨b, 5, none⟩ = false ∧ w.frozen? ⟨b, 6, none⟩ = false ∧ w.frozen? ⟨b, 7, none⟩ = false ∧ w.frozen? ⟨b, 8, none⟩ = false :=
  ⟨frozen_of h.blk, frozen_of h.blk, frozen_of h.blk, frozen_of h.blk, frozen_of h.blk, frozen_of h.blk, frozen_of h.blk, frozen_of h.blk, frozen_of h.blk⟩
theorem CB.fr {w : World} {b : Nat} {c : Cm} {dv : Value} (h : CB w b c dv) : w.frozen? ⟨b, 0, none⟩ = false ∧ w.frozen? ⟨b, 1, none⟩ = false ∧ w.frozen? ⟨b, 2, none⟩ = false ∧ w.frozen? ⟨b, 3, none⟩ = false ∧ w.frozen? ⟨b, 4, none⟩ = false ∧ w.frozen? ⟨b, 5, none⟩ = false ∧ w.frozen? ⟨b, 6, none⟩ = false ∧ w.frozen? ⟨b, 7, none⟩ = false ∧ w.frozen? ⟨b, 8, none⟩ = false :=
  ⟨frozen_of h.blk, frozen_of h.blk, frozen_of h.blk, frozen_of h.blk, frozen_of h.blk, frozen_of h.blk, frozen_of h.blk, frozen_of h.blk, frozen_of h.blk⟩

/-- The blocks of a command that is read. -/
structure Dk (w wr : World) (R rb mb pb : Nat) (p : Pt) (l : List UInt8) (c : Cm) (dv : Value) : Prop where
  rd : Rd wr rb l
  r : ZB wr R
  m : CB wr mb c dv
  p : PB wr pb p
  lt : R < rb ∧ rb < mb ∧ mb < pb
  bel : Below w.heap.size w wr
  R0 : w.heap.size = R

theorem Dk.tb {w wr y : World} {R rb mb pb : Nat} {p : Pt} {l l' : List UInt8} {c : Cm} {dv : Value} (h : Dk w wr R rb mb pb p l c dv) (ht : Tb rb wr y) (hr : Rd y rb l') : Dk w y R rb mb pb p l' c dv := by
  have h1 := h.lt
  have h2 := h.R0
  exact ⟨hr, ⟨(ht.block R h.r.lt (by omega)).trans h.r.blk⟩, ⟨(ht.block mb h.m.lt (by omega)).trans h.m.blk⟩, ⟨(ht.block pb h.p.lt (by omega)).trans h.p.blk⟩, h.lt, h.bel.trans (ht.below (fun k hk => by omega) h.bel.size), h.R0⟩

theorem Dk.more {w wr y : World} {R rb mb pb : Nat} {p : Pt} {l : List UInt8} {c : Cm} {dv : Value} (h : Dk w wr R rb mb pb p l c dv) (hb : Below wr.heap.size wr y) : Dk w y R rb mb pb p l c dv :=
  ⟨h.rd.more hb, h.r.more hb, h.m.more hb, h.p.more hb, h.lt, h.bel.trans (hb.mono h.bel.size), h.R0⟩

theorem Dk.set {w wr : World} {R rb mb pb : Nat} {p : Pt} {l : List UInt8} {c : Cm} {dv : Value} (h : Dk w wr R rb mb pb p l c dv) (j : Nat) (u : Value) (c' : Cm) (dv' : Value) (he : (ccs c dv).setIfInBounds j u = ccs c' dv') : Dk w (wr.setCell ⟨mb, j, none⟩ u) R rb mb pb p l c' dv' := by
  have h1 := h.lt
  have h2 := h.R0
  have S := (Turned.refl (fun k => k = mb) wr).setCell (p := ⟨mb, j, none⟩) rfl u
  refine ⟨h.rd.keep S (fun k hk e => by omega), ⟨(S.block R h.r.lt (by omega)).trans h.r.blk⟩, ⟨?_⟩, ⟨(S.block pb h.p.lt (by omega)).trans h.p.blk⟩, h.lt, h.bel.trans (S.below (fun k hk => by omega) h.bel.size), h.R0⟩
  rw [set_block h.m.blk, he]

theorem holds_len {k : Int} {p : Pt} {n : Nat} (hp : pt k = some p) (h : holds p n = true) : szp p ≤ n := by
  unfold holds at h
  by_cases g : p.d = true
  · rw [szp_d hp g]; exact Nat.zero_le _
  · rw [if_neg g] at h
    have : n = szp p := by simpa using h
    omega

/-- Handles read so far. -/
def h0k (p : Pt) (r : List UInt8) (k : Nat) : Hn := if 0 < k then rdh p.s r else hz
def h1k (p : Pt) (r : List UInt8) (k : Nat) : Hn := if 1 < k then rdh p.s (r.drop (eh p.s)) else hz
def ck (K : Nat) (p : Pt) (r : List UInt8) (k : Nat) : Cm := ⟨K, (h0k p r k).a, (h0k p r k).p, (h1k p r k).a, (h1k p r k).p, (h0k p r k).s, (h1k p r k).s, 0, []⟩

theorem num_one (k : UInt8) (r : List UInt8) : num ((k :: r).take 1) = k.toNat := by simp [num]

set_option maxRecDepth 100000 in
set_option maxHeartbeats 1000000 in
theorem decode_nil (ad : Option Addr) (cap : Nat) (w : World) :
    Calls Tryd.prog 16 #[.slice ad 0 cap] w fun e w' => e = .returned (.tuple #[cv cz nilS, .iface 62 (.int .i64 10)]) ∧ Below w.heap.size w w' := by
  go_enter Tryd.func16, Tryd.ntmps16
  go_wp2_with fail
  go_returns
  exact ⟨rfl, below1 _⟩

/-- What all have in common: the first byte is read. -/
theorem bytes_block {w : World} {ad : Option Addr} {cap : Nat} {l : List UInt8} (h : Bytes w ad cap l) : ∀ a, ad = some a → 0 < l.length → a.block < w.heap.size := fun a e h0 => by
  have := h.cell a e 0 (bc l[0]) (by rw [List.getElem?_map, List.getElem?_eq_getElem h0]; rfl)
  have := World.block_lt_of_cell? w _ this
  rwa [add_block] at this

theorem rd_new {w w1 : World} {ad : Option Addr} {n cap : Nat} {l : List UInt8} (h : Bytes w ad cap l) (hn : l.length = n) (hb : Below w.heap.size w w1) (hs : w.heap.size ≤ w1.heap.size) : Rd (w1.alloc (.cells #[.slice ad n cap] 70)) w1.heap.size l := by
  subst hn
  exact ⟨ad, cap, new_of _ _ _, (h.below hb).below (balloc w1 _), fun a e h0 => Nat.lt_of_lt_of_le (bytes_block h a e h0) hs⟩

set_option maxRecDepth 100000 in
set_option maxHeartbeats 4000000 in
theorem decode_none {ad : Option Addr} {n cap : Nat} {k : UInt8} {r : List UInt8} {w : World} (hb : Bytes w ad cap (k :: r)) (hn : (k :: r).length = n) (hp : pt k.toNat = none) :
    Calls Tryd.prog 16 #[.slice ad n cap] w fun e w' => e = .returned (.tuple #[cv cz nilS, .iface 62 (.int .i64 10)]) ∧ Below w.heap.size w w' := by
  have hR := ZB.mk (new_of w (kcs 0) 34)
  have b1 := balloc w (.cells (kcs 0) 34)
  have hlt1 : w.heap.size < (w.alloc (.cells (kcs 0) 34)).heap.size := by simp
  have hn0 : ¬ (n : Int) = 0 := by rw [List.length_cons] at hn; omega
  have hk := hid (parts_none hp)
  have hkt := k.toNat_lt
  obtain ⟨K, hK⟩ : ∃ K, k.toNat = K := ⟨_, rfl⟩
  have hKl : K < 256 := by omega
  have hwK : IntKind.i64.wrap (K : Int) = (K : Int) := by rw [IntKind.wrap_i64]; omega
  replace hb := hid hb
  replace hn := hid hn
  go_enter Tryd.func16, Tryd.ntmps16
  go_upto_region 3 with fail
  obtain ⟨w1, hw1⟩ : ∃ w1, w.alloc (.cells (kcs 0) 34) = w1 := ⟨_, rfl⟩
  rw [hw1] at hR b1 hlt1 ⊢
  clear hw1
  have hrd := rd_new hb.out hn.out b1 b1.size
  have b2 := b1.trans ((balloc w1 (.cells #[.slice ad n cap] 70)).mono b1.size)
  have hR2 := hR.more (balloc w1 (.cells #[.slice ad n cap] 70))
  replace hR := hid hR
  go_upto_region 4 with fail
  obtain ⟨w2, hw2⟩ : ∃ w2, w1.alloc (.cells #[.slice ad n cap] 70) = w2 := ⟨_, rfl⟩
  rw [hw2] at hrd b2 hR2 ⊢
  obtain ⟨rb, hrb⟩ : ∃ rb, w1.heap.size = rb := ⟨_, rfl⟩
  obtain ⟨R, hRR⟩ : ∃ R, w.heap.size = R := ⟨_, rfl⟩
  rw [hrb] at hrd hlt1 ⊢
  rw [hRR] at hR2 hlt1 ⊢
  clear hw2
  have ht := hid (rd_take hrd 1 1 rfl (by omega) (by omega) (by simp))
  rw [num_one, hK] at ht
  rw [hK] at hk
  replace hK := hid hK
  replace b2 := hid b2
  replace hR2 := hid hR2
  go_wp2_with fail
  refine ht.out.mono ?_
  rintro e w3 ⟨rfl, _, t3⟩
  have hR3 : ZB w3 R := ⟨(t3.block R hR2.out.lt (by omega)).trans hR2.out.blk⟩
  have b3 : Below w.heap.size w w3 := b2.out.trans (t3.below (fun k hk => by omega) b2.out.size)
  have hb4 := balloc w3 (.cells (kcs K) 34)
  have b4 := hid (b3.trans (hb4.mono b3.size))
  have hR4 := hid (hR3.more hb4)
  clear ht t3 hR2 b2
  go_wp2_with fail
  refine (hk.out _).mono ?_
  rintro e w5 ⟨rfl, b5⟩
  have hR5 := hR4.out.more b5
  have b6 := hid (b4.out.trans (b5.mono b4.out.size))
  clear hk b5 b4 hR4 hb4 hR3 b3
  have hb7 := balloc w5 (.cells #[.int .i64 0, .int .i64 0, .bool false, .bool false] 54)
  have hR7 := hR5.more hb7
  have b7 := hid (b6.out.trans (hb7.mono b6.out.size))
  go_upto_region 6 with fail
  obtain ⟨w7, hw7⟩ : ∃ w7, w5.alloc (.cells #[.int .i64 0, .int .i64 0, .bool false, .bool false] 54) = w7 := ⟨_, rfl⟩
  rw [hw7] at hR7 b7 ⊢
  clear hw7 hR5 b6 hb7
  obtain ⟨z0, z1, z2, z3, z4, z5, z6, z7, z8⟩ := hR7.cells
  obtain ⟨f0, f1, f2, f3, f4, f5, f6, f7, f8⟩ := hR7.fr
  have hfin := hid (set9_block hR7.blk (.int .i64 0) (.int .u32 0) (.int .u32 0) (.int .u32 0) (.int .u32 0) (.int .i64 0) (.int .i64 0) (.int .i32 0) (.slice none 0 0))
  have hbz := hid (set9_below b7.out (g := R) (by omega) (.int .i64 0) (.int .u32 0) (.int .u32 0) (.int .u32 0) (.int .u32 0) (.int .i64 0) (.int .i64 0) (.int .i32 0) (.slice none 0 0))
  replace hR7 := hid hR7
  go_wp2_with fail
  refine bodyPost_ret (results_cell2 rfl _ _ R 34 _ (0, 0) _ rfl hfin.out Tryd.underlying34 rfl (by kernel_rfl)) rfl ?_
  exact ⟨rfl, hbz.out⟩

set_option maxRecDepth 100000 in
set_option maxHeartbeats 8000000 in
theorem decode_some {ad : Option Addr} {n cap : Nat} {k : UInt8} {r : List UInt8} {p : Pt} {w : World} (hb : Bytes w ad cap (k :: r)) (hn : (k :: r).length = n) (hp : pt k.toNat = some p) (hrl : r.length ≤ 6000) :
    Calls Tryd.prog 16 #[.slice ad n cap] w fun e w' => ∃ ad' cap', e = .returned (.tuple #[cv (dC (k :: r)) (.slice ad' (dC (k :: r)).d.length cap'), erv (dE (k :: r))]) ∧ Bytes w' ad' cap' (dC (k :: r)).d ∧ Below w.heap.size w w' := by
  have hR := ZB.mk (new_of w (kcs 0) 34)
  have b1 := balloc w (.cells (kcs 0) 34)
  have hlt1 : w.heap.size < (w.alloc (.cells (kcs 0) 34)).heap.size := by simp
  have hn0 : ¬ (n : Int) = 0 := by rw [List.length_cons] at hn; omega
  have hk := hid (parts_some hp)
  have hkt := k.toNat_lt
  obtain ⟨K, hK⟩ : ∃ K, k.toNat = K := ⟨_, rfl⟩
  have hKl : K < 256 := by omega
  have hwK : IntKind.i64.wrap (K : Int) = (K : Int) := by rw [IntKind.wrap_i64]; omega
  replace hb := hid hb
  replace hn := hid hn
  go_enter Tryd.func16, Tryd.ntmps16
  go_upto_region 3 with fail
  obtain ⟨w1, hw1⟩ : ∃ w1, w.alloc (.cells (kcs 0) 34) = w1 := ⟨_, rfl⟩
  rw [hw1] at hR b1 hlt1 ⊢
  clear hw1
  have hrd := rd_new hb.out hn.out b1 b1.size
  have b2 := b1.trans ((balloc w1 (.cells #[.slice ad n cap] 70)).mono b1.size)
  have hR2 := hR.more (balloc w1 (.cells #[.slice ad n cap] 70))
  replace hR := hid hR
  go_upto_region 4 with fail
  obtain ⟨w2, hw2⟩ : ∃ w2, w1.alloc (.cells #[.slice ad n cap] 70) = w2 := ⟨_, rfl⟩
  rw [hw2] at hrd b2 hR2 ⊢
  obtain ⟨rb, hrb⟩ : ∃ rb, w1.heap.size = rb := ⟨_, rfl⟩
  obtain ⟨R, hRR⟩ : ∃ R, w.heap.size = R := ⟨_, rfl⟩
  rw [hrb] at hrd hlt1 ⊢
  rw [hRR] at hR2 hlt1 ⊢
  clear hw2
  have ht := hid (rd_take hrd 1 1 rfl (by omega) (by omega) (by simp))
  rw [num_one, hK] at ht
  rw [hK] at hk
  have hKh := hid hK
  clear hK
  replace b2 := hid b2
  replace hR2 := hid hR2
  go_wp2_with fail
  refine ht.out.mono ?_
  rintro e w3 ⟨rfl, hr3, t3⟩
  have hR3 : ZB w3 R := ⟨(t3.block R hR2.out.lt (by omega)).trans hR2.out.blk⟩
  have b3 : Below w.heap.size w w3 := b2.out.trans (t3.below (fun k hk => by omega) b2.out.size)
  have hb4 := balloc w3 (.cells (kcs K) 34)
  have b4 := hid (b3.trans (hb4.mono b3.size))
  have hR4 := hid (hR3.more hb4)
  clear ht t3 hR2 b2
  go_wp2_with fail
  refine (hk.out _).mono ?_
  rintro e w5 ⟨rfl, b5⟩
  have hr5 := (hr3.more hb4).more b5
  have hm4 := CB.mk (c := ⟨K, 0, 0, 0, 0, 0, 0, 0, []⟩) (dv := nilS) (new_of w3 (kcs K) 34)
  have hm5 := hm4.more b5
  have hR5 := hR4.out.more b5
  have b6 := b4.out.trans (b5.mono b4.out.size)
  have hb7 := balloc w5 (.cells p.cs 54)
  have hlt3 : rb < w3.heap.size := by obtain ⟨_, _, q, _⟩ := hr3; exact (Array.getElem?_eq_some_iff.1 q).1
  have hlt5 : w3.heap.size < w5.heap.size := hm5.lt
  have hdk : Dk w (w5.alloc (.cells p.cs 54)) R rb w3.heap.size w5.heap.size p r ⟨K, 0, 0, 0, 0, 0, 0, 0, []⟩ nilS := by
    refine ⟨?_, hR5.more hb7, hm5.more hb7, ⟨new_of _ _ _⟩, ⟨hlt1, hlt3, hlt5⟩, b6.trans (hb7.mono b6.size), hRR⟩
    exact hr5.more hb7
  clear hk b5 b4 hR4 hb4 hR3 b3 hb7 hR5 b6 hr5 hm4 hm5 hr3
  go_upto_region 6 with fail
  obtain ⟨w7, hw7⟩ : ∃ w7, w5.alloc (.cells p.cs 54) = w7 := ⟨_, rfl⟩
  obtain ⟨mb, hmb⟩ : ∃ mb, w3.heap.size = mb := ⟨_, rfl⟩
  obtain ⟨pb, hpb⟩ : ∃ pb, w5.heap.size = pb := ⟨_, rfl⟩
  rw [hw7, hmb, hpb] at hdk
  rw [hw7]
  rw [hmb, hpb]
  clear hw7 hmb hpb hlt3 hlt5 hlt1 hrd hR b1
  obtain ⟨p0, p1, p2, p3⟩ := hdk.p.cells
  have hrd2 := hdk.rd
  obtain ⟨ad1, cap1, hblk1, _, _⟩ := hrd2
  obtain ⟨m, hm⟩ : ∃ m, r.length = m := ⟨_, rfl⟩
  rw [hm] at hblk1
  have l0 : w7.cell? ⟨rb, 0, none⟩ = some (.slice ad1 m cap1) := cell_of hblk1 rfl
  have hho := hid (holds_ok p m (pt_is hp).1)
  replace hdk := hid hdk
  clear hblk1
  go_wp2_with fail
  refine (hho.out _).mono ?_
  rintro e w8 ⟨rfl, b8⟩
  have hd8 := hid (hdk.out.more b8)
  clear hho b8 hdk l0 p0 p1 p2 p3
  cases hh : holds p m
  · have hdE : Hid (dE (k :: r) = 11) := by
      show _ = _
      rw [dE_some hp, hm, hh, if_neg (by decide)]
    have hdC : Hid (dC (k :: r) = cz) := by
      show _ = _
      rw [dC_some hp, hm, hh, if_neg (by decide)]
    clear hh
    obtain ⟨z0, z1, z2, z3, z4, z5, z6, z7, z8⟩ := hd8.out.r.cells
    obtain ⟨f0, f1, f2, f3, f4, f5, f6, f7, f8⟩ := hd8.out.r.fr
    have hfin := hid (set9_block hd8.out.r.blk (.int .i64 0) (.int .u32 0) (.int .u32 0) (.int .u32 0) (.int .u32 0) (.int .i64 0) (.int .i64 0) (.int .i32 0) (.slice none 0 0))
    have hbz := hid (set9_below hd8.out.bel (g := R) (by have := hd8.out.R0; omega) (.int .i64 0) (.int .u32 0) (.int .u32 0) (.int .u32 0) (.int .u32 0) (.int .i64 0) (.int .i64 0) (.int .i32 0) (.slice none 0 0))
    go_wp2_with fail
    refine bodyPost_ret (results_cell2 rfl _ _ R 34 _ (0, 0) _ rfl hfin.out Tryd.underlying34 rfl (by kernel_rfl)) rfl ?_
    rw [hdC.out, hdE.out]
    exact ⟨none, 0, rfl, Bytes.none _, hbz.out⟩
  · have hszl := hid (holds_len hp hh)
    have hse := hid (szp_eq p)
    have hhh := hid hh
    have hp2 := (pt_is hp).1
    have hpi := hid (pt_is hp)
    replace hp := hid hp
    replace hrl := hid hrl
    replace hm := hid hm
    obtain ⟨p0, p1, p2, p3⟩ := hd8.out.p.cells
    clear hh
    go_wp2_with fail
    go_loopw [39] (fun s39 wr => ∃ i : Nat, i ≤ p.h ∧ s39 = .int .i64 (i : Int) ∧ Hid (Dk w wr R rb mb pb p (r.drop (i * eh p.s)) (ck K p r i) nilS)) (fun s39 _ => p.h - (intOf s39).toNat)
    case atStart => exact ⟨0, by omega, by go_num, by rw [Nat.zero_mul]; exact hd8⟩
    case round =>
      obtain ⟨i, hi, rfl, hst⟩ := hrel
      clear hd8 p0 p1 p2 p3
      rcases Nat.lt_or_ge i p.h with hip | hip
      · have j2 : (i : Int) < (p.h : Int) := by omega
        rcases (by omega : i = 0 ∨ i = 1) with rfl | rfl
        · obtain ⟨q, hq⟩ : ∃ q, r.drop (0 * eh p.s) = q := ⟨_, rfl⟩
          rw [hq] at hst
          have hql : Hid (eh p.s ≤ q.length) := by
            show _ ≤ _
            rw [← hq, List.length_drop, hm.out]
            have := hszl.out
            rw [hse.out] at this
            have h2 : 0 + 1 ≤ p.h := by omega
            have h3 : (0 + 1) * eh p.s ≤ p.h * eh p.s := Nat.mul_le_mul_right _ h2
            rw [Nat.add_mul, Nat.one_mul] at h3
            omega
          obtain ⟨cc, hcc⟩ : ∃ cc, ck K p r 0 = cc := ⟨_, rfl⟩
          rw [hcc] at hst
          have hqd : Hid (q.drop (eh p.s) = r.drop ((0 + 1) * eh p.s)) := by
            show _ = _
            rw [← hq, List.drop_drop]
            congr 1
            rw [Nat.add_mul, Nat.one_mul]
          by_cases hs : 0 < p.s
          · have hs' : (0 : Int) < (p.s : Int) := by omega
            have e9 : Hid (eh p.s = 9) := hid (if_pos hs)
            have hl9 : 9 ≤ q.length := by have := hql.out; have := e9.out; omega
            have ht := hid (rd_take hst.out.rd 1 1 rfl (by omega) (by omega) (by omega))
            have hxl : num (q.take 1) < 256 := num_take_lt q 1
            obtain ⟨X, hX⟩ : ∃ X, num (q.take 1) = X := ⟨_, rfl⟩
            rw [hX] at ht hxl
            have hwX : IntKind.i64.wrap (X : Int) = (X : Int) := by rw [IntKind.wrap_i64]; omega
            have hrdh : Hid (rdh p.s q = ⟨X, num ((q.drop 1).take 4), num ((q.drop 5).take 4)⟩) := by
              show _ = _
              unfold rdh
              rw [if_pos hs, hX]
            replace hq := hid hq
            replace hX := hid hX
            replace hcc := hid hcc
            replace hs := hid hs
            obtain ⟨p0, p1, p2, p3⟩ := hst.out.p.cells
            go_wp2_with fail
            refine ht.out.mono ?_
            rintro e1 y1 ⟨rfl, hr1, t1⟩
            have D1 := hst.out.tb t1 hr1
            obtain ⟨c0, c1, c2, c3, c4, c5, c6, c7, c8⟩ := D1.m.cells
            obtain ⟨g0, g1, g2, g3, g4, g5, g6, g7, g8⟩ := D1.m.fr
            have D2 := hid (D1.set 5 (.int .i64 (X : Int)) {cc with s0 := X} nilS rfl)
            replace D1 := hid D1
            clear ht p0 p1 p2 p3 t1 hr1
            go_upto_region 15 with fail
            obtain ⟨y2, hy2⟩ : ∃ y2, y1.setCell ⟨mb, 5, none⟩ (.int .i64 (X : Int)) = y2 := ⟨_, rfl⟩
            rw [hy2] at D2 ⊢
            clear c0 c1 c2 c3 c4 c5 c6 c7 c8 g0 g1 g2 g3 g4 g5 g6 g7 g8
            clear hy2 D1
            have hth := rd_handle D2.out.rd (by rw [List.length_drop]; omega)
            rw [List.drop_drop, List.drop_drop] at hth
            obtain ⟨A, hA⟩ : ∃ A, num ((q.drop 1).take 4) = A := ⟨_, rfl⟩
            obtain ⟨P, hP⟩ : ∃ P, num ((q.drop 5).take 4) = P := ⟨_, rfl⟩
            rw [hA, show 1 + 4 = 5 from rfl, hP] at hth
            rw [hA, hP] at hrdh
            replace hth := hid hth
            go_wp2_with fail
            refine hth.out.mono ?_
            rintro e2 y3 ⟨rfl, hr3, t3⟩
            have D3 := D2.out.tb t3 hr3
            obtain ⟨c0, c1, c2, c3, c4, c5, c6, c7, c8⟩ := D3.m.cells
            obtain ⟨g0, g1, g2, g3, g4, g5, g6, g7, g8⟩ := D3.m.fr
            have D4 := hid ((D3.set 1 (.int .u32 (A : Int)) {cc with s0 := X, a0 := A} nilS rfl).set 2 (.int .u32 (P : Int)) {cc with s0 := X, a0 := A, p0 := P} nilS rfl)
            replace D3 := hid D3
            have hck : Hid ({cc with s0 := X, a0 := A, p0 := P} = ck K p r (0 + 1)) := by
              have hr9 := hrdh.out
              rw [← hq.out] at hr9
              show _ = _
              rw [← hcc.out]
              unfold ck h0k h1k
              simp only [Nat.zero_mul, List.drop_zero] at hr9
              simp [hr9, hz]
            have hdr : Hid (q.drop (1 + 8) = r.drop ((0 + 1) * eh p.s)) := by
              show _ = _
              rw [← hqd.out, e9.out]
            rw [hck.out, hdr.out] at D4
            clear hth D2 t3 hr3
            go_wp2_with fail
            go_roundw
            case rel => exact ⟨_, by omega, by go_num, D4⟩
            case measure => simp [intOf]; omega
          · have hs' : ¬ (0 : Int) < (p.s : Int) := by omega
            have e8 : Hid (eh p.s = 8) := hid (if_neg hs)
            have hl8 : 8 ≤ q.length := by have := hql.out; have := e8.out; omega
            have hrdh : Hid (rdh p.s q = ⟨0, num (q.take 4), num ((q.drop 4).take 4)⟩) := by
              show _ = _
              unfold rdh
              rw [if_neg hs]
            have hth := rd_handle hst.out.rd hl8
            obtain ⟨A, hA⟩ : ∃ A, num (q.take 4) = A := ⟨_, rfl⟩
            obtain ⟨P, hP⟩ : ∃ P, num ((q.drop 4).take 4) = P := ⟨_, rfl⟩
            rw [hA, hP] at hth
            rw [hA, hP] at hrdh
            replace hth := hid hth
            replace hq := hid hq
            replace hcc := hid hcc
            replace hs := hid hs
            obtain ⟨p0, p1, p2, p3⟩ := hst.out.p.cells
            go_wp2_with fail
            refine hth.out.mono ?_
            rintro e2 y3 ⟨rfl, hr3, t3⟩
            have D3 := hst.out.tb t3 hr3
            obtain ⟨c0, c1, c2, c3, c4, c5, c6, c7, c8⟩ := D3.m.cells
            obtain ⟨g0, g1, g2, g3, g4, g5, g6, g7, g8⟩ := D3.m.fr
            have D4 := hid ((D3.set 1 (.int .u32 (A : Int)) {cc with a0 := A} nilS rfl).set 2 (.int .u32 (P : Int)) {cc with a0 := A, p0 := P} nilS rfl)
            replace D3 := hid D3
            have hck : Hid ({cc with a0 := A, p0 := P} = ck K p r (0 + 1)) := by
              have hr9 := hrdh.out
              rw [← hq.out] at hr9
              show _ = _
              rw [← hcc.out]
              unfold ck h0k h1k
              simp only [Nat.zero_mul, List.drop_zero] at hr9
              simp [hr9, hz]
            have hdr : Hid (q.drop 8 = r.drop ((0 + 1) * eh p.s)) := by
              show _ = _
              rw [← hqd.out, e8.out]
            rw [hck.out, hdr.out] at D4
            clear hth t3 hr3 p0 p1 p2 p3
            go_wp2_with fail
            go_roundw
            case rel => exact ⟨_, by omega, by go_num, D4⟩
            case measure => simp [intOf]; omega
        · obtain ⟨q, hq⟩ : ∃ q, r.drop (1 * eh p.s) = q := ⟨_, rfl⟩
          rw [hq] at hst
          have hql : Hid (eh p.s ≤ q.length) := by
            show _ ≤ _
            rw [← hq, List.length_drop, hm.out]
            have := hszl.out
            rw [hse.out] at this
            have h2 : 1 + 1 ≤ p.h := by omega
            have h3 : (1 + 1) * eh p.s ≤ p.h * eh p.s := Nat.mul_le_mul_right _ h2
            rw [Nat.add_mul, Nat.one_mul] at h3
            omega
          obtain ⟨cc, hcc⟩ : ∃ cc, ck K p r 1 = cc := ⟨_, rfl⟩
          rw [hcc] at hst
          have hqd : Hid (q.drop (eh p.s) = r.drop ((1 + 1) * eh p.s)) := by
            show _ = _
            rw [← hq, List.drop_drop]
            congr 1
            rw [Nat.add_mul, Nat.one_mul]
          by_cases hs : 0 < p.s
          · have hs' : (0 : Int) < (p.s : Int) := by omega
            have e9 : Hid (eh p.s = 9) := hid (if_pos hs)
            have hl9 : 9 ≤ q.length := by have := hql.out; have := e9.out; omega
            have ht := hid (rd_take hst.out.rd 1 1 rfl (by omega) (by omega) (by omega))
            have hxl : num (q.take 1) < 256 := num_take_lt q 1
            obtain ⟨X, hX⟩ : ∃ X, num (q.take 1) = X := ⟨_, rfl⟩
            rw [hX] at ht hxl
            have hwX : IntKind.i64.wrap (X : Int) = (X : Int) := by rw [IntKind.wrap_i64]; omega
            have hrdh : Hid (rdh p.s q = ⟨X, num ((q.drop 1).take 4), num ((q.drop 5).take 4)⟩) := by
              show _ = _
              unfold rdh
              rw [if_pos hs, hX]
            replace hq := hid hq
            replace hX := hid hX
            replace hcc := hid hcc
            replace hs := hid hs
            obtain ⟨p0, p1, p2, p3⟩ := hst.out.p.cells
            go_wp2_with fail
            refine ht.out.mono ?_
            rintro e1 y1 ⟨rfl, hr1, t1⟩
            have D1 := hst.out.tb t1 hr1
            obtain ⟨c0, c1, c2, c3, c4, c5, c6, c7, c8⟩ := D1.m.cells
            obtain ⟨g0, g1, g2, g3, g4, g5, g6, g7, g8⟩ := D1.m.fr
            have D2 := hid (D1.set 6 (.int .i64 (X : Int)) {cc with s1 := X} nilS rfl)
            replace D1 := hid D1
            clear ht p0 p1 p2 p3 t1 hr1
            go_upto_region 15 with fail
            obtain ⟨y2, hy2⟩ : ∃ y2, y1.setCell ⟨mb, 6, none⟩ (.int .i64 (X : Int)) = y2 := ⟨_, rfl⟩
            rw [hy2] at D2 ⊢
            clear c0 c1 c2 c3 c4 c5 c6 c7 c8 g0 g1 g2 g3 g4 g5 g6 g7 g8
            clear hy2 D1
            have hth := rd_handle D2.out.rd (by rw [List.length_drop]; omega)
            rw [List.drop_drop, List.drop_drop] at hth
            obtain ⟨A, hA⟩ : ∃ A, num ((q.drop 1).take 4) = A := ⟨_, rfl⟩
            obtain ⟨P, hP⟩ : ∃ P, num ((q.drop 5).take 4) = P := ⟨_, rfl⟩
            rw [hA, show 1 + 4 = 5 from rfl, hP] at hth
            rw [hA, hP] at hrdh
            replace hth := hid hth
            go_wp2_with fail
            refine hth.out.mono ?_
            rintro e2 y3 ⟨rfl, hr3, t3⟩
            have D3 := D2.out.tb t3 hr3
            obtain ⟨c0, c1, c2, c3, c4, c5, c6, c7, c8⟩ := D3.m.cells
            obtain ⟨g0, g1, g2, g3, g4, g5, g6, g7, g8⟩ := D3.m.fr
            have D4 := hid ((D3.set 3 (.int .u32 (A : Int)) {cc with s1 := X, a1 := A} nilS rfl).set 4 (.int .u32 (P : Int)) {cc with s1 := X, a1 := A, p1 := P} nilS rfl)
            replace D3 := hid D3
            have hck : Hid ({cc with s1 := X, a1 := A, p1 := P} = ck K p r (1 + 1)) := by
              have hr9 := hrdh.out
              rw [← hq.out] at hr9
              show _ = _
              rw [← hcc.out]
              unfold ck h0k h1k
              simp only [Nat.one_mul] at hr9
              simp [hr9]
            have hdr : Hid (q.drop (1 + 8) = r.drop ((1 + 1) * eh p.s)) := by
              show _ = _
              rw [← hqd.out, e9.out]
            rw [hck.out, hdr.out] at D4
            clear hth D2 t3 hr3
            go_wp2_with fail
            go_roundw
            case rel => exact ⟨_, by omega, by go_num, D4⟩
            case measure => simp [intOf]; omega
          · have hs' : ¬ (0 : Int) < (p.s : Int) := by omega
            have e8 : Hid (eh p.s = 8) := hid (if_neg hs)
            have hl8 : 8 ≤ q.length := by have := hql.out; have := e8.out; omega
            have hrdh : Hid (rdh p.s q = ⟨0, num (q.take 4), num ((q.drop 4).take 4)⟩) := by
              show _ = _
              unfold rdh
              rw [if_neg hs]
            have hth := rd_handle hst.out.rd hl8
            obtain ⟨A, hA⟩ : ∃ A, num (q.take 4) = A := ⟨_, rfl⟩
            obtain ⟨P, hP⟩ : ∃ P, num ((q.drop 4).take 4) = P := ⟨_, rfl⟩
            rw [hA, hP] at hth
            rw [hA, hP] at hrdh
            replace hth := hid hth
            replace hq := hid hq
            replace hcc := hid hcc
            replace hs := hid hs
            obtain ⟨p0, p1, p2, p3⟩ := hst.out.p.cells
            go_wp2_with fail
            refine hth.out.mono ?_
            rintro e2 y3 ⟨rfl, hr3, t3⟩
            have D3 := hst.out.tb t3 hr3
            obtain ⟨c0, c1, c2, c3, c4, c5, c6, c7, c8⟩ := D3.m.cells
            obtain ⟨g0, g1, g2, g3, g4, g5, g6, g7, g8⟩ := D3.m.fr
            have D4 := hid ((D3.set 3 (.int .u32 (A : Int)) {cc with a1 := A} nilS rfl).set 4 (.int .u32 (P : Int)) {cc with a1 := A, p1 := P} nilS rfl)
            replace D3 := hid D3
            have hck : Hid ({cc with a1 := A, p1 := P} = ck K p r (1 + 1)) := by
              have hr9 := hrdh.out
              rw [← hq.out] at hr9
              show _ = _
              rw [← hcc.out]
              unfold ck h0k h1k
              simp only [Nat.one_mul] at hr9
              simp [hr9, hz]
            have hdr : Hid (q.drop 8 = r.drop ((1 + 1) * eh p.s)) := by
              show _ = _
              rw [← hqd.out, e8.out]
            rw [hck.out, hdr.out] at D4
            clear hth t3 hr3 p0 p1 p2 p3
            go_wp2_with fail
            go_roundw
            case rel => exact ⟨_, by omega, by go_num, D4⟩
            case measure => simp [intOf]; omega
      · have hip2 : i = p.h := by omega
        have j3 : ¬ (i : Int) < (p.h : Int) := by omega
        rw [hip2] at hst
        obtain ⟨q, hq⟩ : ∃ q, r.drop (p.h * eh p.s) = q := ⟨_, rfl⟩
        obtain ⟨cc, hcc⟩ : ∃ cc, ck K p r p.h = cc := ⟨_, rfl⟩
        rw [hq, hcc] at hst
        cases hpw : p.w
        · have hsq : Hid (q = r.drop (szp p)) := by
            show _ = _
            rw [← hq, hse.out, hpw, if_neg (by decide), Nat.add_zero]
          obtain ⟨E, hE⟩ : ∃ E, ({dcm K p r with d := []} : Cm) = E := ⟨_, rfl⟩
          have hcE : Hid (cc = E) := by
            show _ = _
            rw [← hcc, ← hE]
            unfold ck dcm rdw
            rw [hpw, if_neg (by decide)]
            rfl
          rw [hsq.out, hcE.out] at hst
          replace hE := hid hE
          obtain ⟨p0, p1, p2, p3⟩ := hst.out.p.cells
          rw [hpw] at p2
          clear hpw hcc hq
          go_upto_region 19 with fail
          clear p0 p1 p2 p3
          have hdl : Hid ((r.drop (szp p)).length ≤ 1000000) := by
            have := hrl.out
            show _ ≤ _
            rw [List.length_drop]
            omega
          obtain ⟨dd, hdd⟩ : ∃ dd, r.drop (szp p) = dd := ⟨_, rfl⟩
          rw [hdd] at hst hdl
          obtain ⟨N, hN⟩ : ∃ N, dd.length = N := ⟨_, rfl⟩
          have hrest := rd_rest hst.out.rd hdl.out
          rw [hN] at hrest
          replace hN := hid hN
          replace hdd := hid hdd
          replace hrest := hid hrest
          go_wp2_with fail
          refine hrest.out.mono ?_
          rintro e y ⟨ad', cap', rfl, hby, hbl, hof⟩
          have hbs := hst.out.m.lt
          have hrs := hst.out.r.lt
          have hofm : Hid ((∀ a, ad' = some a → ¬ a.block = mb) ∧ (∀ a, ad' = some a → ¬ a.block = R)) := ⟨fun a e q => by have := hof a e; omega, fun a e q => by have := hof a e; omega⟩
          have D5 := hst.out.more hbl
          clear hrest hof hbs hrs hbl
          obtain ⟨c0, c1, c2, c3, c4, c5, c6, c7, c8⟩ := D5.m.cells
          obtain ⟨g0, g1, g2, g3, g4, g5, g6, g7, g8⟩ := D5.m.fr
          have D6 := hid (D5.set 8 (.slice ad' N cap') E (.slice ad' N cap') rfl)
          have hby6 := hid (bytes_keep hby ((Turned.refl (fun k => k = mb) y).setCell (p := ⟨mb, 8, none⟩) rfl (.slice ad' N cap')) hofm.out.1)
          replace D5 := hid D5
          clear hby
          go_upto_region 20 with fail
          obtain ⟨y6, hy6⟩ : ∃ y6, y.setCell ⟨mb, 8, none⟩ (.slice ad' N cap') = y6 := ⟨_, rfl⟩
          rw [hy6] at D6 hby6 ⊢
          clear c0 c1 c2 c3 c4 c5 c6 c7 c8 g0 g1 g2 g3 g4 g5 g6 g7 g8 hy6 D5
          have hff := hid (fit_ok p E.s0 E.s1 hp2 hpi.out.2.2.1)
          obtain ⟨c0, c1, c2, c3, c4, c5, c6, c7, c8⟩ := D6.out.m.cells
          obtain ⟨p0, p1, p2, p3⟩ := D6.out.p.cells
          go_wp2_with fail
          refine (hff.out _).mono ?_
          rintro e y7 ⟨rfl, b7⟩
          have D7 := hid (D6.out.more b7)
          have hby7 := hid (hby6.out.below b7)
          clear c0 c1 c2 c3 c4 c5 c6 c7 c8 p0 p1 p2 p3 b7 D6 hby6 hff
          have hfs : Hid (fit p E.s0 E.s1 = fit p (rd0 p r).s (rd1 p r).s) := by rw [← hE.out]; exact hid rfl
          cases hfv : fit p E.s0 E.s1
          · have hdE : Hid (dE (k :: r) = 3) := by
              show _ = _
              rw [dE_some hp.out, hm.out, hhh.out, if_pos rfl, ← hfs.out, hfv, if_neg (by decide)]
            have hdC : Hid (dC (k :: r) = cz) := by
              show _ = _
              rw [dC_some hp.out, hm.out, hhh.out, if_pos rfl, ← hfs.out, hfv, if_neg (by decide)]
            clear hfv
            obtain ⟨z0, z1, z2, z3, z4, z5, z6, z7, z8⟩ := D7.out.r.cells
            obtain ⟨f0, f1, f2, f3, f4, f5, f6, f7, f8⟩ := D7.out.r.fr
            have hfin := hid (set9_block D7.out.r.blk (.int .i64 0) (.int .u32 0) (.int .u32 0) (.int .u32 0) (.int .u32 0) (.int .i64 0) (.int .i64 0) (.int .i32 0) (.slice none 0 0))
            have hbz := hid (set9_below D7.out.bel (g := R) (by have := D7.out.R0; omega) (.int .i64 0) (.int .u32 0) (.int .u32 0) (.int .u32 0) (.int .u32 0) (.int .i64 0) (.int .i64 0) (.int .i32 0) (.slice none 0 0))
            go_wp2_with fail
            refine bodyPost_ret (results_cell2 rfl _ _ R 34 _ (0, 0) _ rfl hfin.out Tryd.underlying34 rfl (by kernel_rfl)) rfl ?_
            rw [hdC.out, hdE.out]
            exact ⟨none, 0, rfl, Bytes.none _, hbz.out⟩
          · have hdE : Hid (dE (k :: r) = 0) := by
              show _ = _
              rw [dE_some hp.out, hm.out, hhh.out, if_pos rfl, ← hfs.out, hfv, if_pos rfl]
            have hdC : Hid (dC (k :: r) = dcm K p r) := by
              show _ = _
              rw [dC_some hp.out, hm.out, hhh.out, if_pos rfl, ← hfs.out, hfv, if_pos rfl, hKh.out]
            clear hfv
            obtain ⟨c0, c1, c2, c3, c4, c5, c6, c7, c8⟩ := D7.out.m.cells
            obtain ⟨z0, z1, z2, z3, z4, z5, z6, z7, z8⟩ := D7.out.r.cells
            obtain ⟨f0, f1, f2, f3, f4, f5, f6, f7, f8⟩ := D7.out.r.fr
            have hfin := hid (set9_block D7.out.r.blk (.int .i64 E.code) (.int .u32 (E.a0 : Int)) (.int .u32 (E.p0 : Int)) (.int .u32 (E.a1 : Int)) (.int .u32 (E.p1 : Int)) (.int .i64 E.s0) (.int .i64 E.s1) (.int .i32 E.w) (.slice ad' N cap'))
            have hbz := hid (set9_below D7.out.bel (g := R) (by have := D7.out.R0; omega) (.int .i64 E.code) (.int .u32 (E.a0 : Int)) (.int .u32 (E.p0 : Int)) (.int .u32 (E.a1 : Int)) (.int .u32 (E.p1 : Int)) (.int .i64 E.s0) (.int .i64 E.s1) (.int .i32 E.w) (.slice ad' N cap'))
            have hbyf := hid (bytes_keep hby7.out (set9_turned y7 R (.int .i64 E.code) (.int .u32 (E.a0 : Int)) (.int .u32 (E.p0 : Int)) (.int .u32 (E.a1 : Int)) (.int .u32 (E.p1 : Int)) (.int .i64 E.s0) (.int .i64 E.s1) (.int .i32 E.w) (.slice ad' N cap')) hofm.out.2)
            go_wp2_with fail
            refine bodyPost_ret (results_cell2 rfl _ _ R 34 _ (0, 0) _ rfl hfin.out Tryd.underlying34 rfl (by kernel_rfl)) rfl ?_
            rw [hdC.out, hdE.out]
            refine ⟨ad', cap', ?_, ?_, hbz.out⟩
            · show Ending.returned (.tuple #[cv E (.slice ad' N cap'), .nilIface]) = .returned (.tuple #[cv (dcm K p r) (.slice ad' (r.drop (szp p)).length cap'), erv 0])
              rw [hdd.out, hN.out, ← hE.out]
              rfl
            · show Bytes _ ad' cap' (r.drop (szp p))
              rw [hdd.out]
              exact hbyf.out
        · have hs4 : Hid (szp p = p.h * eh p.s + 4) := by
            show _ = _
            rw [hse.out, hpw, if_pos rfl]
          have hql : Hid (4 ≤ q.length) := by
            have := hszl.out
            rw [hs4.out] at this
            show _ ≤ _
            rw [← hq, List.length_drop, hm.out]
            omega
          obtain ⟨X, hX⟩ : ∃ X, s32 (num (q.take 4)) = X := ⟨_, rfl⟩
          obtain ⟨E, hE⟩ : ∃ E, ({dcm K p r with d := []} : Cm) = E := ⟨_, rfl⟩
          have hcE : Hid ({cc with w := X} = E) := by
            show _ = _
            rw [← hcc, ← hE, ← hX, ← hq]
            unfold ck dcm rdw
            rw [hpw, if_pos rfl]
            rfl
          have hsq : Hid (q.drop 4 = r.drop (szp p)) := by
            show _ = _
            rw [← hq, hs4.out, List.drop_drop]
          have hsg := rd_signed hst.out.rd hql.out
          rw [hX] at hsg
          replace hsg := hid hsg
          replace hE := hid hE
          obtain ⟨p0, p1, p2, p3⟩ := hst.out.p.cells
          rw [hpw] at p2
          clear hpw hcc hq hX
          go_wp2_with fail
          refine hsg.out.mono ?_
          rintro e1 y1 ⟨rfl, hr1, t1⟩
          have D1 := hst.out.tb t1 hr1
          obtain ⟨c0, c1, c2, c3, c4, c5, c6, c7, c8⟩ := D1.m.cells
          obtain ⟨g0, g1, g2, g3, g4, g5, g6, g7, g8⟩ := D1.m.fr
          have D2 := hid (D1.set 7 (.int .i32 X) {cc with w := X} nilS rfl)
          rw [hcE.out, hsq.out] at D2
          replace D1 := hid D1
          clear hsg p0 p1 p2 p3 t1 hr1
          go_upto_region 19 with fail
          obtain ⟨y2, hy2⟩ : ∃ y2, y1.setCell ⟨mb, 7, none⟩ (.int .i32 X) = y2 := ⟨_, rfl⟩
          rw [hy2] at D2 ⊢
          clear c0 c1 c2 c3 c4 c5 c6 c7 c8 g0 g1 g2 g3 g4 g5 g6 g7 g8 hy2 D1
          have hdl : Hid ((r.drop (szp p)).length ≤ 1000000) := by
            have := hrl.out
            show _ ≤ _
            rw [List.length_drop]
            omega
          obtain ⟨dd, hdd⟩ : ∃ dd, r.drop (szp p) = dd := ⟨_, rfl⟩
          rw [hdd] at D2 hdl
          obtain ⟨N, hN⟩ : ∃ N, dd.length = N := ⟨_, rfl⟩
          have hrest := rd_rest D2.out.rd hdl.out
          rw [hN] at hrest
          replace hN := hid hN
          replace hdd := hid hdd
          replace hrest := hid hrest
          go_wp2_with fail
          refine hrest.out.mono ?_
          rintro e y ⟨ad', cap', rfl, hby, hbl, hof⟩
          have hbs := D2.out.m.lt
          have hrs := D2.out.r.lt
          have hofm : Hid ((∀ a, ad' = some a → ¬ a.block = mb) ∧ (∀ a, ad' = some a → ¬ a.block = R)) := ⟨fun a e q => by have := hof a e; omega, fun a e q => by have := hof a e; omega⟩
          have D5 := D2.out.more hbl
          clear hrest hof hbs hrs hbl
          obtain ⟨c0, c1, c2, c3, c4, c5, c6, c7, c8⟩ := D5.m.cells
          obtain ⟨g0, g1, g2, g3, g4, g5, g6, g7, g8⟩ := D5.m.fr
          have D6 := hid (D5.set 8 (.slice ad' N cap') E (.slice ad' N cap') rfl)
          have hby6 := hid (bytes_keep hby ((Turned.refl (fun k => k = mb) y).setCell (p := ⟨mb, 8, none⟩) rfl (.slice ad' N cap')) hofm.out.1)
          replace D5 := hid D5
          clear hby
          go_upto_region 20 with fail
          obtain ⟨y6, hy6⟩ : ∃ y6, y.setCell ⟨mb, 8, none⟩ (.slice ad' N cap') = y6 := ⟨_, rfl⟩
          rw [hy6] at D6 hby6 ⊢
          clear c0 c1 c2 c3 c4 c5 c6 c7 c8 g0 g1 g2 g3 g4 g5 g6 g7 g8 hy6 D5
          have hff := hid (fit_ok p E.s0 E.s1 hp2 hpi.out.2.2.1)
          obtain ⟨c0, c1, c2, c3, c4, c5, c6, c7, c8⟩ := D6.out.m.cells
          obtain ⟨p0, p1, p2, p3⟩ := D6.out.p.cells
          go_wp2_with fail
          refine (hff.out _).mono ?_
          rintro e y7 ⟨rfl, b7⟩
          have D7 := hid (D6.out.more b7)
          have hby7 := hid (hby6.out.below b7)
          clear c0 c1 c2 c3 c4 c5 c6 c7 c8 p0 p1 p2 p3 b7 D6 hby6 hff
          have hfs : Hid (fit p E.s0 E.s1 = fit p (rd0 p r).s (rd1 p r).s) := by rw [← hE.out]; exact hid rfl
          cases hfv : fit p E.s0 E.s1
          · have hdE : Hid (dE (k :: r) = 3) := by
              show _ = _
              rw [dE_some hp.out, hm.out, hhh.out, if_pos rfl, ← hfs.out, hfv, if_neg (by decide)]
            have hdC : Hid (dC (k :: r) = cz) := by
              show _ = _
              rw [dC_some hp.out, hm.out, hhh.out, if_pos rfl, ← hfs.out, hfv, if_neg (by decide)]
            clear hfv
            obtain ⟨z0, z1, z2, z3, z4, z5, z6, z7, z8⟩ := D7.out.r.cells
            obtain ⟨f0, f1, f2, f3, f4, f5, f6, f7, f8⟩ := D7.out.r.fr
            have hfin := hid (set9_block D7.out.r.blk (.int .i64 0) (.int .u32 0) (.int .u32 0) (.int .u32 0) (.int .u32 0) (.int .i64 0) (.int .i64 0) (.int .i32 0) (.slice none 0 0))
            have hbz := hid (set9_below D7.out.bel (g := R) (by have := D7.out.R0; omega) (.int .i64 0) (.int .u32 0) (.int .u32 0) (.int .u32 0) (.int .u32 0) (.int .i64 0) (.int .i64 0) (.int .i32 0) (.slice none 0 0))
            go_wp2_with fail
            refine bodyPost_ret (results_cell2 rfl _ _ R 34 _ (0, 0) _ rfl hfin.out Tryd.underlying34 rfl (by kernel_rfl)) rfl ?_
            rw [hdC.out, hdE.out]
            exact ⟨none, 0, rfl, Bytes.none _, hbz.out⟩
          · have hdE : Hid (dE (k :: r) = 0) := by
              show _ = _
              rw [dE_some hp.out, hm.out, hhh.out, if_pos rfl, ← hfs.out, hfv, if_pos rfl]
            have hdC : Hid (dC (k :: r) = dcm K p r) := by
              show _ = _
              rw [dC_some hp.out, hm.out, hhh.out, if_pos rfl, ← hfs.out, hfv, if_pos rfl, hKh.out]
            clear hfv
            obtain ⟨c0, c1, c2, c3, c4, c5, c6, c7, c8⟩ := D7.out.m.cells
            obtain ⟨z0, z1, z2, z3, z4, z5, z6, z7, z8⟩ := D7.out.r.cells
            obtain ⟨f0, f1, f2, f3, f4, f5, f6, f7, f8⟩ := D7.out.r.fr
            have hfin := hid (set9_block D7.out.r.blk (.int .i64 E.code) (.int .u32 (E.a0 : Int)) (.int .u32 (E.p0 : Int)) (.int .u32 (E.a1 : Int)) (.int .u32 (E.p1 : Int)) (.int .i64 E.s0) (.int .i64 E.s1) (.int .i32 E.w) (.slice ad' N cap'))
            have hbz := hid (set9_below D7.out.bel (g := R) (by have := D7.out.R0; omega) (.int .i64 E.code) (.int .u32 (E.a0 : Int)) (.int .u32 (E.p0 : Int)) (.int .u32 (E.a1 : Int)) (.int .u32 (E.p1 : Int)) (.int .i64 E.s0) (.int .i64 E.s1) (.int .i32 E.w) (.slice ad' N cap'))
            have hbyf := hid (bytes_keep hby7.out (set9_turned y7 R (.int .i64 E.code) (.int .u32 (E.a0 : Int)) (.int .u32 (E.p0 : Int)) (.int .u32 (E.a1 : Int)) (.int .u32 (E.p1 : Int)) (.int .i64 E.s0) (.int .i64 E.s1) (.int .i32 E.w) (.slice ad' N cap')) hofm.out.2)
            go_wp2_with fail
            refine bodyPost_ret (results_cell2 rfl _ _ R 34 _ (0, 0) _ rfl hfin.out Tryd.underlying34 rfl (by kernel_rfl)) rfl ?_
            rw [hdC.out, hdE.out]
            refine ⟨ad', cap', ?_, ?_, hbz.out⟩
            · show Ending.returned (.tuple #[cv E (.slice ad' N cap'), .nilIface]) = .returned (.tuple #[cv (dcm K p r) (.slice ad' (r.drop (szp p)).length cap'), erv 0])
              rw [hdd.out, hN.out, ← hE.out]
              rfl
            · show Bytes _ ad' cap' (r.drop (szp p))
              rw [hdd.out]
              exact hbyf.out

end Go.Proofs.YtmmpkhoejcfdmaaDoor
