/- The document's number, and Decode where nothing is read, walked. -/
import Derived.Test.YtmmpkhoejcfdmaaDoorHas19
import Derived.Test.YtmmpkhoejcfdmaaDoorRTake
namespace Go.Proofs.YtmmpkhoejcfdmaaDoor
open Go.RowKit
set_option linter.unusedVariables false

set_option maxRecDepth 100000 in
set_option maxHeartbeats 1000000 in
theorem number_ok {ad : Option Addr} {n cap : Nat} {b : List UInt8} {w : World} (hb : Bytes w ad cap b) (hn : b.length = n) (at_ : Nat) (a : Int) (ha : a = (at_ : Int)) (hl : at_ + 4 ≤ n) :
    Calls Tryd.prog 31 #[.slice ad n cap, .int .i64 a] w fun e w' => e = .returned (.int .u32 (num ((b.drop at_).take 4) : Int)) ∧ Below w.heap.size w w' := by
  subst ha
  have hle := hb.le
  obtain ⟨x, rfl⟩ : ∃ x, ad = some x := by
    cases ad with
    | some x => exact ⟨x, rfl⟩
    | none => have := hb.nil rfl; omega
  have hd := drop_lies hb at_ (by omega)
  have hq := rtake_ok ((some x).map (·.add at_)) (cap - at_) (n - at_) (b.drop at_) 4 w (by rw [List.length_drop]; omega) hd (by omega) (by omega) (by rw [List.length_drop]; omega)
  have hnl : num ((b.drop at_).take 4) < 4294967296 := num_take_lt _ 4
  obtain ⟨V, hV⟩ : ∃ V, num ((b.drop at_).take 4) = V := ⟨_, rfl⟩
  rw [hV] at hq hnl ⊢
  have hw := wu32 V hnl
  have k0 : (0 : Int) ≤ (at_ : Int) := by omega
  have k1 : (at_ : Int) ≤ (n : Int) := by omega
  have k2 : (n : Int) ≤ (cap : Int) := by omega
  have k3 : ¬ cap = at_ := by omega
  have k4 : at_ ≤ n := by omega
  have k5 : n ≤ cap := by omega
  clear hb hd hV
  replace hq := hid hq
  go_enter Tryd.func31, Tryd.ntmps31
  go_wp2_with fail
  refine hq.out.mono ?_
  rintro e w2 ⟨ad', cap', rfl, _, b2⟩
  go_wp2_with fail
  go_ret
  exact ⟨rfl, b2⟩

/-- A block of a zero command of the document. -/
structure ZR (w : World) (b : Nat) : Prop where
  blk : w.heap[b]? = some (.cells (kcs 0) 29 (0, 0))
theorem ZR.lt {w : World} {b : Nat} (h : ZR w b) : b < w.heap.size := (Array.getElem?_eq_some_iff.1 h.blk).1
theorem ZR.more {w w' : World} {b : Nat} (h : ZR w b) (hb : Below w.heap.size w w') : ZR w' b := ⟨(hb.block b h.lt).trans h.blk⟩
theorem ZR.cells {w : World} {b : Nat} (h : ZR w b) : w.cell? ⟨b, 0, none⟩ = some (.int .i64 0) ∧ w.cell? ⟨b, 1, none⟩ = some (.int .u32 0) ∧ w.cell? ⟨b, 2, none⟩ = some (.int .u32 0) ∧ w.cell? ⟨b, 3, none⟩ = some (.int .u32 0) ∧ w.cell? ⟨b, 4, none⟩ = some (.int .u32 0) ∧ w.cell? ⟨b, 5, none⟩ = some (.int .i64 0) ∧ w.cell? ⟨b, 6, none⟩ = some (.int .i64 0) ∧ w.cell? ⟨b, 7, none⟩ = some (.int .i32 0) ∧ w.cell? ⟨b, 8, none⟩ = some (.slice none 0 0) :=
  ⟨cell_of h.blk rfl, cell_of h.blk rfl, cell_of h.blk rfl, cell_of h.blk rfl, cell_of h.blk rfl, cell_of h.blk rfl, cell_of h.blk rfl, cell_of h.blk rfl, cell_of h.blk rfl⟩
theorem ZR.fr {w : World} {b : Nat} (h : ZR w b) : w.frozen? ⟨b, 0, none⟩ = false ∧ w.frozen? ⟨b, 1, none⟩ = false ∧ w.frozen? ⟨b, 2, none⟩ = false ∧ w.frozen? ⟨b, 3, none⟩ = false ∧ w.frozen? ⟨b, 4, none⟩ = false ∧ w.frozen? ⟨b, 5, none⟩ = false ∧ w.frozen? ⟨b, 6, none⟩ = false ∧ w.frozen? ⟨b, 7, none⟩ = false ∧ w.frozen? ⟨b, 8, none⟩ = false :=
  ⟨frozen_of h.blk, frozen_of h.blk, frozen_of h.blk, frozen_of h.blk, frozen_of h.blk, frozen_of h.blk, frozen_of h.blk, frozen_of h.blk, frozen_of h.blk⟩
theorem RB.fr {w : World} {b : Nat} {c : Cm} {dv : Value} (h : RB w b c dv) : w.frozen? ⟨b, 0, none⟩ = false ∧ w.frozen? ⟨b, 1, none⟩ = false ∧ w.frozen? ⟨b, 2, none⟩ = false ∧ w.frozen? ⟨b, 3, none⟩ = false ∧ w.frozen? ⟨b, 4, none⟩ = false ∧ w.frozen? ⟨b, 5, none⟩ = false ∧ w.frozen? ⟨b, 6, none⟩ = false ∧ w.frozen? ⟨b, 7, none⟩ = false ∧ w.frozen? ⟨b, 8, none⟩ = false :=
  ⟨frozen_of h.blk, frozen_of h.blk, frozen_of h.blk, frozen_of h.blk, frozen_of h.blk, frozen_of h.blk, frozen_of h.blk, frozen_of h.blk, frozen_of h.blk⟩

/-- The blocks of a command that the document reads. -/
structure Dr (w wr : World) (R mb : Nat) (c : Cm) (dv : Value) : Prop where
  r : ZR wr R
  m : RB wr mb c dv
  lt : R < mb
  bel : Below w.heap.size w wr
  R0 : w.heap.size = R

theorem Dr.more {w wr y : World} {R mb : Nat} {c : Cm} {dv : Value} (h : Dr w wr R mb c dv) (hb : Below wr.heap.size wr y) : Dr w y R mb c dv :=
  ⟨h.r.more hb, h.m.more hb, h.lt, h.bel.trans (hb.mono h.bel.size), h.R0⟩

theorem Dr.set {w wr : World} {R mb : Nat} {c : Cm} {dv : Value} (h : Dr w wr R mb c dv) (j : Nat) (u : Value) (c' : Cm) (dv' : Value) (he : (ccs c dv).setIfInBounds j u = ccs c' dv') : Dr w (wr.setCell ⟨mb, j, none⟩ u) R mb c' dv' := by
  have h1 := h.lt
  have h2 := h.R0
  have S := (Turned.refl (fun k => k = mb) wr).setCell (p := ⟨mb, j, none⟩) rfl u
  refine ⟨⟨(S.block R h.r.lt (by omega)).trans h.r.blk⟩, ⟨?_⟩, h.lt, h.bel.trans (S.below (fun k hk => by omega) h.bel.size), h.R0⟩
  rw [set_block h.m.blk, he]

theorem dr_new {w : World} (K : Nat) : Dr w ((w.alloc (.cells (kcs 0) 29)).alloc (.cells (kcs K) 29)) w.heap.size (w.heap.size + 1) ⟨K, 0, 0, 0, 0, 0, 0, 0, []⟩ nilS := by
  have b1 := balloc w (.cells (kcs 0) 29)
  have b2 := balloc (w.alloc (.cells (kcs 0) 29)) (.cells (kcs K) 29)
  have hs : (w.alloc (.cells (kcs 0) 29)).heap.size = w.heap.size + 1 := by simp
  refine ⟨(ZR.mk (new_of _ _ _)).more b2, ⟨?_⟩, by omega, b1.trans (b2.mono b1.size), rfl⟩
  have := new_of (w.alloc (.cells (kcs 0) 29)) (kcs K) 29
  rw [hs] at this
  exact this

set_option maxRecDepth 100000 in
set_option maxHeartbeats 1000000 in
theorem rdec_nil (ad : Option Addr) (cap : Nat) (w : World) :
    Calls Tryd.prog 17 #[.slice ad 0 cap] w fun e w' => e = .returned (.tuple #[cv cz nilS, .int .i64 10]) ∧ Below w.heap.size w w' := by
  go_enter Tryd.func17, Tryd.ntmps17
  go_wp2_with fail
  go_returns
  exact ⟨rfl, below1 _⟩

set_option maxRecDepth 100000 in
set_option maxHeartbeats 2000000 in
theorem rdec_none {ad : Option Addr} {n cap : Nat} {k : UInt8} {r : List UInt8} {w : World} (hb : Bytes w ad cap (k :: r)) (hn : (k :: r).length = n) (hp : pt k.toNat = none) :
    Calls Tryd.prog 17 #[.slice ad n cap] w fun e w' => e = .returned (.tuple #[cv cz nilS, .int .i64 10]) ∧ Below w.heap.size w w' := by
  have b1 := balloc w (.cells (kcs 0) 29)
  obtain ⟨ba, off, rfl, hcl⟩ := (hb.below b1).opened (by simp)
  have l0 := hcl 0 (by simp)
  simp only [Nat.add_zero, List.getElem_cons_zero] at l0
  obtain ⟨K, hK⟩ : ∃ K, k.toNat = K := ⟨_, rfl⟩
  rw [hK] at l0 hp
  have hn0 : ¬ (n : Int) = 0 := by rw [List.length_cons] at hn; omega
  have hnp : (0 : Int) < (n : Int) := by omega
  have hz := ZR.mk (new_of w (kcs 0) 29)
  have hk := pt_none.1 hp
  clear hcl hb hn hK hp
  go_enter Tryd.func17, Tryd.ntmps17
  go_upto_region 1 with fail
  obtain ⟨w1, hw1⟩ : ∃ w1, w.alloc (.cells (kcs 0) 29) = w1 := ⟨_, rfl⟩
  rw [hw1] at b1 l0 hz ⊢
  obtain ⟨R, hR⟩ : ∃ R, w.heap.size = R := ⟨_, rfl⟩
  rw [hR] at hz ⊢
  clear hw1
  have hRl : w.heap.size ≤ R := by rw [hR]; exact Nat.le_refl _
  clear hR
  obtain ⟨z0, z1, z2, z3, z4, z5, z6, z7, z8⟩ := hz.cells
  obtain ⟨f0, f1, f2, f3, f4, f5, f6, f7, f8⟩ := hz.fr
  replace hz := hid hz
  rcases Int.lt_or_le (K : Int) 1 with k1 | k1
  · clear hk
    go_wp2_with fail
    refine bodyPost_ret (results_cell2 rfl _ _ R 29 _ (0, 0) _ rfl (set9_block hz.out.blk (.int .i64 0) (.int .u32 0) (.int .u32 0) (.int .u32 0) (.int .u32 0) (.int .i64 0) (.int .i64 0) (.int .i32 0) (.slice none 0 0)) Tryd.underlying29 rfl (by kernel_rfl)) rfl ?_
    exact ⟨rfl, set9_below b1 (g := R) hRl (.int .i64 0) (.int .u32 0) (.int .u32 0) (.int .u32 0) (.int .u32 0) (.int .i64 0) (.int .i64 0) (.int .i32 0) (.slice none 0 0)⟩
  · have k1' : ¬ (K : Int) < 1 := by omega
    have k2 : (17 : Int) < (K : Int) := by omega
    clear hk k1
    go_wp2_with fail
    refine bodyPost_ret (results_cell2 rfl _ _ R 29 _ (0, 0) _ rfl (set9_block hz.out.blk (.int .i64 0) (.int .u32 0) (.int .u32 0) (.int .u32 0) (.int .u32 0) (.int .i64 0) (.int .i64 0) (.int .i32 0) (.slice none 0 0)) Tryd.underlying29 rfl (by kernel_rfl)) rfl ?_
    exact ⟨rfl, set9_below b1 (g := R) hRl (.int .i64 0) (.int .u32 0) (.int .u32 0) (.int .u32 0) (.int .u32 0) (.int .i64 0) (.int .i64 0) (.int .i32 0) (.slice none 0 0)⟩

end Go.Proofs.YtmmpkhoejcfdmaaDoor
