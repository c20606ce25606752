/- 'SphereLegals', walked. -/
import Derived.Test.YtegljhbjjdfhiaaGreatDoorRegion
import Derived.Test.YtegljhbjjdfhiaaGreatDoorLaws11
import Derived.Test.YtegljhbjjdfhiaaGreatDoorRLegal12
import Derived.Test.YtegljhbjjdfhiaaGreatDoorLegal12
import Derived.Test.YtegljhbjjdfhiaaGreatDoorBcount
import Derived.Deep.CutBlock
namespace Go.Proofs.YtegljhbjjdfhiaaGreatDoor
open Go.RowKit
set_option linter.unusedVariables false

/-- The act's block. -/
abbrev acb (q : Ac) : Obj := .cells #[.int .i64 q.k, .int .i64 q.e, .int .i64 q.a0, .int .i64 q.a1, .int .i64 q.b0, .int .i64 q.b1] 25 (0, 0)

theorem acb_cells {y : World} {p : Nat} {k e a0 a1 b0 b1 : Int} (h : y.heap[p]? = some (acb ⟨k, e, a0, a1, b0, b1⟩)) : y.cell? ⟨p, 2, none⟩ = some (.int .i64 a0) ∧ y.cell? ⟨p, 3, none⟩ = some (.int .i64 a1) ∧ y.cell? ⟨p, 4, none⟩ = some (.int .i64 b0) ∧ y.cell? ⟨p, 5, none⟩ = some (.int .i64 b1) := by
  refine ⟨?_, ?_, ?_, ?_⟩ <;> (unfold World.cell?; rw [h]; rfl)

set_option maxRecDepth 100000 in
set_option maxHeartbeats 4000000 in
theorem legals_law (n : Int) (v : Value) (l : List Ac) (q : Ac) (w : World) (hg : Handle w) (hv : AV w v l) :
    Calls Tryz.prog 3 #[.int .i64 n, v, acv q] w fun x w' => x = .returned (.bool true) ∧ Below w.heap.size w w' := by
  have hbb := balloc w (acb q)
  have hpb := heap_alloc_new w (acb q)
  have hpl : w.heap.size < (w.alloc (acb q)).heap.size := by simp
  have hg0 := hg.below hbb
  have hm := made_ok n v l (w.alloc (acb q)) hg0 (hv.below hbb)
  have hsu := hid (fun y => sure_ok y)
  obtain ⟨w0, hw0⟩ : ∃ w0, w.alloc (acb q) = w0 := ⟨_, rfl⟩
  rw [hw0] at hbb hpb hm hpl hg0
  replace hbb := hid hbb
  replace hpb := hid hpb
  replace hm := hid hm
  replace hw0 := hid hw0
  replace hg0 := hid hg0
  clear hg hv
  obtain ⟨qk, qe, qa0, qa1, qb0, qb1⟩ := q
  go_enter Tryz.func3, Tryz.ntmps3
  go_upto_region 1 with fail
  rw [hw0.out]
  clear hw0
  go_wp2_with fail
  refine hm.out.mono ?_
  rintro x w1 ⟨tb, V, R, ad, cap, rfl, hV1, hV6, hbo, b1⟩
  have hpb1 := (b1.block _ hpl).trans hpb.out
  have hpb2 := hid (al_keep (o' := .cells #[.int .i64 8, .slice ad V cap] 29) hpb1)
  have hls := hid (Md.ls hbo b1)
  clear hbo b1 hm hpb hpb1
  obtain ⟨w2, hw2⟩ : ∃ w2, w1.alloc (.cells #[.int .i64 8, .slice ad V cap] 29) = w2 := ⟨_, rfl⟩
  rw [hw2] at hls hpb2
  replace hw2 := hid hw2
  have htn := hid hls.out.tn
  have htw := hid hls.out.tw
  have hbw : Hid (Below w.heap.size w w2) := hid (hbb.out.trans (hls.out.bel.mono hbb.out.size))
  have hg2 : Hid (∀ y, Below w2.heap.size w2 y → Handle y) := hid (fun y hy => hg0.out.below (hls.out.bel.trans (hy.mono hls.out.bel.size)))
  go_upto_region 2 with fail
  try rw [hw2.out]
  clear hw2 hg0
  go_wp2_with fail
  go_loopw [10, 11, 12, 13, 14, 15] (fun s10 _ _ _ _ _ wr => ∃ (k : Nat), k ≤ 2 ∧ s10 = .int .i64 (k : Int) ∧ Hid (Below w2.heap.size w2 wr)) (fun s10 _ _ _ _ _ _ => 2 - (intOf s10).toNat)
  case atStart => exact ⟨0, by omega, by go_num, Below.refl _ _⟩
  case round =>
    obtain ⟨k, hk, rfl, hb⟩ := hrel
    rcases Nat.lt_or_ge k 2 with hlt | hge
    · have v1 : decide ((k : Int) < 2) = true := decide_eq_true (by omega)
      obtain ⟨wx, hwx⟩ : ∃ wx, wx = wr := ⟨wr, rfl⟩
      subst hwx
      have hlsx := hid (hls.out.more hb.out)
      have hpbx := hid ((hb.out.block _ (Array.getElem?_eq_some_iff.1 hpb2.out).1).trans hpb2.out)
      have hgx : Hid (∀ y, Below wx.heap.size wx y → Handle y) := hid (fun y hy => hg2.out y (hb.out.trans (hy.mono hb.out.size)))
      have hbo : Hid (∃ ad' cap', Bo wx w0.heap.size tb (.agg #[.int .i64 ((8 : Nat) : Int), .slice ad' V cap']) V 8 8 R ∧ wx.cell? ⟨w1.heap.size, 0, none⟩ = some (.int .i64 ((8 : Nat) : Int)) ∧ wx.cell? ⟨w1.heap.size, 1, none⟩ = some (.slice ad' V cap')) := by
        obtain ⟨ad', cap', h1, h2, _, _⟩ := hlsx.out
        obtain ⟨z0, z1, _, _⟩ := blk2 h2
        exact hid ⟨ad', cap', h1, z0, z1⟩
      obtain ⟨ad', cap', hbo, c0, c1⟩ := hbo.out
      have hcor := hid (fun c0 c1 raw y (hy : Below wx.heap.size wx y) => corner_any _ 8 V R c0 c1 raw y (hbo.rt.below hy) htn.out hV1 (by omega) (by decide))
      have hcl : Hid (∀ y, Below wx.heap.size wx y → y.cell? ⟨w1.heap.size, 0, none⟩ = some (.int .i64 ((8 : Nat) : Int)) ∧ y.cell? ⟨w1.heap.size, 1, none⟩ = some (.slice ad' V cap') ∧ y.cell? ⟨w.heap.size, 2, none⟩ = some (.int .i64 qa0) ∧ y.cell? ⟨w.heap.size, 3, none⟩ = some (.int .i64 qa1) ∧ y.cell? ⟨w.heap.size, 4, none⟩ = some (.int .i64 qb0) ∧ y.cell? ⟨w.heap.size, 5, none⟩ = some (.int .i64 qb1)) := hid (fun y hy => by
        have h1 := acb_cells ((hy.block _ (Array.getElem?_eq_some_iff.1 hpbx.out).1).trans hpbx.out)
        exact ⟨(hy.cell (World.block_lt_of_cell? _ _ c0)).trans c0, (hy.cell (World.block_lt_of_cell? _ _ c1)).trans c1, h1⟩)
      have hcg := hid (two_at c0 c1)
      have hboth := hid (fun a b => both_check hbo a b (by decide) (by omega))
      have hrl := hid (fun (u v : Nat) (a b : Int) (s : Bool) (ha : Co V R (u : Int) a) (hb : Co V R (v : Int) b) (hu : u < V) (hv : v < V) (hs : s = true ↔ lb V 8 R u ≠ lb V 8 R v ∨ One V R u v (co a) (co b)) y (hy : Below wx.heap.size wx y) => rlegal_ok _ 8 V u v a b s R y (hbo.rt.below hy) htn.out htw.out ha hb hu hv hs (by decide) (by omega) (len16 htn.out))
      have hta := hid hbo.ta
      clear hpbx c0 c1 hlsx hbo
      go_upto_region 7 with fail
      go_cut [11, 12] from 29 to 40 (fun s11 s12 wy => ∃ (P Q : Nat) (a0 a1 b0 b1 : Int), s11 = .pointer (some ⟨P, 0, none⟩) ∧ s12 = .pointer (some ⟨Q, 0, none⟩) ∧ Hid (Below wx.heap.size wx wy ∧ wy.heap[P]? = some (.cells #[.int .i64 a0, .int .i64 a1] 23 (0, 0)) ∧ wy.heap[Q]? = some (.cells #[.int .i64 b0, .int .i64 b1] 23 (0, 0))))
      case first =>
        refine wp_region_noPanic ?_
        refine wp_region_held_drew (S := fun y => Below wx.heap.size wx y) (by kernel_rfl) (Below.refl _ _).drew (fun hHeld => ?_)
        refine takeH (i := 0) (v := ?_) (a' := ?_) ({ dst := some 29, op := Op.load 29 (Operand.tmp 8), type := 29, pos := "law.go:125", after := #[], guard := none }) rfl (by kernel_rfl) (by kernel_rfl) (by kernel_rfl) (fun _ _ _ h => h) (by rfl) ?_ (by assumption) ?_ ?_
        rotate_left 2
        · (intro w' hSw; obtain ⟨q0, q1, q2, q3, q4, q5⟩ := hcl.out w' hSw; clear hSw; go_simp; try with_reducible rfl)
        · (simp only [Act.put, List.setIfInBounds_toArray, List.set_cons_zero, List.set_cons_succ]; try rfl)
        refine takeH (i := 1) (v := ?_) (a' := ?_) ({ dst := some 30, op := Op.fieldAddr 25 (Operand.tmp 5) 2, type := 0, pos := "law.go:125", after := #[], guard := none }) rfl (by kernel_rfl) (by kernel_rfl) (by kernel_rfl) (fun _ _ _ h => h) (by rfl) ?_ (by assumption) ?_ ?_
        rotate_left 2
        · (intro w' hSw; obtain ⟨q0, q1, q2, q3, q4, q5⟩ := hcl.out w' hSw; clear hSw; go_simp; try with_reducible rfl)
        · (simp only [Act.put, List.setIfInBounds_toArray, List.set_cons_zero, List.set_cons_succ]; try rfl)
        refine takeH (i := 2) (v := ?_) (a' := ?_) ({ dst := some 31, op := Op.load 23 (Operand.tmp 30), type := 23, pos := "law.go:125", after := #[{ on := 1, ground := Ground.data }], guard := none }) rfl (by kernel_rfl) (by kernel_rfl) (by kernel_rfl) (fun _ _ _ h => h) (by rfl) ?_ (by assumption) ?_ ?_
        rotate_left 2
        · (intro w' hSw; obtain ⟨q0, q1, q2, q3, q4, q5⟩ := hcl.out w' hSw; clear hSw; go_simp; try with_reducible rfl)
        · (simp only [Act.put, List.setIfInBounds_toArray, List.set_cons_zero, List.set_cons_succ]; try rfl)
        refine takeH (i := 3) (v := ?_) (a' := ?_) ({ dst := some 32, op := Op.move (Operand.tmp 10), type := 3, pos := "law.go:125", after := #[], guard := none }) rfl (by kernel_rfl) (by kernel_rfl) (by kernel_rfl) (fun _ _ _ h => h) (by rfl) ?_ (by assumption) ?_ ?_
        rotate_left 2
        · (intro w' hSw; obtain ⟨q0, q1, q2, q3, q4, q5⟩ := hcl.out w' hSw; clear hSw; go_simp; try with_reducible rfl)
        · (simp only [Act.put, List.setIfInBounds_toArray, List.set_cons_zero, List.set_cons_succ]; try rfl)
        refine takeH (i := 4) (v := ?_) (a' := ?_) ({ dst := some 33, op := Op.binOp BinOp.eql 3 (Operand.tmp 32) (Operand.const (Value.int IntKind.i64 1)) 3, type := 4, pos := "law.go:125", after := #[{ on := 3, ground := Ground.data }], guard := none }) rfl (by kernel_rfl) (by kernel_rfl) (by kernel_rfl) (fun _ _ _ h => h) (by rfl) ?_ (by assumption) ?_ ?_
        rotate_left 2
        · (intro w' hSw; obtain ⟨q0, q1, q2, q3, q4, q5⟩ := hcl.out w' hSw; clear hSw; go_simp; try with_reducible rfl)
        · (simp only [Act.put, List.setIfInBounds_toArray, List.set_cons_zero, List.set_cons_succ]; try rfl)
        refine takeH (i := 6) (v := ?_) (a' := ?_) ({ dst := some 35, op := Op.load 29 (Operand.tmp 8), type := 29, pos := "law.go:125", after := #[], guard := none }) rfl (by kernel_rfl) (by kernel_rfl) (by kernel_rfl) (fun _ _ _ h => h) (by rfl) ?_ (by assumption) ?_ ?_
        rotate_left 2
        · (intro w' hSw; obtain ⟨q0, q1, q2, q3, q4, q5⟩ := hcl.out w' hSw; clear hSw; go_simp; try with_reducible rfl)
        · (simp only [Act.put, List.setIfInBounds_toArray, List.set_cons_zero, List.set_cons_succ]; try rfl)
        refine takeH (i := 7) (v := ?_) (a' := ?_) ({ dst := some 36, op := Op.fieldAddr 25 (Operand.tmp 5) 3, type := 0, pos := "law.go:125", after := #[], guard := none }) rfl (by kernel_rfl) (by kernel_rfl) (by kernel_rfl) (fun _ _ _ h => h) (by rfl) ?_ (by assumption) ?_ ?_
        rotate_left 2
        · (intro w' hSw; obtain ⟨q0, q1, q2, q3, q4, q5⟩ := hcl.out w' hSw; clear hSw; go_simp; try with_reducible rfl)
        · (simp only [Act.put, List.setIfInBounds_toArray, List.set_cons_zero, List.set_cons_succ]; try rfl)
        refine takeH (i := 8) (v := ?_) (a' := ?_) ({ dst := some 37, op := Op.load 23 (Operand.tmp 36), type := 23, pos := "law.go:125", after := #[{ on := 7, ground := Ground.data }], guard := none }) rfl (by kernel_rfl) (by kernel_rfl) (by kernel_rfl) (fun _ _ _ h => h) (by rfl) ?_ (by assumption) ?_ ?_
        rotate_left 2
        · (intro w' hSw; obtain ⟨q0, q1, q2, q3, q4, q5⟩ := hcl.out w' hSw; clear hSw; go_simp; try with_reducible rfl)
        · (simp only [Act.put, List.setIfInBounds_toArray, List.set_cons_zero, List.set_cons_succ]; try rfl)
        refine takeH (i := 9) (v := ?_) (a' := ?_) ({ dst := some 38, op := Op.move (Operand.tmp 10), type := 3, pos := "law.go:125", after := #[], guard := none }) rfl (by kernel_rfl) (by kernel_rfl) (by kernel_rfl) (fun _ _ _ h => h) (by rfl) ?_ (by assumption) ?_ ?_
        rotate_left 2
        · (intro w' hSw; obtain ⟨q0, q1, q2, q3, q4, q5⟩ := hcl.out w' hSw; clear hSw; go_simp; try with_reducible rfl)
        · (simp only [Act.put, List.setIfInBounds_toArray, List.set_cons_zero, List.set_cons_succ]; try rfl)
        refine takeH (i := 10) (v := ?_) (a' := ?_) ({ dst := some 39, op := Op.binOp BinOp.eql 3 (Operand.tmp 38) (Operand.const (Value.int IntKind.i64 1)) 3, type := 4, pos := "law.go:125", after := #[{ on := 9, ground := Ground.data }], guard := none }) rfl (by kernel_rfl) (by kernel_rfl) (by kernel_rfl) (fun _ _ _ h => h) (by rfl) ?_ (by assumption) ?_ ?_
        rotate_left 2
        · (intro w' hSw; obtain ⟨q0, q1, q2, q3, q4, q5⟩ := hcl.out w' hSw; clear hSw; go_simp; try with_reducible rfl)
        · (simp only [Act.put, List.setIfInBounds_toArray, List.set_cons_zero, List.set_cons_succ]; try rfl)
        have hdk0 : Hid (Below wx.heap.size wx wx.drew) := hid (Below.refl _ _).drew
        clear hHeld
        generalize wx.drew = y0 at hdk0 ⊢
        refine wpAnyH_ready (rs := [5, 12, 13]) (by kernel_rfl) (by simp) ?_
        refine (AllReadyH.cons (o := { dst := some 34, op := Op.call { callee := Callee.value (Operand.func 5), args := #[Operand.tmp 29, Operand.tmp 31, Operand.tmp 33], argTypes := #[29, 23, 4] }, type := 23, pos := "law.go:125", after := #[{ on := 0, ground := Ground.data }, { on := 2, ground := Ground.data }, { on := 4, ground := Ground.data }], guard := none }) rfl (fun K hK => ?_) (AllReadyH.cons (o := { dst := some 11, op := Op.alloc 23, type := 0, pos := "law.go:125", after := #[], guard := none }) rfl (fun K hK => ?_) (AllReadyH.cons (o := { dst := some 12, op := Op.alloc 23, type := 0, pos := "law.go:125", after := #[], guard := none }) rfl (fun K hK => ?_) AllReadyH.nil)))
        · skip
          go_simp
          refine (hcor.out _ _ _ y0 hdk0.out).mono ?_
          rintro x y1 ⟨a0, a1, rfl, b2⟩
          have hdk1 : Hid (Below wx.heap.size wx y1) := hid (hdk0.out.trans (b2.mono hdk0.out.size))
          clear b2
          try go_wp2_with fail
          refine hK.out _ _ hdk1.out (fun hHeld => ?_)
          clear hK K hHeld
          try simp only [Act.put, List.setIfInBounds_toArray, List.set_cons_zero, List.set_cons_succ]
          refine wpAnyH_ready (rs := [11, 12, 13]) (by kernel_rfl) (by simp) ?_
          refine (AllReadyH.cons (o := { dst := some 40, op := Op.call { callee := Callee.value (Operand.func 5), args := #[Operand.tmp 35, Operand.tmp 37, Operand.tmp 39], argTypes := #[29, 23, 4] }, type := 23, pos := "law.go:125", after := #[{ on := 6, ground := Ground.data }, { on := 8, ground := Ground.data }, { on := 10, ground := Ground.data }, { on := 5, ground := Ground.chain }], guard := none }) rfl (fun K hK => ?_) (AllReadyH.cons (o := { dst := some 11, op := Op.alloc 23, type := 0, pos := "law.go:125", after := #[], guard := none }) rfl (fun K hK => ?_) (AllReadyH.cons (o := { dst := some 12, op := Op.alloc 23, type := 0, pos := "law.go:125", after := #[], guard := none }) rfl (fun K hK => ?_) AllReadyH.nil)))
          · skip
            go_simp
            refine (hcor.out _ _ _ y1 hdk1.out).mono ?_
            rintro x y2 ⟨b0, b1, rfl, b2⟩
            have hdk2 : Hid (Below wx.heap.size wx y2) := hid (hdk1.out.trans (b2.mono hdk1.out.size))
            clear b2
            try go_wp2_with fail
            refine hK.out _ _ hdk2.out (fun hHeld => ?_)
            clear hK K hHeld
            try simp only [Act.put, List.setIfInBounds_toArray, List.set_cons_zero, List.set_cons_succ]
            refine wpAnyH_ready (rs := [12, 13]) (by kernel_rfl) (by simp) ?_
            refine (AllReadyH.cons (o := { dst := some 11, op := Op.alloc 23, type := 0, pos := "law.go:125", after := #[], guard := none }) rfl (fun K hK => ?_) (AllReadyH.cons (o := { dst := some 12, op := Op.alloc 23, type := 0, pos := "law.go:125", after := #[], guard := none }) rfl (fun K hK => ?_) AllReadyH.nil))
            · skip
              go_simp
              refine hK.out _ _ (hdk2.out.alloc hdk2.out.size _) (fun hHeld => ?_)
              clear hK K hHeld
              try simp only [Act.put, List.setIfInBounds_toArray, List.set_cons_zero, List.set_cons_succ]
              obtain ⟨y3, hy⟩ : ∃ y, y2.alloc (.cells #[.int .i64 0, .int .i64 0] 23) = y := ⟨_, rfl⟩
              have hdk3 : Hid (Below wx.heap.size wx y3) := by rw [← hy]; exact hid (hdk2.out.alloc hdk2.out.size _)
              have hP3 : Hid (y3.heap[y2.heap.size]? = some (.cells #[.int .i64 0, .int .i64 0] 23 (0, 0))) := by rw [← hy]; exact hid (heap_alloc_new _ _)
              have hlP : wx.heap.size ≤ y2.heap.size := hdk2.out.size
              rw [hy]
              clear hy
              refine wpAnyH_ready (rs := [13]) (by kernel_rfl) (by simp) ?_
              refine (AllReadyH.cons (o := { dst := some 12, op := Op.alloc 23, type := 0, pos := "law.go:125", after := #[], guard := none }) rfl (fun K hK => ?_) AllReadyH.nil)
              go_simp
              refine hK.out _ _ (hdk3.out.alloc hdk3.out.size _) (fun hHeld => ?_)
              clear hK K hHeld
              try simp only [Act.put, List.setIfInBounds_toArray, List.set_cons_zero, List.set_cons_succ]
              obtain ⟨y4, hy⟩ : ∃ y, y3.alloc (.cells #[.int .i64 0, .int .i64 0] 23) = y := ⟨_, rfl⟩
              have hdk4 : Hid (Below wx.heap.size wx y4) := by rw [← hy]; exact hid (hdk3.out.alloc hdk3.out.size _)
              have hQ4 : Hid (y4.heap[y3.heap.size]? = some (.cells #[.int .i64 0, .int .i64 0] 23 (0, 0))) := by rw [← hy]; exact hid (heap_alloc_new _ _)
              have hlQ : wx.heap.size ≤ y3.heap.size := hdk3.out.size
              have hP4 : Hid (y4.heap[y2.heap.size]? = some (.cells #[.int .i64 0, .int .i64 0] 23 (0, 0))) := by rw [← hy]; exact hid (al_keep hP3.out)
              have hPQ : y2.heap.size ≠ y3.heap.size := by have := (Array.getElem?_eq_some_iff.1 hP3.out).1; omega
              rw [hy]
              clear hy
              refine wpAnyH_ready (rs := [14]) (by kernel_rfl) (by simp) ?_
              refine (AllReadyH.cons (o := { dst := none, op := Op.store 23 (Operand.tmp 11) (Operand.tmp 34), type := 0, pos := "law.go:125", after := #[{ on := 12, ground := Ground.data }, { on := 5, ground := Ground.data }, { on := 11, ground := Ground.chain }, { on := 0, ground := Ground.phase }, { on := 1, ground := Ground.phase }, { on := 2, ground := Ground.phase }, { on := 3, ground := Ground.phase }, { on := 4, ground := Ground.phase }, { on := 5, ground := Ground.phase }, { on := 6, ground := Ground.textOnly Departure.lateStores }, { on := 7, ground := Ground.textOnly Departure.lateStores }, { on := 8, ground := Ground.textOnly Departure.lateStores }, { on := 9, ground := Ground.textOnly Departure.lateStores }, { on := 10, ground := Ground.textOnly Departure.lateStores }, { on := 11, ground := Ground.textOnly Departure.lateStoresUnsure }, { on := 12, ground := Ground.phase }, { on := 13, ground := Ground.phase }], guard := none }) rfl (fun K hK => ?_) AllReadyH.nil)
              obtain ⟨z1, z2, z3, z4⟩ := blk2 hP4.out
              go_simp
              try go_wp2_with fail
              refine hK.out _ _ (below2 hdk4.out hlP _ _) (fun hHeld => ?_)
              clear hK K hHeld z1 z2 z3 z4
              try simp only [Act.put, List.setIfInBounds_toArray, List.set_cons_zero, List.set_cons_succ]
              obtain ⟨y5, hy⟩ : ∃ y, (y4.setCell ⟨y2.heap.size, 0, none⟩ (.int .i64 a0)).setCell ⟨y2.heap.size, 1, none⟩ (.int .i64 a1) = y := ⟨_, rfl⟩
              have hdk5 : Hid (Below wx.heap.size wx y5) := by rw [← hy]; exact hid (below2 hdk4.out hlP _ _)
              have hP5 : Hid (y5.heap[y2.heap.size]? = some (.cells #[.int .i64 a0, .int .i64 a1] 23 (0, 0))) := by rw [← hy]; exact hid (set2_block hP4.out _ _)
              have hQ5 : Hid (y5.heap[y3.heap.size]? = some (.cells #[.int .i64 0, .int .i64 0] 23 (0, 0))) := by rw [← hy, Below.heap_setCell _ _ _ _ (by show y3.heap.size ≠ y2.heap.size; omega), Below.heap_setCell _ _ _ _ (by show y3.heap.size ≠ y2.heap.size; omega)]; exact hQ4
              rw [hy]
              clear hy
              refine wpAnyH_ready (rs := [15]) (by kernel_rfl) (by simp) ?_
              refine (AllReadyH.cons (o := { dst := none, op := Op.store 23 (Operand.tmp 12) (Operand.tmp 40), type := 0, pos := "law.go:125", after := #[{ on := 13, ground := Ground.data }, { on := 11, ground := Ground.data }, { on := 14, ground := Ground.chain }, { on := 0, ground := Ground.phase }, { on := 1, ground := Ground.phase }, { on := 2, ground := Ground.phase }, { on := 3, ground := Ground.phase }, { on := 4, ground := Ground.phase }, { on := 5, ground := Ground.phase }, { on := 6, ground := Ground.phase }, { on := 7, ground := Ground.phase }, { on := 8, ground := Ground.phase }, { on := 9, ground := Ground.phase }, { on := 10, ground := Ground.phase }, { on := 11, ground := Ground.phase }, { on := 12, ground := Ground.phase }, { on := 13, ground := Ground.phase }, { on := 14, ground := Ground.phase }], guard := none }) rfl (fun K hK => ?_) AllReadyH.nil)
              obtain ⟨z1, z2, z3, z4⟩ := blk2 hQ5.out
              go_simp
              try go_wp2_with fail
              refine hK.out _ _ (below2 hdk5.out hlQ _ _) (fun hHeld => ?_)
              clear hK K hHeld z1 z2 z3 z4
              try simp only [Act.put, List.setIfInBounds_toArray, List.set_cons_zero, List.set_cons_succ]
              obtain ⟨y6, hy⟩ : ∃ y, (y5.setCell ⟨y3.heap.size, 0, none⟩ (.int .i64 b0)).setCell ⟨y3.heap.size, 1, none⟩ (.int .i64 b1) = y := ⟨_, rfl⟩
              have hdk6 : Hid (Below wx.heap.size wx y6) := by rw [← hy]; exact hid (below2 hdk5.out hlQ _ _)
              have hQ6 : Hid (y6.heap[y3.heap.size]? = some (.cells #[.int .i64 b0, .int .i64 b1] 23 (0, 0))) := by rw [← hy]; exact hid (set2_block hQ5.out _ _)
              have hP6 : Hid (y6.heap[y2.heap.size]? = some (.cells #[.int .i64 a0, .int .i64 a1] 23 (0, 0))) := by rw [← hy, Below.heap_setCell _ _ _ _ (by show y2.heap.size ≠ y3.heap.size; omega), Below.heap_setCell _ _ _ _ (by show y2.heap.size ≠ y3.heap.size; omega)]; exact hP5
              rw [hy]
              clear hy
              refine wpAnyH_done (by kernel_rfl) ?_ _
              refine NoPanic.normal ?_
              go_wp2_with fail
              go_meet
              case rel => exact ⟨_, _, a0, a1, b0, b1, rfl, rfl, hdk6.out, hP6.out, hQ6.out⟩
            · skip
              go_simp
              refine hK.out _ _ (hdk2.out.alloc hdk2.out.size _) (fun hHeld => ?_)
              clear hK K hHeld
              try simp only [Act.put, List.setIfInBounds_toArray, List.set_cons_zero, List.set_cons_succ]
              obtain ⟨y7, hy⟩ : ∃ y, y2.alloc (.cells #[.int .i64 0, .int .i64 0] 23) = y := ⟨_, rfl⟩
              have hdk7 : Hid (Below wx.heap.size wx y7) := by rw [← hy]; exact hid (hdk2.out.alloc hdk2.out.size _)
              have hQ7 : Hid (y7.heap[y2.heap.size]? = some (.cells #[.int .i64 0, .int .i64 0] 23 (0, 0))) := by rw [← hy]; exact hid (heap_alloc_new _ _)
              have hlQ : wx.heap.size ≤ y2.heap.size := hdk2.out.size
              rw [hy]
              clear hy
              refine wpAnyH_ready (rs := [12]) (by kernel_rfl) (by simp) ?_
              refine (AllReadyH.cons (o := { dst := some 11, op := Op.alloc 23, type := 0, pos := "law.go:125", after := #[], guard := none }) rfl (fun K hK => ?_) AllReadyH.nil)
              go_simp
              refine hK.out _ _ (hdk7.out.alloc hdk7.out.size _) (fun hHeld => ?_)
              clear hK K hHeld
              try simp only [Act.put, List.setIfInBounds_toArray, List.set_cons_zero, List.set_cons_succ]
              obtain ⟨y8, hy⟩ : ∃ y, y7.alloc (.cells #[.int .i64 0, .int .i64 0] 23) = y := ⟨_, rfl⟩
              have hdk8 : Hid (Below wx.heap.size wx y8) := by rw [← hy]; exact hid (hdk7.out.alloc hdk7.out.size _)
              have hP8 : Hid (y8.heap[y7.heap.size]? = some (.cells #[.int .i64 0, .int .i64 0] 23 (0, 0))) := by rw [← hy]; exact hid (heap_alloc_new _ _)
              have hlP : wx.heap.size ≤ y7.heap.size := hdk7.out.size
              have hQ8 : Hid (y8.heap[y2.heap.size]? = some (.cells #[.int .i64 0, .int .i64 0] 23 (0, 0))) := by rw [← hy]; exact hid (al_keep hQ7.out)
              have hPQ : y2.heap.size ≠ y7.heap.size := by have := (Array.getElem?_eq_some_iff.1 hQ7.out).1; omega
              rw [hy]
              clear hy
              refine wpAnyH_ready (rs := [14]) (by kernel_rfl) (by simp) ?_
              refine (AllReadyH.cons (o := { dst := none, op := Op.store 23 (Operand.tmp 11) (Operand.tmp 34), type := 0, pos := "law.go:125", after := #[{ on := 12, ground := Ground.data }, { on := 5, ground := Ground.data }, { on := 11, ground := Ground.chain }, { on := 0, ground := Ground.phase }, { on := 1, ground := Ground.phase }, { on := 2, ground := Ground.phase }, { on := 3, ground := Ground.phase }, { on := 4, ground := Ground.phase }, { on := 5, ground := Ground.phase }, { on := 6, ground := Ground.textOnly Departure.lateStores }, { on := 7, ground := Ground.textOnly Departure.lateStores }, { on := 8, ground := Ground.textOnly Departure.lateStores }, { on := 9, ground := Ground.textOnly Departure.lateStores }, { on := 10, ground := Ground.textOnly Departure.lateStores }, { on := 11, ground := Ground.textOnly Departure.lateStoresUnsure }, { on := 12, ground := Ground.phase }, { on := 13, ground := Ground.phase }], guard := none }) rfl (fun K hK => ?_) AllReadyH.nil)
              obtain ⟨z1, z2, z3, z4⟩ := blk2 hP8.out
              go_simp
              try go_wp2_with fail
              refine hK.out _ _ (below2 hdk8.out hlP _ _) (fun hHeld => ?_)
              clear hK K hHeld z1 z2 z3 z4
              try simp only [Act.put, List.setIfInBounds_toArray, List.set_cons_zero, List.set_cons_succ]
              obtain ⟨y9, hy⟩ : ∃ y, (y8.setCell ⟨y7.heap.size, 0, none⟩ (.int .i64 a0)).setCell ⟨y7.heap.size, 1, none⟩ (.int .i64 a1) = y := ⟨_, rfl⟩
              have hdk9 : Hid (Below wx.heap.size wx y9) := by rw [← hy]; exact hid (below2 hdk8.out hlP _ _)
              have hP9 : Hid (y9.heap[y7.heap.size]? = some (.cells #[.int .i64 a0, .int .i64 a1] 23 (0, 0))) := by rw [← hy]; exact hid (set2_block hP8.out _ _)
              have hQ9 : Hid (y9.heap[y2.heap.size]? = some (.cells #[.int .i64 0, .int .i64 0] 23 (0, 0))) := by rw [← hy, Below.heap_setCell _ _ _ _ (by show y2.heap.size ≠ y7.heap.size; omega), Below.heap_setCell _ _ _ _ (by show y2.heap.size ≠ y7.heap.size; omega)]; exact hQ8
              rw [hy]
              clear hy
              refine wpAnyH_ready (rs := [15]) (by kernel_rfl) (by simp) ?_
              refine (AllReadyH.cons (o := { dst := none, op := Op.store 23 (Operand.tmp 12) (Operand.tmp 40), type := 0, pos := "law.go:125", after := #[{ on := 13, ground := Ground.data }, { on := 11, ground := Ground.data }, { on := 14, ground := Ground.chain }, { on := 0, ground := Ground.phase }, { on := 1, ground := Ground.phase }, { on := 2, ground := Ground.phase }, { on := 3, ground := Ground.phase }, { on := 4, ground := Ground.phase }, { on := 5, ground := Ground.phase }, { on := 6, ground := Ground.phase }, { on := 7, ground := Ground.phase }, { on := 8, ground := Ground.phase }, { on := 9, ground := Ground.phase }, { on := 10, ground := Ground.phase }, { on := 11, ground := Ground.phase }, { on := 12, ground := Ground.phase }, { on := 13, ground := Ground.phase }, { on := 14, ground := Ground.phase }], guard := none }) rfl (fun K hK => ?_) AllReadyH.nil)
              obtain ⟨z1, z2, z3, z4⟩ := blk2 hQ9.out
              go_simp
              try go_wp2_with fail
              refine hK.out _ _ (below2 hdk9.out hlQ _ _) (fun hHeld => ?_)
              clear hK K hHeld z1 z2 z3 z4
              try simp only [Act.put, List.setIfInBounds_toArray, List.set_cons_zero, List.set_cons_succ]
              obtain ⟨y10, hy⟩ : ∃ y, (y9.setCell ⟨y2.heap.size, 0, none⟩ (.int .i64 b0)).setCell ⟨y2.heap.size, 1, none⟩ (.int .i64 b1) = y := ⟨_, rfl⟩
              have hdk10 : Hid (Below wx.heap.size wx y10) := by rw [← hy]; exact hid (below2 hdk9.out hlQ _ _)
              have hQ10 : Hid (y10.heap[y2.heap.size]? = some (.cells #[.int .i64 b0, .int .i64 b1] 23 (0, 0))) := by rw [← hy]; exact hid (set2_block hQ9.out _ _)
              have hP10 : Hid (y10.heap[y7.heap.size]? = some (.cells #[.int .i64 a0, .int .i64 a1] 23 (0, 0))) := by rw [← hy, Below.heap_setCell _ _ _ _ (by show y7.heap.size ≠ y2.heap.size; omega), Below.heap_setCell _ _ _ _ (by show y7.heap.size ≠ y2.heap.size; omega)]; exact hP9
              rw [hy]
              clear hy
              refine wpAnyH_done (by kernel_rfl) ?_ _
              refine NoPanic.normal ?_
              go_wp2_with fail
              go_meet
              case rel => exact ⟨_, _, a0, a1, b0, b1, rfl, rfl, hdk10.out, hP10.out, hQ10.out⟩
          · skip
            go_simp
            refine hK.out _ _ (hdk1.out.alloc hdk1.out.size _) (fun hHeld => ?_)
            clear hK K hHeld
            try simp only [Act.put, List.setIfInBounds_toArray, List.set_cons_zero, List.set_cons_succ]
            obtain ⟨y11, hy⟩ : ∃ y, y1.alloc (.cells #[.int .i64 0, .int .i64 0] 23) = y := ⟨_, rfl⟩
            have hdk11 : Hid (Below wx.heap.size wx y11) := by rw [← hy]; exact hid (hdk1.out.alloc hdk1.out.size _)
            have hP11 : Hid (y11.heap[y1.heap.size]? = some (.cells #[.int .i64 0, .int .i64 0] 23 (0, 0))) := by rw [← hy]; exact hid (heap_alloc_new _ _)
            have hlP : wx.heap.size ≤ y1.heap.size := hdk1.out.size
            rw [hy]
            clear hy
            refine wpAnyH_ready (rs := [11, 13]) (by kernel_rfl) (by simp) ?_
            refine (AllReadyH.cons (o := { dst := some 40, op := Op.call { callee := Callee.value (Operand.func 5), args := #[Operand.tmp 35, Operand.tmp 37, Operand.tmp 39], argTypes := #[29, 23, 4] }, type := 23, pos := "law.go:125", after := #[{ on := 6, ground := Ground.data }, { on := 8, ground := Ground.data }, { on := 10, ground := Ground.data }, { on := 5, ground := Ground.chain }], guard := none }) rfl (fun K hK => ?_) (AllReadyH.cons (o := { dst := some 12, op := Op.alloc 23, type := 0, pos := "law.go:125", after := #[], guard := none }) rfl (fun K hK => ?_) AllReadyH.nil))
            · skip
              go_simp
              refine (hcor.out _ _ _ y11 hdk11.out).mono ?_
              rintro x y12 ⟨b0, b1, rfl, b2⟩
              have hdk12 : Hid (Below wx.heap.size wx y12) := hid (hdk11.out.trans (b2.mono hdk11.out.size))
              have hP12 := hid ((b2.block _ (Array.getElem?_eq_some_iff.1 hP11.out).1).trans hP11.out)
              clear b2
              try go_wp2_with fail
              refine hK.out _ _ hdk12.out (fun hHeld => ?_)
              clear hK K hHeld
              try simp only [Act.put, List.setIfInBounds_toArray, List.set_cons_zero, List.set_cons_succ]
              refine wpAnyH_ready (rs := [13]) (by kernel_rfl) (by simp) ?_
              refine (AllReadyH.cons (o := { dst := some 12, op := Op.alloc 23, type := 0, pos := "law.go:125", after := #[], guard := none }) rfl (fun K hK => ?_) AllReadyH.nil)
              go_simp
              refine hK.out _ _ (hdk12.out.alloc hdk12.out.size _) (fun hHeld => ?_)
              clear hK K hHeld
              try simp only [Act.put, List.setIfInBounds_toArray, List.set_cons_zero, List.set_cons_succ]
              obtain ⟨y13, hy⟩ : ∃ y, y12.alloc (.cells #[.int .i64 0, .int .i64 0] 23) = y := ⟨_, rfl⟩
              have hdk13 : Hid (Below wx.heap.size wx y13) := by rw [← hy]; exact hid (hdk12.out.alloc hdk12.out.size _)
              have hQ13 : Hid (y13.heap[y12.heap.size]? = some (.cells #[.int .i64 0, .int .i64 0] 23 (0, 0))) := by rw [← hy]; exact hid (heap_alloc_new _ _)
              have hlQ : wx.heap.size ≤ y12.heap.size := hdk12.out.size
              have hP13 : Hid (y13.heap[y1.heap.size]? = some (.cells #[.int .i64 0, .int .i64 0] 23 (0, 0))) := by rw [← hy]; exact hid (al_keep hP12.out)
              have hPQ : y1.heap.size ≠ y12.heap.size := by have := (Array.getElem?_eq_some_iff.1 hP12.out).1; omega
              rw [hy]
              clear hy
              refine wpAnyH_ready (rs := [14]) (by kernel_rfl) (by simp) ?_
              refine (AllReadyH.cons (o := { dst := none, op := Op.store 23 (Operand.tmp 11) (Operand.tmp 34), type := 0, pos := "law.go:125", after := #[{ on := 12, ground := Ground.data }, { on := 5, ground := Ground.data }, { on := 11, ground := Ground.chain }, { on := 0, ground := Ground.phase }, { on := 1, ground := Ground.phase }, { on := 2, ground := Ground.phase }, { on := 3, ground := Ground.phase }, { on := 4, ground := Ground.phase }, { on := 5, ground := Ground.phase }, { on := 6, ground := Ground.textOnly Departure.lateStores }, { on := 7, ground := Ground.textOnly Departure.lateStores }, { on := 8, ground := Ground.textOnly Departure.lateStores }, { on := 9, ground := Ground.textOnly Departure.lateStores }, { on := 10, ground := Ground.textOnly Departure.lateStores }, { on := 11, ground := Ground.textOnly Departure.lateStoresUnsure }, { on := 12, ground := Ground.phase }, { on := 13, ground := Ground.phase }], guard := none }) rfl (fun K hK => ?_) AllReadyH.nil)
              obtain ⟨z1, z2, z3, z4⟩ := blk2 hP13.out
              go_simp
              try go_wp2_with fail
              refine hK.out _ _ (below2 hdk13.out hlP _ _) (fun hHeld => ?_)
              clear hK K hHeld z1 z2 z3 z4
              try simp only [Act.put, List.setIfInBounds_toArray, List.set_cons_zero, List.set_cons_succ]
              obtain ⟨y14, hy⟩ : ∃ y, (y13.setCell ⟨y1.heap.size, 0, none⟩ (.int .i64 a0)).setCell ⟨y1.heap.size, 1, none⟩ (.int .i64 a1) = y := ⟨_, rfl⟩
              have hdk14 : Hid (Below wx.heap.size wx y14) := by rw [← hy]; exact hid (below2 hdk13.out hlP _ _)
              have hP14 : Hid (y14.heap[y1.heap.size]? = some (.cells #[.int .i64 a0, .int .i64 a1] 23 (0, 0))) := by rw [← hy]; exact hid (set2_block hP13.out _ _)
              have hQ14 : Hid (y14.heap[y12.heap.size]? = some (.cells #[.int .i64 0, .int .i64 0] 23 (0, 0))) := by rw [← hy, Below.heap_setCell _ _ _ _ (by show y12.heap.size ≠ y1.heap.size; omega), Below.heap_setCell _ _ _ _ (by show y12.heap.size ≠ y1.heap.size; omega)]; exact hQ13
              rw [hy]
              clear hy
              refine wpAnyH_ready (rs := [15]) (by kernel_rfl) (by simp) ?_
              refine (AllReadyH.cons (o := { dst := none, op := Op.store 23 (Operand.tmp 12) (Operand.tmp 40), type := 0, pos := "law.go:125", after := #[{ on := 13, ground := Ground.data }, { on := 11, ground := Ground.data }, { on := 14, ground := Ground.chain }, { on := 0, ground := Ground.phase }, { on := 1, ground := Ground.phase }, { on := 2, ground := Ground.phase }, { on := 3, ground := Ground.phase }, { on := 4, ground := Ground.phase }, { on := 5, ground := Ground.phase }, { on := 6, ground := Ground.phase }, { on := 7, ground := Ground.phase }, { on := 8, ground := Ground.phase }, { on := 9, ground := Ground.phase }, { on := 10, ground := Ground.phase }, { on := 11, ground := Ground.phase }, { on := 12, ground := Ground.phase }, { on := 13, ground := Ground.phase }, { on := 14, ground := Ground.phase }], guard := none }) rfl (fun K hK => ?_) AllReadyH.nil)
              obtain ⟨z1, z2, z3, z4⟩ := blk2 hQ14.out
              go_simp
              try go_wp2_with fail
              refine hK.out _ _ (below2 hdk14.out hlQ _ _) (fun hHeld => ?_)
              clear hK K hHeld z1 z2 z3 z4
              try simp only [Act.put, List.setIfInBounds_toArray, List.set_cons_zero, List.set_cons_succ]
              obtain ⟨y15, hy⟩ : ∃ y, (y14.setCell ⟨y12.heap.size, 0, none⟩ (.int .i64 b0)).setCell ⟨y12.heap.size, 1, none⟩ (.int .i64 b1) = y := ⟨_, rfl⟩
              have hdk15 : Hid (Below wx.heap.size wx y15) := by rw [← hy]; exact hid (below2 hdk14.out hlQ _ _)
              have hQ15 : Hid (y15.heap[y12.heap.size]? = some (.cells #[.int .i64 b0, .int .i64 b1] 23 (0, 0))) := by rw [← hy]; exact hid (set2_block hQ14.out _ _)
              have hP15 : Hid (y15.heap[y1.heap.size]? = some (.cells #[.int .i64 a0, .int .i64 a1] 23 (0, 0))) := by rw [← hy, Below.heap_setCell _ _ _ _ (by show y1.heap.size ≠ y12.heap.size; omega), Below.heap_setCell _ _ _ _ (by show y1.heap.size ≠ y12.heap.size; omega)]; exact hP14
              rw [hy]
              clear hy
              refine wpAnyH_done (by kernel_rfl) ?_ _
              refine NoPanic.normal ?_
              go_wp2_with fail
              go_meet
              case rel => exact ⟨_, _, a0, a1, b0, b1, rfl, rfl, hdk15.out, hP15.out, hQ15.out⟩
            · skip
              go_simp
              refine hK.out _ _ (hdk11.out.alloc hdk11.out.size _) (fun hHeld => ?_)
              clear hK K hHeld
              try simp only [Act.put, List.setIfInBounds_toArray, List.set_cons_zero, List.set_cons_succ]
              obtain ⟨y16, hy⟩ : ∃ y, y11.alloc (.cells #[.int .i64 0, .int .i64 0] 23) = y := ⟨_, rfl⟩
              have hdk16 : Hid (Below wx.heap.size wx y16) := by rw [← hy]; exact hid (hdk11.out.alloc hdk11.out.size _)
              have hQ16 : Hid (y16.heap[y11.heap.size]? = some (.cells #[.int .i64 0, .int .i64 0] 23 (0, 0))) := by rw [← hy]; exact hid (heap_alloc_new _ _)
              have hlQ : wx.heap.size ≤ y11.heap.size := hdk11.out.size
              have hP16 : Hid (y16.heap[y1.heap.size]? = some (.cells #[.int .i64 0, .int .i64 0] 23 (0, 0))) := by rw [← hy]; exact hid (al_keep hP11.out)
              have hPQ : y1.heap.size ≠ y11.heap.size := by have := (Array.getElem?_eq_some_iff.1 hP11.out).1; omega
              rw [hy]
              clear hy
              refine wpAnyH_ready (rs := [11]) (by kernel_rfl) (by simp) ?_
              refine (AllReadyH.cons (o := { dst := some 40, op := Op.call { callee := Callee.value (Operand.func 5), args := #[Operand.tmp 35, Operand.tmp 37, Operand.tmp 39], argTypes := #[29, 23, 4] }, type := 23, pos := "law.go:125", after := #[{ on := 6, ground := Ground.data }, { on := 8, ground := Ground.data }, { on := 10, ground := Ground.data }, { on := 5, ground := Ground.chain }], guard := none }) rfl (fun K hK => ?_) AllReadyH.nil)
              go_simp
              refine (hcor.out _ _ _ y16 hdk16.out).mono ?_
              rintro x y17 ⟨b0, b1, rfl, b2⟩
              have hdk17 : Hid (Below wx.heap.size wx y17) := hid (hdk16.out.trans (b2.mono hdk16.out.size))
              have hP17 := hid ((b2.block _ (Array.getElem?_eq_some_iff.1 hP16.out).1).trans hP16.out)
              have hQ17 := hid ((b2.block _ (Array.getElem?_eq_some_iff.1 hQ16.out).1).trans hQ16.out)
              clear b2
              try go_wp2_with fail
              refine hK.out _ _ hdk17.out (fun hHeld => ?_)
              clear hK K hHeld
              try simp only [Act.put, List.setIfInBounds_toArray, List.set_cons_zero, List.set_cons_succ]
              refine wpAnyH_ready (rs := [14]) (by kernel_rfl) (by simp) ?_
              refine (AllReadyH.cons (o := { dst := none, op := Op.store 23 (Operand.tmp 11) (Operand.tmp 34), type := 0, pos := "law.go:125", after := #[{ on := 12, ground := Ground.data }, { on := 5, ground := Ground.data }, { on := 11, ground := Ground.chain }, { on := 0, ground := Ground.phase }, { on := 1, ground := Ground.phase }, { on := 2, ground := Ground.phase }, { on := 3, ground := Ground.phase }, { on := 4, ground := Ground.phase }, { on := 5, ground := Ground.phase }, { on := 6, ground := Ground.textOnly Departure.lateStores }, { on := 7, ground := Ground.textOnly Departure.lateStores }, { on := 8, ground := Ground.textOnly Departure.lateStores }, { on := 9, ground := Ground.textOnly Departure.lateStores }, { on := 10, ground := Ground.textOnly Departure.lateStores }, { on := 11, ground := Ground.textOnly Departure.lateStoresUnsure }, { on := 12, ground := Ground.phase }, { on := 13, ground := Ground.phase }], guard := none }) rfl (fun K hK => ?_) AllReadyH.nil)
              obtain ⟨z1, z2, z3, z4⟩ := blk2 hP17.out
              go_simp
              try go_wp2_with fail
              refine hK.out _ _ (below2 hdk17.out hlP _ _) (fun hHeld => ?_)
              clear hK K hHeld z1 z2 z3 z4
              try simp only [Act.put, List.setIfInBounds_toArray, List.set_cons_zero, List.set_cons_succ]
              obtain ⟨y18, hy⟩ : ∃ y, (y17.setCell ⟨y1.heap.size, 0, none⟩ (.int .i64 a0)).setCell ⟨y1.heap.size, 1, none⟩ (.int .i64 a1) = y := ⟨_, rfl⟩
              have hdk18 : Hid (Below wx.heap.size wx y18) := by rw [← hy]; exact hid (below2 hdk17.out hlP _ _)
              have hP18 : Hid (y18.heap[y1.heap.size]? = some (.cells #[.int .i64 a0, .int .i64 a1] 23 (0, 0))) := by rw [← hy]; exact hid (set2_block hP17.out _ _)
              have hQ18 : Hid (y18.heap[y11.heap.size]? = some (.cells #[.int .i64 0, .int .i64 0] 23 (0, 0))) := by rw [← hy, Below.heap_setCell _ _ _ _ (by show y11.heap.size ≠ y1.heap.size; omega), Below.heap_setCell _ _ _ _ (by show y11.heap.size ≠ y1.heap.size; omega)]; exact hQ17
              rw [hy]
              clear hy
              refine wpAnyH_ready (rs := [15]) (by kernel_rfl) (by simp) ?_
              refine (AllReadyH.cons (o := { dst := none, op := Op.store 23 (Operand.tmp 12) (Operand.tmp 40), type := 0, pos := "law.go:125", after := #[{ on := 13, ground := Ground.data }, { on := 11, ground := Ground.data }, { on := 14, ground := Ground.chain }, { on := 0, ground := Ground.phase }, { on := 1, ground := Ground.phase }, { on := 2, ground := Ground.phase }, { on := 3, ground := Ground.phase }, { on := 4, ground := Ground.phase }, { on := 5, ground := Ground.phase }, { on := 6, ground := Ground.phase }, { on := 7, ground := Ground.phase }, { on := 8, ground := Ground.phase }, { on := 9, ground := Ground.phase }, { on := 10, ground := Ground.phase }, { on := 11, ground := Ground.phase }, { on := 12, ground := Ground.phase }, { on := 13, ground := Ground.phase }, { on := 14, ground := Ground.phase }], guard := none }) rfl (fun K hK => ?_) AllReadyH.nil)
              obtain ⟨z1, z2, z3, z4⟩ := blk2 hQ18.out
              go_simp
              try go_wp2_with fail
              refine hK.out _ _ (below2 hdk18.out hlQ _ _) (fun hHeld => ?_)
              clear hK K hHeld z1 z2 z3 z4
              try simp only [Act.put, List.setIfInBounds_toArray, List.set_cons_zero, List.set_cons_succ]
              obtain ⟨y19, hy⟩ : ∃ y, (y18.setCell ⟨y11.heap.size, 0, none⟩ (.int .i64 b0)).setCell ⟨y11.heap.size, 1, none⟩ (.int .i64 b1) = y := ⟨_, rfl⟩
              have hdk19 : Hid (Below wx.heap.size wx y19) := by rw [← hy]; exact hid (below2 hdk18.out hlQ _ _)
              have hQ19 : Hid (y19.heap[y11.heap.size]? = some (.cells #[.int .i64 b0, .int .i64 b1] 23 (0, 0))) := by rw [← hy]; exact hid (set2_block hQ18.out _ _)
              have hP19 : Hid (y19.heap[y1.heap.size]? = some (.cells #[.int .i64 a0, .int .i64 a1] 23 (0, 0))) := by rw [← hy, Below.heap_setCell _ _ _ _ (by show y1.heap.size ≠ y11.heap.size; omega), Below.heap_setCell _ _ _ _ (by show y1.heap.size ≠ y11.heap.size; omega)]; exact hP18
              rw [hy]
              clear hy
              refine wpAnyH_done (by kernel_rfl) ?_ _
              refine NoPanic.normal ?_
              go_wp2_with fail
              go_meet
              case rel => exact ⟨_, _, a0, a1, b0, b1, rfl, rfl, hdk19.out, hP19.out, hQ19.out⟩
          · skip
            go_simp
            refine hK.out _ _ (hdk1.out.alloc hdk1.out.size _) (fun hHeld => ?_)
            clear hK K hHeld
            try simp only [Act.put, List.setIfInBounds_toArray, List.set_cons_zero, List.set_cons_succ]
            obtain ⟨y20, hy⟩ : ∃ y, y1.alloc (.cells #[.int .i64 0, .int .i64 0] 23) = y := ⟨_, rfl⟩
            have hdk20 : Hid (Below wx.heap.size wx y20) := by rw [← hy]; exact hid (hdk1.out.alloc hdk1.out.size _)
            have hQ20 : Hid (y20.heap[y1.heap.size]? = some (.cells #[.int .i64 0, .int .i64 0] 23 (0, 0))) := by rw [← hy]; exact hid (heap_alloc_new _ _)
            have hlQ : wx.heap.size ≤ y1.heap.size := hdk1.out.size
            rw [hy]
            clear hy
            refine wpAnyH_ready (rs := [11, 12]) (by kernel_rfl) (by simp) ?_
            refine (AllReadyH.cons (o := { dst := some 40, op := Op.call { callee := Callee.value (Operand.func 5), args := #[Operand.tmp 35, Operand.tmp 37, Operand.tmp 39], argTypes := #[29, 23, 4] }, type := 23, pos := "law.go:125", after := #[{ on := 6, ground := Ground.data }, { on := 8, ground := Ground.data }, { on := 10, ground := Ground.data }, { on := 5, ground := Ground.chain }], guard := none }) rfl (fun K hK => ?_) (AllReadyH.cons (o := { dst := some 11, op := Op.alloc 23, type := 0, pos := "law.go:125", after := #[], guard := none }) rfl (fun K hK => ?_) AllReadyH.nil))
            · skip
              go_simp
              refine (hcor.out _ _ _ y20 hdk20.out).mono ?_
              rintro x y21 ⟨b0, b1, rfl, b2⟩
              have hdk21 : Hid (Below wx.heap.size wx y21) := hid (hdk20.out.trans (b2.mono hdk20.out.size))
              have hQ21 := hid ((b2.block _ (Array.getElem?_eq_some_iff.1 hQ20.out).1).trans hQ20.out)
              clear b2
              try go_wp2_with fail
              refine hK.out _ _ hdk21.out (fun hHeld => ?_)
              clear hK K hHeld
              try simp only [Act.put, List.setIfInBounds_toArray, List.set_cons_zero, List.set_cons_succ]
              refine wpAnyH_ready (rs := [12]) (by kernel_rfl) (by simp) ?_
              refine (AllReadyH.cons (o := { dst := some 11, op := Op.alloc 23, type := 0, pos := "law.go:125", after := #[], guard := none }) rfl (fun K hK => ?_) AllReadyH.nil)
              go_simp
              refine hK.out _ _ (hdk21.out.alloc hdk21.out.size _) (fun hHeld => ?_)
              clear hK K hHeld
              try simp only [Act.put, List.setIfInBounds_toArray, List.set_cons_zero, List.set_cons_succ]
              obtain ⟨y22, hy⟩ : ∃ y, y21.alloc (.cells #[.int .i64 0, .int .i64 0] 23) = y := ⟨_, rfl⟩
              have hdk22 : Hid (Below wx.heap.size wx y22) := by rw [← hy]; exact hid (hdk21.out.alloc hdk21.out.size _)
              have hP22 : Hid (y22.heap[y21.heap.size]? = some (.cells #[.int .i64 0, .int .i64 0] 23 (0, 0))) := by rw [← hy]; exact hid (heap_alloc_new _ _)
              have hlP : wx.heap.size ≤ y21.heap.size := hdk21.out.size
              have hQ22 : Hid (y22.heap[y1.heap.size]? = some (.cells #[.int .i64 0, .int .i64 0] 23 (0, 0))) := by rw [← hy]; exact hid (al_keep hQ21.out)
              have hPQ : y1.heap.size ≠ y21.heap.size := by have := (Array.getElem?_eq_some_iff.1 hQ21.out).1; omega
              rw [hy]
              clear hy
              refine wpAnyH_ready (rs := [14]) (by kernel_rfl) (by simp) ?_
              refine (AllReadyH.cons (o := { dst := none, op := Op.store 23 (Operand.tmp 11) (Operand.tmp 34), type := 0, pos := "law.go:125", after := #[{ on := 12, ground := Ground.data }, { on := 5, ground := Ground.data }, { on := 11, ground := Ground.chain }, { on := 0, ground := Ground.phase }, { on := 1, ground := Ground.phase }, { on := 2, ground := Ground.phase }, { on := 3, ground := Ground.phase }, { on := 4, ground := Ground.phase }, { on := 5, ground := Ground.phase }, { on := 6, ground := Ground.textOnly Departure.lateStores }, { on := 7, ground := Ground.textOnly Departure.lateStores }, { on := 8, ground := Ground.textOnly Departure.lateStores }, { on := 9, ground := Ground.textOnly Departure.lateStores }, { on := 10, ground := Ground.textOnly Departure.lateStores }, { on := 11, ground := Ground.textOnly Departure.lateStoresUnsure }, { on := 12, ground := Ground.phase }, { on := 13, ground := Ground.phase }], guard := none }) rfl (fun K hK => ?_) AllReadyH.nil)
              obtain ⟨z1, z2, z3, z4⟩ := blk2 hP22.out
              go_simp
              try go_wp2_with fail
              refine hK.out _ _ (below2 hdk22.out hlP _ _) (fun hHeld => ?_)
              clear hK K hHeld z1 z2 z3 z4
              try simp only [Act.put, List.setIfInBounds_toArray, List.set_cons_zero, List.set_cons_succ]
              obtain ⟨y23, hy⟩ : ∃ y, (y22.setCell ⟨y21.heap.size, 0, none⟩ (.int .i64 a0)).setCell ⟨y21.heap.size, 1, none⟩ (.int .i64 a1) = y := ⟨_, rfl⟩
              have hdk23 : Hid (Below wx.heap.size wx y23) := by rw [← hy]; exact hid (below2 hdk22.out hlP _ _)
              have hP23 : Hid (y23.heap[y21.heap.size]? = some (.cells #[.int .i64 a0, .int .i64 a1] 23 (0, 0))) := by rw [← hy]; exact hid (set2_block hP22.out _ _)
              have hQ23 : Hid (y23.heap[y1.heap.size]? = some (.cells #[.int .i64 0, .int .i64 0] 23 (0, 0))) := by rw [← hy, Below.heap_setCell _ _ _ _ (by show y1.heap.size ≠ y21.heap.size; omega), Below.heap_setCell _ _ _ _ (by show y1.heap.size ≠ y21.heap.size; omega)]; exact hQ22
              rw [hy]
              clear hy
              refine wpAnyH_ready (rs := [15]) (by kernel_rfl) (by simp) ?_
              refine (AllReadyH.cons (o := { dst := none, op := Op.store 23 (Operand.tmp 12) (Operand.tmp 40), type := 0, pos := "law.go:125", after := #[{ on := 13, ground := Ground.data }, { on := 11, ground := Ground.data }, { on := 14, ground := Ground.chain }, { on := 0, ground := Ground.phase }, { on := 1, ground := Ground.phase }, { on := 2, ground := Ground.phase }, { on := 3, ground := Ground.phase }, { on := 4, ground := Ground.phase }, { on := 5, ground := Ground.phase }, { on := 6, ground := Ground.phase }, { on := 7, ground := Ground.phase }, { on := 8, ground := Ground.phase }, { on := 9, ground := Ground.phase }, { on := 10, ground := Ground.phase }, { on := 11, ground := Ground.phase }, { on := 12, ground := Ground.phase }, { on := 13, ground := Ground.phase }, { on := 14, ground := Ground.phase }], guard := none }) rfl (fun K hK => ?_) AllReadyH.nil)
              obtain ⟨z1, z2, z3, z4⟩ := blk2 hQ23.out
              go_simp
              try go_wp2_with fail
              refine hK.out _ _ (below2 hdk23.out hlQ _ _) (fun hHeld => ?_)
              clear hK K hHeld z1 z2 z3 z4
              try simp only [Act.put, List.setIfInBounds_toArray, List.set_cons_zero, List.set_cons_succ]
              obtain ⟨y24, hy⟩ : ∃ y, (y23.setCell ⟨y1.heap.size, 0, none⟩ (.int .i64 b0)).setCell ⟨y1.heap.size, 1, none⟩ (.int .i64 b1) = y := ⟨_, rfl⟩
              have hdk24 : Hid (Below wx.heap.size wx y24) := by rw [← hy]; exact hid (below2 hdk23.out hlQ _ _)
              have hQ24 : Hid (y24.heap[y1.heap.size]? = some (.cells #[.int .i64 b0, .int .i64 b1] 23 (0, 0))) := by rw [← hy]; exact hid (set2_block hQ23.out _ _)
              have hP24 : Hid (y24.heap[y21.heap.size]? = some (.cells #[.int .i64 a0, .int .i64 a1] 23 (0, 0))) := by rw [← hy, Below.heap_setCell _ _ _ _ (by show y21.heap.size ≠ y1.heap.size; omega), Below.heap_setCell _ _ _ _ (by show y21.heap.size ≠ y1.heap.size; omega)]; exact hP23
              rw [hy]
              clear hy
              refine wpAnyH_done (by kernel_rfl) ?_ _
              refine NoPanic.normal ?_
              go_wp2_with fail
              go_meet
              case rel => exact ⟨_, _, a0, a1, b0, b1, rfl, rfl, hdk24.out, hP24.out, hQ24.out⟩
            · skip
              go_simp
              refine hK.out _ _ (hdk20.out.alloc hdk20.out.size _) (fun hHeld => ?_)
              clear hK K hHeld
              try simp only [Act.put, List.setIfInBounds_toArray, List.set_cons_zero, List.set_cons_succ]
              obtain ⟨y25, hy⟩ : ∃ y, y20.alloc (.cells #[.int .i64 0, .int .i64 0] 23) = y := ⟨_, rfl⟩
              have hdk25 : Hid (Below wx.heap.size wx y25) := by rw [← hy]; exact hid (hdk20.out.alloc hdk20.out.size _)
              have hP25 : Hid (y25.heap[y20.heap.size]? = some (.cells #[.int .i64 0, .int .i64 0] 23 (0, 0))) := by rw [← hy]; exact hid (heap_alloc_new _ _)
              have hlP : wx.heap.size ≤ y20.heap.size := hdk20.out.size
              have hQ25 : Hid (y25.heap[y1.heap.size]? = some (.cells #[.int .i64 0, .int .i64 0] 23 (0, 0))) := by rw [← hy]; exact hid (al_keep hQ20.out)
              have hPQ : y1.heap.size ≠ y20.heap.size := by have := (Array.getElem?_eq_some_iff.1 hQ20.out).1; omega
              rw [hy]
              clear hy
              refine wpAnyH_ready (rs := [11]) (by kernel_rfl) (by simp) ?_
              refine (AllReadyH.cons (o := { dst := some 40, op := Op.call { callee := Callee.value (Operand.func 5), args := #[Operand.tmp 35, Operand.tmp 37, Operand.tmp 39], argTypes := #[29, 23, 4] }, type := 23, pos := "law.go:125", after := #[{ on := 6, ground := Ground.data }, { on := 8, ground := Ground.data }, { on := 10, ground := Ground.data }, { on := 5, ground := Ground.chain }], guard := none }) rfl (fun K hK => ?_) AllReadyH.nil)
              go_simp
              refine (hcor.out _ _ _ y25 hdk25.out).mono ?_
              rintro x y26 ⟨b0, b1, rfl, b2⟩
              have hdk26 : Hid (Below wx.heap.size wx y26) := hid (hdk25.out.trans (b2.mono hdk25.out.size))
              have hP26 := hid ((b2.block _ (Array.getElem?_eq_some_iff.1 hP25.out).1).trans hP25.out)
              have hQ26 := hid ((b2.block _ (Array.getElem?_eq_some_iff.1 hQ25.out).1).trans hQ25.out)
              clear b2
              try go_wp2_with fail
              refine hK.out _ _ hdk26.out (fun hHeld => ?_)
              clear hK K hHeld
              try simp only [Act.put, List.setIfInBounds_toArray, List.set_cons_zero, List.set_cons_succ]
              refine wpAnyH_ready (rs := [14]) (by kernel_rfl) (by simp) ?_
              refine (AllReadyH.cons (o := { dst := none, op := Op.store 23 (Operand.tmp 11) (Operand.tmp 34), type := 0, pos := "law.go:125", after := #[{ on := 12, ground := Ground.data }, { on := 5, ground := Ground.data }, { on := 11, ground := Ground.chain }, { on := 0, ground := Ground.phase }, { on := 1, ground := Ground.phase }, { on := 2, ground := Ground.phase }, { on := 3, ground := Ground.phase }, { on := 4, ground := Ground.phase }, { on := 5, ground := Ground.phase }, { on := 6, ground := Ground.textOnly Departure.lateStores }, { on := 7, ground := Ground.textOnly Departure.lateStores }, { on := 8, ground := Ground.textOnly Departure.lateStores }, { on := 9, ground := Ground.textOnly Departure.lateStores }, { on := 10, ground := Ground.textOnly Departure.lateStores }, { on := 11, ground := Ground.textOnly Departure.lateStoresUnsure }, { on := 12, ground := Ground.phase }, { on := 13, ground := Ground.phase }], guard := none }) rfl (fun K hK => ?_) AllReadyH.nil)
              obtain ⟨z1, z2, z3, z4⟩ := blk2 hP26.out
              go_simp
              try go_wp2_with fail
              refine hK.out _ _ (below2 hdk26.out hlP _ _) (fun hHeld => ?_)
              clear hK K hHeld z1 z2 z3 z4
              try simp only [Act.put, List.setIfInBounds_toArray, List.set_cons_zero, List.set_cons_succ]
              obtain ⟨y27, hy⟩ : ∃ y, (y26.setCell ⟨y20.heap.size, 0, none⟩ (.int .i64 a0)).setCell ⟨y20.heap.size, 1, none⟩ (.int .i64 a1) = y := ⟨_, rfl⟩
              have hdk27 : Hid (Below wx.heap.size wx y27) := by rw [← hy]; exact hid (below2 hdk26.out hlP _ _)
              have hP27 : Hid (y27.heap[y20.heap.size]? = some (.cells #[.int .i64 a0, .int .i64 a1] 23 (0, 0))) := by rw [← hy]; exact hid (set2_block hP26.out _ _)
              have hQ27 : Hid (y27.heap[y1.heap.size]? = some (.cells #[.int .i64 0, .int .i64 0] 23 (0, 0))) := by rw [← hy, Below.heap_setCell _ _ _ _ (by show y1.heap.size ≠ y20.heap.size; omega), Below.heap_setCell _ _ _ _ (by show y1.heap.size ≠ y20.heap.size; omega)]; exact hQ26
              rw [hy]
              clear hy
              refine wpAnyH_ready (rs := [15]) (by kernel_rfl) (by simp) ?_
              refine (AllReadyH.cons (o := { dst := none, op := Op.store 23 (Operand.tmp 12) (Operand.tmp 40), type := 0, pos := "law.go:125", after := #[{ on := 13, ground := Ground.data }, { on := 11, ground := Ground.data }, { on := 14, ground := Ground.chain }, { on := 0, ground := Ground.phase }, { on := 1, ground := Ground.phase }, { on := 2, ground := Ground.phase }, { on := 3, ground := Ground.phase }, { on := 4, ground := Ground.phase }, { on := 5, ground := Ground.phase }, { on := 6, ground := Ground.phase }, { on := 7, ground := Ground.phase }, { on := 8, ground := Ground.phase }, { on := 9, ground := Ground.phase }, { on := 10, ground := Ground.phase }, { on := 11, ground := Ground.phase }, { on := 12, ground := Ground.phase }, { on := 13, ground := Ground.phase }, { on := 14, ground := Ground.phase }], guard := none }) rfl (fun K hK => ?_) AllReadyH.nil)
              obtain ⟨z1, z2, z3, z4⟩ := blk2 hQ27.out
              go_simp
              try go_wp2_with fail
              refine hK.out _ _ (below2 hdk27.out hlQ _ _) (fun hHeld => ?_)
              clear hK K hHeld z1 z2 z3 z4
              try simp only [Act.put, List.setIfInBounds_toArray, List.set_cons_zero, List.set_cons_succ]
              obtain ⟨y28, hy⟩ : ∃ y, (y27.setCell ⟨y1.heap.size, 0, none⟩ (.int .i64 b0)).setCell ⟨y1.heap.size, 1, none⟩ (.int .i64 b1) = y := ⟨_, rfl⟩
              have hdk28 : Hid (Below wx.heap.size wx y28) := by rw [← hy]; exact hid (below2 hdk27.out hlQ _ _)
              have hQ28 : Hid (y28.heap[y1.heap.size]? = some (.cells #[.int .i64 b0, .int .i64 b1] 23 (0, 0))) := by rw [← hy]; exact hid (set2_block hQ27.out _ _)
              have hP28 : Hid (y28.heap[y20.heap.size]? = some (.cells #[.int .i64 a0, .int .i64 a1] 23 (0, 0))) := by rw [← hy, Below.heap_setCell _ _ _ _ (by show y20.heap.size ≠ y1.heap.size; omega), Below.heap_setCell _ _ _ _ (by show y20.heap.size ≠ y1.heap.size; omega)]; exact hP27
              rw [hy]
              clear hy
              refine wpAnyH_done (by kernel_rfl) ?_ _
              refine NoPanic.normal ?_
              go_wp2_with fail
              go_meet
              case rel => exact ⟨_, _, a0, a1, b0, b1, rfl, rfl, hdk28.out, hP28.out, hQ28.out⟩
        · skip
          go_simp
          refine hK.out _ _ (hdk0.out.alloc hdk0.out.size _) (fun hHeld => ?_)
          clear hK K hHeld
          try simp only [Act.put, List.setIfInBounds_toArray, List.set_cons_zero, List.set_cons_succ]
          obtain ⟨y29, hy⟩ : ∃ y, y0.alloc (.cells #[.int .i64 0, .int .i64 0] 23) = y := ⟨_, rfl⟩
          have hdk29 : Hid (Below wx.heap.size wx y29) := by rw [← hy]; exact hid (hdk0.out.alloc hdk0.out.size _)
          have hP29 : Hid (y29.heap[y0.heap.size]? = some (.cells #[.int .i64 0, .int .i64 0] 23 (0, 0))) := by rw [← hy]; exact hid (heap_alloc_new _ _)
          have hlP : wx.heap.size ≤ y0.heap.size := hdk0.out.size
          rw [hy]
          clear hy
          refine wpAnyH_ready (rs := [5, 13]) (by kernel_rfl) (by simp) ?_
          refine (AllReadyH.cons (o := { dst := some 34, op := Op.call { callee := Callee.value (Operand.func 5), args := #[Operand.tmp 29, Operand.tmp 31, Operand.tmp 33], argTypes := #[29, 23, 4] }, type := 23, pos := "law.go:125", after := #[{ on := 0, ground := Ground.data }, { on := 2, ground := Ground.data }, { on := 4, ground := Ground.data }], guard := none }) rfl (fun K hK => ?_) (AllReadyH.cons (o := { dst := some 12, op := Op.alloc 23, type := 0, pos := "law.go:125", after := #[], guard := none }) rfl (fun K hK => ?_) AllReadyH.nil))
          · skip
            go_simp
            refine (hcor.out _ _ _ y29 hdk29.out).mono ?_
            rintro x y30 ⟨a0, a1, rfl, b2⟩
            have hdk30 : Hid (Below wx.heap.size wx y30) := hid (hdk29.out.trans (b2.mono hdk29.out.size))
            have hP30 := hid ((b2.block _ (Array.getElem?_eq_some_iff.1 hP29.out).1).trans hP29.out)
            clear b2
            try go_wp2_with fail
            refine hK.out _ _ hdk30.out (fun hHeld => ?_)
            clear hK K hHeld
            try simp only [Act.put, List.setIfInBounds_toArray, List.set_cons_zero, List.set_cons_succ]
            refine wpAnyH_ready (rs := [11, 13]) (by kernel_rfl) (by simp) ?_
            refine (AllReadyH.cons (o := { dst := some 40, op := Op.call { callee := Callee.value (Operand.func 5), args := #[Operand.tmp 35, Operand.tmp 37, Operand.tmp 39], argTypes := #[29, 23, 4] }, type := 23, pos := "law.go:125", after := #[{ on := 6, ground := Ground.data }, { on := 8, ground := Ground.data }, { on := 10, ground := Ground.data }, { on := 5, ground := Ground.chain }], guard := none }) rfl (fun K hK => ?_) (AllReadyH.cons (o := { dst := some 12, op := Op.alloc 23, type := 0, pos := "law.go:125", after := #[], guard := none }) rfl (fun K hK => ?_) AllReadyH.nil))
            · skip
              go_simp
              refine (hcor.out _ _ _ y30 hdk30.out).mono ?_
              rintro x y31 ⟨b0, b1, rfl, b2⟩
              have hdk31 : Hid (Below wx.heap.size wx y31) := hid (hdk30.out.trans (b2.mono hdk30.out.size))
              have hP31 := hid ((b2.block _ (Array.getElem?_eq_some_iff.1 hP30.out).1).trans hP30.out)
              clear b2
              try go_wp2_with fail
              refine hK.out _ _ hdk31.out (fun hHeld => ?_)
              clear hK K hHeld
              try simp only [Act.put, List.setIfInBounds_toArray, List.set_cons_zero, List.set_cons_succ]
              refine wpAnyH_ready (rs := [13]) (by kernel_rfl) (by simp) ?_
              refine (AllReadyH.cons (o := { dst := some 12, op := Op.alloc 23, type := 0, pos := "law.go:125", after := #[], guard := none }) rfl (fun K hK => ?_) AllReadyH.nil)
              go_simp
              refine hK.out _ _ (hdk31.out.alloc hdk31.out.size _) (fun hHeld => ?_)
              clear hK K hHeld
              try simp only [Act.put, List.setIfInBounds_toArray, List.set_cons_zero, List.set_cons_succ]
              obtain ⟨y32, hy⟩ : ∃ y, y31.alloc (.cells #[.int .i64 0, .int .i64 0] 23) = y := ⟨_, rfl⟩
              have hdk32 : Hid (Below wx.heap.size wx y32) := by rw [← hy]; exact hid (hdk31.out.alloc hdk31.out.size _)
              have hQ32 : Hid (y32.heap[y31.heap.size]? = some (.cells #[.int .i64 0, .int .i64 0] 23 (0, 0))) := by rw [← hy]; exact hid (heap_alloc_new _ _)
              have hlQ : wx.heap.size ≤ y31.heap.size := hdk31.out.size
              have hP32 : Hid (y32.heap[y0.heap.size]? = some (.cells #[.int .i64 0, .int .i64 0] 23 (0, 0))) := by rw [← hy]; exact hid (al_keep hP31.out)
              have hPQ : y0.heap.size ≠ y31.heap.size := by have := (Array.getElem?_eq_some_iff.1 hP31.out).1; omega
              rw [hy]
              clear hy
              refine wpAnyH_ready (rs := [14]) (by kernel_rfl) (by simp) ?_
              refine (AllReadyH.cons (o := { dst := none, op := Op.store 23 (Operand.tmp 11) (Operand.tmp 34), type := 0, pos := "law.go:125", after := #[{ on := 12, ground := Ground.data }, { on := 5, ground := Ground.data }, { on := 11, ground := Ground.chain }, { on := 0, ground := Ground.phase }, { on := 1, ground := Ground.phase }, { on := 2, ground := Ground.phase }, { on := 3, ground := Ground.phase }, { on := 4, ground := Ground.phase }, { on := 5, ground := Ground.phase }, { on := 6, ground := Ground.textOnly Departure.lateStores }, { on := 7, ground := Ground.textOnly Departure.lateStores }, { on := 8, ground := Ground.textOnly Departure.lateStores }, { on := 9, ground := Ground.textOnly Departure.lateStores }, { on := 10, ground := Ground.textOnly Departure.lateStores }, { on := 11, ground := Ground.textOnly Departure.lateStoresUnsure }, { on := 12, ground := Ground.phase }, { on := 13, ground := Ground.phase }], guard := none }) rfl (fun K hK => ?_) AllReadyH.nil)
              obtain ⟨z1, z2, z3, z4⟩ := blk2 hP32.out
              go_simp
              try go_wp2_with fail
              refine hK.out _ _ (below2 hdk32.out hlP _ _) (fun hHeld => ?_)
              clear hK K hHeld z1 z2 z3 z4
              try simp only [Act.put, List.setIfInBounds_toArray, List.set_cons_zero, List.set_cons_succ]
              obtain ⟨y33, hy⟩ : ∃ y, (y32.setCell ⟨y0.heap.size, 0, none⟩ (.int .i64 a0)).setCell ⟨y0.heap.size, 1, none⟩ (.int .i64 a1) = y := ⟨_, rfl⟩
              have hdk33 : Hid (Below wx.heap.size wx y33) := by rw [← hy]; exact hid (below2 hdk32.out hlP _ _)
              have hP33 : Hid (y33.heap[y0.heap.size]? = some (.cells #[.int .i64 a0, .int .i64 a1] 23 (0, 0))) := by rw [← hy]; exact hid (set2_block hP32.out _ _)
              have hQ33 : Hid (y33.heap[y31.heap.size]? = some (.cells #[.int .i64 0, .int .i64 0] 23 (0, 0))) := by rw [← hy, Below.heap_setCell _ _ _ _ (by show y31.heap.size ≠ y0.heap.size; omega), Below.heap_setCell _ _ _ _ (by show y31.heap.size ≠ y0.heap.size; omega)]; exact hQ32
              rw [hy]
              clear hy
              refine wpAnyH_ready (rs := [15]) (by kernel_rfl) (by simp) ?_
              refine (AllReadyH.cons (o := { dst := none, op := Op.store 23 (Operand.tmp 12) (Operand.tmp 40), type := 0, pos := "law.go:125", after := #[{ on := 13, ground := Ground.data }, { on := 11, ground := Ground.data }, { on := 14, ground := Ground.chain }, { on := 0, ground := Ground.phase }, { on := 1, ground := Ground.phase }, { on := 2, ground := Ground.phase }, { on := 3, ground := Ground.phase }, { on := 4, ground := Ground.phase }, { on := 5, ground := Ground.phase }, { on := 6, ground := Ground.phase }, { on := 7, ground := Ground.phase }, { on := 8, ground := Ground.phase }, { on := 9, ground := Ground.phase }, { on := 10, ground := Ground.phase }, { on := 11, ground := Ground.phase }, { on := 12, ground := Ground.phase }, { on := 13, ground := Ground.phase }, { on := 14, ground := Ground.phase }], guard := none }) rfl (fun K hK => ?_) AllReadyH.nil)
              obtain ⟨z1, z2, z3, z4⟩ := blk2 hQ33.out
              go_simp
              try go_wp2_with fail
              refine hK.out _ _ (below2 hdk33.out hlQ _ _) (fun hHeld => ?_)
              clear hK K hHeld z1 z2 z3 z4
              try simp only [Act.put, List.setIfInBounds_toArray, List.set_cons_zero, List.set_cons_succ]
              obtain ⟨y34, hy⟩ : ∃ y, (y33.setCell ⟨y31.heap.size, 0, none⟩ (.int .i64 b0)).setCell ⟨y31.heap.size, 1, none⟩ (.int .i64 b1) = y := ⟨_, rfl⟩
              have hdk34 : Hid (Below wx.heap.size wx y34) := by rw [← hy]; exact hid (below2 hdk33.out hlQ _ _)
              have hQ34 : Hid (y34.heap[y31.heap.size]? = some (.cells #[.int .i64 b0, .int .i64 b1] 23 (0, 0))) := by rw [← hy]; exact hid (set2_block hQ33.out _ _)
              have hP34 : Hid (y34.heap[y0.heap.size]? = some (.cells #[.int .i64 a0, .int .i64 a1] 23 (0, 0))) := by rw [← hy, Below.heap_setCell _ _ _ _ (by show y0.heap.size ≠ y31.heap.size; omega), Below.heap_setCell _ _ _ _ (by show y0.heap.size ≠ y31.heap.size; omega)]; exact hP33
              rw [hy]
              clear hy
              refine wpAnyH_done (by kernel_rfl) ?_ _
              refine NoPanic.normal ?_
              go_wp2_with fail
              go_meet
              case rel => exact ⟨_, _, a0, a1, b0, b1, rfl, rfl, hdk34.out, hP34.out, hQ34.out⟩
            · skip
              go_simp
              refine hK.out _ _ (hdk30.out.alloc hdk30.out.size _) (fun hHeld => ?_)
              clear hK K hHeld
              try simp only [Act.put, List.setIfInBounds_toArray, List.set_cons_zero, List.set_cons_succ]
              obtain ⟨y35, hy⟩ : ∃ y, y30.alloc (.cells #[.int .i64 0, .int .i64 0] 23) = y := ⟨_, rfl⟩
              have hdk35 : Hid (Below wx.heap.size wx y35) := by rw [← hy]; exact hid (hdk30.out.alloc hdk30.out.size _)
              have hQ35 : Hid (y35.heap[y30.heap.size]? = some (.cells #[.int .i64 0, .int .i64 0] 23 (0, 0))) := by rw [← hy]; exact hid (heap_alloc_new _ _)
              have hlQ : wx.heap.size ≤ y30.heap.size := hdk30.out.size
              have hP35 : Hid (y35.heap[y0.heap.size]? = some (.cells #[.int .i64 0, .int .i64 0] 23 (0, 0))) := by rw [← hy]; exact hid (al_keep hP30.out)
              have hPQ : y0.heap.size ≠ y30.heap.size := by have := (Array.getElem?_eq_some_iff.1 hP30.out).1; omega
              rw [hy]
              clear hy
              refine wpAnyH_ready (rs := [11]) (by kernel_rfl) (by simp) ?_
              refine (AllReadyH.cons (o := { dst := some 40, op := Op.call { callee := Callee.value (Operand.func 5), args := #[Operand.tmp 35, Operand.tmp 37, Operand.tmp 39], argTypes := #[29, 23, 4] }, type := 23, pos := "law.go:125", after := #[{ on := 6, ground := Ground.data }, { on := 8, ground := Ground.data }, { on := 10, ground := Ground.data }, { on := 5, ground := Ground.chain }], guard := none }) rfl (fun K hK => ?_) AllReadyH.nil)
              go_simp
              refine (hcor.out _ _ _ y35 hdk35.out).mono ?_
              rintro x y36 ⟨b0, b1, rfl, b2⟩
              have hdk36 : Hid (Below wx.heap.size wx y36) := hid (hdk35.out.trans (b2.mono hdk35.out.size))
              have hP36 := hid ((b2.block _ (Array.getElem?_eq_some_iff.1 hP35.out).1).trans hP35.out)
              have hQ36 := hid ((b2.block _ (Array.getElem?_eq_some_iff.1 hQ35.out).1).trans hQ35.out)
              clear b2
              try go_wp2_with fail
              refine hK.out _ _ hdk36.out (fun hHeld => ?_)
              clear hK K hHeld
              try simp only [Act.put, List.setIfInBounds_toArray, List.set_cons_zero, List.set_cons_succ]
              refine wpAnyH_ready (rs := [14]) (by kernel_rfl) (by simp) ?_
              refine (AllReadyH.cons (o := { dst := none, op := Op.store 23 (Operand.tmp 11) (Operand.tmp 34), type := 0, pos := "law.go:125", after := #[{ on := 12, ground := Ground.data }, { on := 5, ground := Ground.data }, { on := 11, ground := Ground.chain }, { on := 0, ground := Ground.phase }, { on := 1, ground := Ground.phase }, { on := 2, ground := Ground.phase }, { on := 3, ground := Ground.phase }, { on := 4, ground := Ground.phase }, { on := 5, ground := Ground.phase }, { on := 6, ground := Ground.textOnly Departure.lateStores }, { on := 7, ground := Ground.textOnly Departure.lateStores }, { on := 8, ground := Ground.textOnly Departure.lateStores }, { on := 9, ground := Ground.textOnly Departure.lateStores }, { on := 10, ground := Ground.textOnly Departure.lateStores }, { on := 11, ground := Ground.textOnly Departure.lateStoresUnsure }, { on := 12, ground := Ground.phase }, { on := 13, ground := Ground.phase }], guard := none }) rfl (fun K hK => ?_) AllReadyH.nil)
              obtain ⟨z1, z2, z3, z4⟩ := blk2 hP36.out
              go_simp
              try go_wp2_with fail
              refine hK.out _ _ (below2 hdk36.out hlP _ _) (fun hHeld => ?_)
              clear hK K hHeld z1 z2 z3 z4
              try simp only [Act.put, List.setIfInBounds_toArray, List.set_cons_zero, List.set_cons_succ]
              obtain ⟨y37, hy⟩ : ∃ y, (y36.setCell ⟨y0.heap.size, 0, none⟩ (.int .i64 a0)).setCell ⟨y0.heap.size, 1, none⟩ (.int .i64 a1) = y := ⟨_, rfl⟩
              have hdk37 : Hid (Below wx.heap.size wx y37) := by rw [← hy]; exact hid (below2 hdk36.out hlP _ _)
              have hP37 : Hid (y37.heap[y0.heap.size]? = some (.cells #[.int .i64 a0, .int .i64 a1] 23 (0, 0))) := by rw [← hy]; exact hid (set2_block hP36.out _ _)
              have hQ37 : Hid (y37.heap[y30.heap.size]? = some (.cells #[.int .i64 0, .int .i64 0] 23 (0, 0))) := by rw [← hy, Below.heap_setCell _ _ _ _ (by show y30.heap.size ≠ y0.heap.size; omega), Below.heap_setCell _ _ _ _ (by show y30.heap.size ≠ y0.heap.size; omega)]; exact hQ36
              rw [hy]
              clear hy
              refine wpAnyH_ready (rs := [15]) (by kernel_rfl) (by simp) ?_
              refine (AllReadyH.cons (o := { dst := none, op := Op.store 23 (Operand.tmp 12) (Operand.tmp 40), type := 0, pos := "law.go:125", after := #[{ on := 13, ground := Ground.data }, { on := 11, ground := Ground.data }, { on := 14, ground := Ground.chain }, { on := 0, ground := Ground.phase }, { on := 1, ground := Ground.phase }, { on := 2, ground := Ground.phase }, { on := 3, ground := Ground.phase }, { on := 4, ground := Ground.phase }, { on := 5, ground := Ground.phase }, { on := 6, ground := Ground.phase }, { on := 7, ground := Ground.phase }, { on := 8, ground := Ground.phase }, { on := 9, ground := Ground.phase }, { on := 10, ground := Ground.phase }, { on := 11, ground := Ground.phase }, { on := 12, ground := Ground.phase }, { on := 13, ground := Ground.phase }, { on := 14, ground := Ground.phase }], guard := none }) rfl (fun K hK => ?_) AllReadyH.nil)
              obtain ⟨z1, z2, z3, z4⟩ := blk2 hQ37.out
              go_simp
              try go_wp2_with fail
              refine hK.out _ _ (below2 hdk37.out hlQ _ _) (fun hHeld => ?_)
              clear hK K hHeld z1 z2 z3 z4
              try simp only [Act.put, List.setIfInBounds_toArray, List.set_cons_zero, List.set_cons_succ]
              obtain ⟨y38, hy⟩ : ∃ y, (y37.setCell ⟨y30.heap.size, 0, none⟩ (.int .i64 b0)).setCell ⟨y30.heap.size, 1, none⟩ (.int .i64 b1) = y := ⟨_, rfl⟩
              have hdk38 : Hid (Below wx.heap.size wx y38) := by rw [← hy]; exact hid (below2 hdk37.out hlQ _ _)
              have hQ38 : Hid (y38.heap[y30.heap.size]? = some (.cells #[.int .i64 b0, .int .i64 b1] 23 (0, 0))) := by rw [← hy]; exact hid (set2_block hQ37.out _ _)
              have hP38 : Hid (y38.heap[y0.heap.size]? = some (.cells #[.int .i64 a0, .int .i64 a1] 23 (0, 0))) := by rw [← hy, Below.heap_setCell _ _ _ _ (by show y0.heap.size ≠ y30.heap.size; omega), Below.heap_setCell _ _ _ _ (by show y0.heap.size ≠ y30.heap.size; omega)]; exact hP37
              rw [hy]
              clear hy
              refine wpAnyH_done (by kernel_rfl) ?_ _
              refine NoPanic.normal ?_
              go_wp2_with fail
              go_meet
              case rel => exact ⟨_, _, a0, a1, b0, b1, rfl, rfl, hdk38.out, hP38.out, hQ38.out⟩
          · skip
            go_simp
            refine hK.out _ _ (hdk29.out.alloc hdk29.out.size _) (fun hHeld => ?_)
            clear hK K hHeld
            try simp only [Act.put, List.setIfInBounds_toArray, List.set_cons_zero, List.set_cons_succ]
            obtain ⟨y39, hy⟩ : ∃ y, y29.alloc (.cells #[.int .i64 0, .int .i64 0] 23) = y := ⟨_, rfl⟩
            have hdk39 : Hid (Below wx.heap.size wx y39) := by rw [← hy]; exact hid (hdk29.out.alloc hdk29.out.size _)
            have hQ39 : Hid (y39.heap[y29.heap.size]? = some (.cells #[.int .i64 0, .int .i64 0] 23 (0, 0))) := by rw [← hy]; exact hid (heap_alloc_new _ _)
            have hlQ : wx.heap.size ≤ y29.heap.size := hdk29.out.size
            have hP39 : Hid (y39.heap[y0.heap.size]? = some (.cells #[.int .i64 0, .int .i64 0] 23 (0, 0))) := by rw [← hy]; exact hid (al_keep hP29.out)
            have hPQ : y0.heap.size ≠ y29.heap.size := by have := (Array.getElem?_eq_some_iff.1 hP29.out).1; omega
            rw [hy]
            clear hy
            refine wpAnyH_ready (rs := [5]) (by kernel_rfl) (by simp) ?_
            refine (AllReadyH.cons (o := { dst := some 34, op := Op.call { callee := Callee.value (Operand.func 5), args := #[Operand.tmp 29, Operand.tmp 31, Operand.tmp 33], argTypes := #[29, 23, 4] }, type := 23, pos := "law.go:125", after := #[{ on := 0, ground := Ground.data }, { on := 2, ground := Ground.data }, { on := 4, ground := Ground.data }], guard := none }) rfl (fun K hK => ?_) AllReadyH.nil)
            go_simp
            refine (hcor.out _ _ _ y39 hdk39.out).mono ?_
            rintro x y40 ⟨a0, a1, rfl, b2⟩
            have hdk40 : Hid (Below wx.heap.size wx y40) := hid (hdk39.out.trans (b2.mono hdk39.out.size))
            have hP40 := hid ((b2.block _ (Array.getElem?_eq_some_iff.1 hP39.out).1).trans hP39.out)
            have hQ40 := hid ((b2.block _ (Array.getElem?_eq_some_iff.1 hQ39.out).1).trans hQ39.out)
            clear b2
            try go_wp2_with fail
            refine hK.out _ _ hdk40.out (fun hHeld => ?_)
            clear hK K hHeld
            try simp only [Act.put, List.setIfInBounds_toArray, List.set_cons_zero, List.set_cons_succ]
            refine wpAnyH_ready (rs := [11]) (by kernel_rfl) (by simp) ?_
            refine (AllReadyH.cons (o := { dst := some 40, op := Op.call { callee := Callee.value (Operand.func 5), args := #[Operand.tmp 35, Operand.tmp 37, Operand.tmp 39], argTypes := #[29, 23, 4] }, type := 23, pos := "law.go:125", after := #[{ on := 6, ground := Ground.data }, { on := 8, ground := Ground.data }, { on := 10, ground := Ground.data }, { on := 5, ground := Ground.chain }], guard := none }) rfl (fun K hK => ?_) AllReadyH.nil)
            go_simp
            refine (hcor.out _ _ _ y40 hdk40.out).mono ?_
            rintro x y41 ⟨b0, b1, rfl, b2⟩
            have hdk41 : Hid (Below wx.heap.size wx y41) := hid (hdk40.out.trans (b2.mono hdk40.out.size))
            have hP41 := hid ((b2.block _ (Array.getElem?_eq_some_iff.1 hP40.out).1).trans hP40.out)
            have hQ41 := hid ((b2.block _ (Array.getElem?_eq_some_iff.1 hQ40.out).1).trans hQ40.out)
            clear b2
            try go_wp2_with fail
            refine hK.out _ _ hdk41.out (fun hHeld => ?_)
            clear hK K hHeld
            try simp only [Act.put, List.setIfInBounds_toArray, List.set_cons_zero, List.set_cons_succ]
            refine wpAnyH_ready (rs := [14]) (by kernel_rfl) (by simp) ?_
            refine (AllReadyH.cons (o := { dst := none, op := Op.store 23 (Operand.tmp 11) (Operand.tmp 34), type := 0, pos := "law.go:125", after := #[{ on := 12, ground := Ground.data }, { on := 5, ground := Ground.data }, { on := 11, ground := Ground.chain }, { on := 0, ground := Ground.phase }, { on := 1, ground := Ground.phase }, { on := 2, ground := Ground.phase }, { on := 3, ground := Ground.phase }, { on := 4, ground := Ground.phase }, { on := 5, ground := Ground.phase }, { on := 6, ground := Ground.textOnly Departure.lateStores }, { on := 7, ground := Ground.textOnly Departure.lateStores }, { on := 8, ground := Ground.textOnly Departure.lateStores }, { on := 9, ground := Ground.textOnly Departure.lateStores }, { on := 10, ground := Ground.textOnly Departure.lateStores }, { on := 11, ground := Ground.textOnly Departure.lateStoresUnsure }, { on := 12, ground := Ground.phase }, { on := 13, ground := Ground.phase }], guard := none }) rfl (fun K hK => ?_) AllReadyH.nil)
            obtain ⟨z1, z2, z3, z4⟩ := blk2 hP41.out
            go_simp
            try go_wp2_with fail
            refine hK.out _ _ (below2 hdk41.out hlP _ _) (fun hHeld => ?_)
            clear hK K hHeld z1 z2 z3 z4
            try simp only [Act.put, List.setIfInBounds_toArray, List.set_cons_zero, List.set_cons_succ]
            obtain ⟨y42, hy⟩ : ∃ y, (y41.setCell ⟨y0.heap.size, 0, none⟩ (.int .i64 a0)).setCell ⟨y0.heap.size, 1, none⟩ (.int .i64 a1) = y := ⟨_, rfl⟩
            have hdk42 : Hid (Below wx.heap.size wx y42) := by rw [← hy]; exact hid (below2 hdk41.out hlP _ _)
            have hP42 : Hid (y42.heap[y0.heap.size]? = some (.cells #[.int .i64 a0, .int .i64 a1] 23 (0, 0))) := by rw [← hy]; exact hid (set2_block hP41.out _ _)
            have hQ42 : Hid (y42.heap[y29.heap.size]? = some (.cells #[.int .i64 0, .int .i64 0] 23 (0, 0))) := by rw [← hy, Below.heap_setCell _ _ _ _ (by show y29.heap.size ≠ y0.heap.size; omega), Below.heap_setCell _ _ _ _ (by show y29.heap.size ≠ y0.heap.size; omega)]; exact hQ41
            rw [hy]
            clear hy
            refine wpAnyH_ready (rs := [15]) (by kernel_rfl) (by simp) ?_
            refine (AllReadyH.cons (o := { dst := none, op := Op.store 23 (Operand.tmp 12) (Operand.tmp 40), type := 0, pos := "law.go:125", after := #[{ on := 13, ground := Ground.data }, { on := 11, ground := Ground.data }, { on := 14, ground := Ground.chain }, { on := 0, ground := Ground.phase }, { on := 1, ground := Ground.phase }, { on := 2, ground := Ground.phase }, { on := 3, ground := Ground.phase }, { on := 4, ground := Ground.phase }, { on := 5, ground := Ground.phase }, { on := 6, ground := Ground.phase }, { on := 7, ground := Ground.phase }, { on := 8, ground := Ground.phase }, { on := 9, ground := Ground.phase }, { on := 10, ground := Ground.phase }, { on := 11, ground := Ground.phase }, { on := 12, ground := Ground.phase }, { on := 13, ground := Ground.phase }, { on := 14, ground := Ground.phase }], guard := none }) rfl (fun K hK => ?_) AllReadyH.nil)
            obtain ⟨z1, z2, z3, z4⟩ := blk2 hQ42.out
            go_simp
            try go_wp2_with fail
            refine hK.out _ _ (below2 hdk42.out hlQ _ _) (fun hHeld => ?_)
            clear hK K hHeld z1 z2 z3 z4
            try simp only [Act.put, List.setIfInBounds_toArray, List.set_cons_zero, List.set_cons_succ]
            obtain ⟨y43, hy⟩ : ∃ y, (y42.setCell ⟨y29.heap.size, 0, none⟩ (.int .i64 b0)).setCell ⟨y29.heap.size, 1, none⟩ (.int .i64 b1) = y := ⟨_, rfl⟩
            have hdk43 : Hid (Below wx.heap.size wx y43) := by rw [← hy]; exact hid (below2 hdk42.out hlQ _ _)
            have hQ43 : Hid (y43.heap[y29.heap.size]? = some (.cells #[.int .i64 b0, .int .i64 b1] 23 (0, 0))) := by rw [← hy]; exact hid (set2_block hQ42.out _ _)
            have hP43 : Hid (y43.heap[y0.heap.size]? = some (.cells #[.int .i64 a0, .int .i64 a1] 23 (0, 0))) := by rw [← hy, Below.heap_setCell _ _ _ _ (by show y0.heap.size ≠ y29.heap.size; omega), Below.heap_setCell _ _ _ _ (by show y0.heap.size ≠ y29.heap.size; omega)]; exact hP42
            rw [hy]
            clear hy
            refine wpAnyH_done (by kernel_rfl) ?_ _
            refine NoPanic.normal ?_
            go_wp2_with fail
            go_meet
            case rel => exact ⟨_, _, a0, a1, b0, b1, rfl, rfl, hdk43.out, hP43.out, hQ43.out⟩
        · skip
          go_simp
          refine hK.out _ _ (hdk0.out.alloc hdk0.out.size _) (fun hHeld => ?_)
          clear hK K hHeld
          try simp only [Act.put, List.setIfInBounds_toArray, List.set_cons_zero, List.set_cons_succ]
          obtain ⟨y44, hy⟩ : ∃ y, y0.alloc (.cells #[.int .i64 0, .int .i64 0] 23) = y := ⟨_, rfl⟩
          have hdk44 : Hid (Below wx.heap.size wx y44) := by rw [← hy]; exact hid (hdk0.out.alloc hdk0.out.size _)
          have hQ44 : Hid (y44.heap[y0.heap.size]? = some (.cells #[.int .i64 0, .int .i64 0] 23 (0, 0))) := by rw [← hy]; exact hid (heap_alloc_new _ _)
          have hlQ : wx.heap.size ≤ y0.heap.size := hdk0.out.size
          rw [hy]
          clear hy
          refine wpAnyH_ready (rs := [5, 12]) (by kernel_rfl) (by simp) ?_
          refine (AllReadyH.cons (o := { dst := some 34, op := Op.call { callee := Callee.value (Operand.func 5), args := #[Operand.tmp 29, Operand.tmp 31, Operand.tmp 33], argTypes := #[29, 23, 4] }, type := 23, pos := "law.go:125", after := #[{ on := 0, ground := Ground.data }, { on := 2, ground := Ground.data }, { on := 4, ground := Ground.data }], guard := none }) rfl (fun K hK => ?_) (AllReadyH.cons (o := { dst := some 11, op := Op.alloc 23, type := 0, pos := "law.go:125", after := #[], guard := none }) rfl (fun K hK => ?_) AllReadyH.nil))
          · skip
            go_simp
            refine (hcor.out _ _ _ y44 hdk44.out).mono ?_
            rintro x y45 ⟨a0, a1, rfl, b2⟩
            have hdk45 : Hid (Below wx.heap.size wx y45) := hid (hdk44.out.trans (b2.mono hdk44.out.size))
            have hQ45 := hid ((b2.block _ (Array.getElem?_eq_some_iff.1 hQ44.out).1).trans hQ44.out)
            clear b2
            try go_wp2_with fail
            refine hK.out _ _ hdk45.out (fun hHeld => ?_)
            clear hK K hHeld
            try simp only [Act.put, List.setIfInBounds_toArray, List.set_cons_zero, List.set_cons_succ]
            refine wpAnyH_ready (rs := [11, 12]) (by kernel_rfl) (by simp) ?_
            refine (AllReadyH.cons (o := { dst := some 40, op := Op.call { callee := Callee.value (Operand.func 5), args := #[Operand.tmp 35, Operand.tmp 37, Operand.tmp 39], argTypes := #[29, 23, 4] }, type := 23, pos := "law.go:125", after := #[{ on := 6, ground := Ground.data }, { on := 8, ground := Ground.data }, { on := 10, ground := Ground.data }, { on := 5, ground := Ground.chain }], guard := none }) rfl (fun K hK => ?_) (AllReadyH.cons (o := { dst := some 11, op := Op.alloc 23, type := 0, pos := "law.go:125", after := #[], guard := none }) rfl (fun K hK => ?_) AllReadyH.nil))
            · skip
              go_simp
              refine (hcor.out _ _ _ y45 hdk45.out).mono ?_
              rintro x y46 ⟨b0, b1, rfl, b2⟩
              have hdk46 : Hid (Below wx.heap.size wx y46) := hid (hdk45.out.trans (b2.mono hdk45.out.size))
              have hQ46 := hid ((b2.block _ (Array.getElem?_eq_some_iff.1 hQ45.out).1).trans hQ45.out)
              clear b2
              try go_wp2_with fail
              refine hK.out _ _ hdk46.out (fun hHeld => ?_)
              clear hK K hHeld
              try simp only [Act.put, List.setIfInBounds_toArray, List.set_cons_zero, List.set_cons_succ]
              refine wpAnyH_ready (rs := [12]) (by kernel_rfl) (by simp) ?_
              refine (AllReadyH.cons (o := { dst := some 11, op := Op.alloc 23, type := 0, pos := "law.go:125", after := #[], guard := none }) rfl (fun K hK => ?_) AllReadyH.nil)
              go_simp
              refine hK.out _ _ (hdk46.out.alloc hdk46.out.size _) (fun hHeld => ?_)
              clear hK K hHeld
              try simp only [Act.put, List.setIfInBounds_toArray, List.set_cons_zero, List.set_cons_succ]
              obtain ⟨y47, hy⟩ : ∃ y, y46.alloc (.cells #[.int .i64 0, .int .i64 0] 23) = y := ⟨_, rfl⟩
              have hdk47 : Hid (Below wx.heap.size wx y47) := by rw [← hy]; exact hid (hdk46.out.alloc hdk46.out.size _)
              have hP47 : Hid (y47.heap[y46.heap.size]? = some (.cells #[.int .i64 0, .int .i64 0] 23 (0, 0))) := by rw [← hy]; exact hid (heap_alloc_new _ _)
              have hlP : wx.heap.size ≤ y46.heap.size := hdk46.out.size
              have hQ47 : Hid (y47.heap[y0.heap.size]? = some (.cells #[.int .i64 0, .int .i64 0] 23 (0, 0))) := by rw [← hy]; exact hid (al_keep hQ46.out)
              have hPQ : y0.heap.size ≠ y46.heap.size := by have := (Array.getElem?_eq_some_iff.1 hQ46.out).1; omega
              rw [hy]
              clear hy
              refine wpAnyH_ready (rs := [14]) (by kernel_rfl) (by simp) ?_
              refine (AllReadyH.cons (o := { dst := none, op := Op.store 23 (Operand.tmp 11) (Operand.tmp 34), type := 0, pos := "law.go:125", after := #[{ on := 12, ground := Ground.data }, { on := 5, ground := Ground.data }, { on := 11, ground := Ground.chain }, { on := 0, ground := Ground.phase }, { on := 1, ground := Ground.phase }, { on := 2, ground := Ground.phase }, { on := 3, ground := Ground.phase }, { on := 4, ground := Ground.phase }, { on := 5, ground := Ground.phase }, { on := 6, ground := Ground.textOnly Departure.lateStores }, { on := 7, ground := Ground.textOnly Departure.lateStores }, { on := 8, ground := Ground.textOnly Departure.lateStores }, { on := 9, ground := Ground.textOnly Departure.lateStores }, { on := 10, ground := Ground.textOnly Departure.lateStores }, { on := 11, ground := Ground.textOnly Departure.lateStoresUnsure }, { on := 12, ground := Ground.phase }, { on := 13, ground := Ground.phase }], guard := none }) rfl (fun K hK => ?_) AllReadyH.nil)
              obtain ⟨z1, z2, z3, z4⟩ := blk2 hP47.out
              go_simp
              try go_wp2_with fail
              refine hK.out _ _ (below2 hdk47.out hlP _ _) (fun hHeld => ?_)
              clear hK K hHeld z1 z2 z3 z4
              try simp only [Act.put, List.setIfInBounds_toArray, List.set_cons_zero, List.set_cons_succ]
              obtain ⟨y48, hy⟩ : ∃ y, (y47.setCell ⟨y46.heap.size, 0, none⟩ (.int .i64 a0)).setCell ⟨y46.heap.size, 1, none⟩ (.int .i64 a1) = y := ⟨_, rfl⟩
              have hdk48 : Hid (Below wx.heap.size wx y48) := by rw [← hy]; exact hid (below2 hdk47.out hlP _ _)
              have hP48 : Hid (y48.heap[y46.heap.size]? = some (.cells #[.int .i64 a0, .int .i64 a1] 23 (0, 0))) := by rw [← hy]; exact hid (set2_block hP47.out _ _)
              have hQ48 : Hid (y48.heap[y0.heap.size]? = some (.cells #[.int .i64 0, .int .i64 0] 23 (0, 0))) := by rw [← hy, Below.heap_setCell _ _ _ _ (by show y0.heap.size ≠ y46.heap.size; omega), Below.heap_setCell _ _ _ _ (by show y0.heap.size ≠ y46.heap.size; omega)]; exact hQ47
              rw [hy]
              clear hy
              refine wpAnyH_ready (rs := [15]) (by kernel_rfl) (by simp) ?_
              refine (AllReadyH.cons (o := { dst := none, op := Op.store 23 (Operand.tmp 12) (Operand.tmp 40), type := 0, pos := "law.go:125", after := #[{ on := 13, ground := Ground.data }, { on := 11, ground := Ground.data }, { on := 14, ground := Ground.chain }, { on := 0, ground := Ground.phase }, { on := 1, ground := Ground.phase }, { on := 2, ground := Ground.phase }, { on := 3, ground := Ground.phase }, { on := 4, ground := Ground.phase }, { on := 5, ground := Ground.phase }, { on := 6, ground := Ground.phase }, { on := 7, ground := Ground.phase }, { on := 8, ground := Ground.phase }, { on := 9, ground := Ground.phase }, { on := 10, ground := Ground.phase }, { on := 11, ground := Ground.phase }, { on := 12, ground := Ground.phase }, { on := 13, ground := Ground.phase }, { on := 14, ground := Ground.phase }], guard := none }) rfl (fun K hK => ?_) AllReadyH.nil)
              obtain ⟨z1, z2, z3, z4⟩ := blk2 hQ48.out
              go_simp
              try go_wp2_with fail
              refine hK.out _ _ (below2 hdk48.out hlQ _ _) (fun hHeld => ?_)
              clear hK K hHeld z1 z2 z3 z4
              try simp only [Act.put, List.setIfInBounds_toArray, List.set_cons_zero, List.set_cons_succ]
              obtain ⟨y49, hy⟩ : ∃ y, (y48.setCell ⟨y0.heap.size, 0, none⟩ (.int .i64 b0)).setCell ⟨y0.heap.size, 1, none⟩ (.int .i64 b1) = y := ⟨_, rfl⟩
              have hdk49 : Hid (Below wx.heap.size wx y49) := by rw [← hy]; exact hid (below2 hdk48.out hlQ _ _)
              have hQ49 : Hid (y49.heap[y0.heap.size]? = some (.cells #[.int .i64 b0, .int .i64 b1] 23 (0, 0))) := by rw [← hy]; exact hid (set2_block hQ48.out _ _)
              have hP49 : Hid (y49.heap[y46.heap.size]? = some (.cells #[.int .i64 a0, .int .i64 a1] 23 (0, 0))) := by rw [← hy, Below.heap_setCell _ _ _ _ (by show y46.heap.size ≠ y0.heap.size; omega), Below.heap_setCell _ _ _ _ (by show y46.heap.size ≠ y0.heap.size; omega)]; exact hP48
              rw [hy]
              clear hy
              refine wpAnyH_done (by kernel_rfl) ?_ _
              refine NoPanic.normal ?_
              go_wp2_with fail
              go_meet
              case rel => exact ⟨_, _, a0, a1, b0, b1, rfl, rfl, hdk49.out, hP49.out, hQ49.out⟩
            · skip
              go_simp
              refine hK.out _ _ (hdk45.out.alloc hdk45.out.size _) (fun hHeld => ?_)
              clear hK K hHeld
              try simp only [Act.put, List.setIfInBounds_toArray, List.set_cons_zero, List.set_cons_succ]
              obtain ⟨y50, hy⟩ : ∃ y, y45.alloc (.cells #[.int .i64 0, .int .i64 0] 23) = y := ⟨_, rfl⟩
              have hdk50 : Hid (Below wx.heap.size wx y50) := by rw [← hy]; exact hid (hdk45.out.alloc hdk45.out.size _)
              have hP50 : Hid (y50.heap[y45.heap.size]? = some (.cells #[.int .i64 0, .int .i64 0] 23 (0, 0))) := by rw [← hy]; exact hid (heap_alloc_new _ _)
              have hlP : wx.heap.size ≤ y45.heap.size := hdk45.out.size
              have hQ50 : Hid (y50.heap[y0.heap.size]? = some (.cells #[.int .i64 0, .int .i64 0] 23 (0, 0))) := by rw [← hy]; exact hid (al_keep hQ45.out)
              have hPQ : y0.heap.size ≠ y45.heap.size := by have := (Array.getElem?_eq_some_iff.1 hQ45.out).1; omega
              rw [hy]
              clear hy
              refine wpAnyH_ready (rs := [11]) (by kernel_rfl) (by simp) ?_
              refine (AllReadyH.cons (o := { dst := some 40, op := Op.call { callee := Callee.value (Operand.func 5), args := #[Operand.tmp 35, Operand.tmp 37, Operand.tmp 39], argTypes := #[29, 23, 4] }, type := 23, pos := "law.go:125", after := #[{ on := 6, ground := Ground.data }, { on := 8, ground := Ground.data }, { on := 10, ground := Ground.data }, { on := 5, ground := Ground.chain }], guard := none }) rfl (fun K hK => ?_) AllReadyH.nil)
              go_simp
              refine (hcor.out _ _ _ y50 hdk50.out).mono ?_
              rintro x y51 ⟨b0, b1, rfl, b2⟩
              have hdk51 : Hid (Below wx.heap.size wx y51) := hid (hdk50.out.trans (b2.mono hdk50.out.size))
              have hP51 := hid ((b2.block _ (Array.getElem?_eq_some_iff.1 hP50.out).1).trans hP50.out)
              have hQ51 := hid ((b2.block _ (Array.getElem?_eq_some_iff.1 hQ50.out).1).trans hQ50.out)
              clear b2
              try go_wp2_with fail
              refine hK.out _ _ hdk51.out (fun hHeld => ?_)
              clear hK K hHeld
              try simp only [Act.put, List.setIfInBounds_toArray, List.set_cons_zero, List.set_cons_succ]
              refine wpAnyH_ready (rs := [14]) (by kernel_rfl) (by simp) ?_
              refine (AllReadyH.cons (o := { dst := none, op := Op.store 23 (Operand.tmp 11) (Operand.tmp 34), type := 0, pos := "law.go:125", after := #[{ on := 12, ground := Ground.data }, { on := 5, ground := Ground.data }, { on := 11, ground := Ground.chain }, { on := 0, ground := Ground.phase }, { on := 1, ground := Ground.phase }, { on := 2, ground := Ground.phase }, { on := 3, ground := Ground.phase }, { on := 4, ground := Ground.phase }, { on := 5, ground := Ground.phase }, { on := 6, ground := Ground.textOnly Departure.lateStores }, { on := 7, ground := Ground.textOnly Departure.lateStores }, { on := 8, ground := Ground.textOnly Departure.lateStores }, { on := 9, ground := Ground.textOnly Departure.lateStores }, { on := 10, ground := Ground.textOnly Departure.lateStores }, { on := 11, ground := Ground.textOnly Departure.lateStoresUnsure }, { on := 12, ground := Ground.phase }, { on := 13, ground := Ground.phase }], guard := none }) rfl (fun K hK => ?_) AllReadyH.nil)
              obtain ⟨z1, z2, z3, z4⟩ := blk2 hP51.out
              go_simp
              try go_wp2_with fail
              refine hK.out _ _ (below2 hdk51.out hlP _ _) (fun hHeld => ?_)
              clear hK K hHeld z1 z2 z3 z4
              try simp only [Act.put, List.setIfInBounds_toArray, List.set_cons_zero, List.set_cons_succ]
              obtain ⟨y52, hy⟩ : ∃ y, (y51.setCell ⟨y45.heap.size, 0, none⟩ (.int .i64 a0)).setCell ⟨y45.heap.size, 1, none⟩ (.int .i64 a1) = y := ⟨_, rfl⟩
              have hdk52 : Hid (Below wx.heap.size wx y52) := by rw [← hy]; exact hid (below2 hdk51.out hlP _ _)
              have hP52 : Hid (y52.heap[y45.heap.size]? = some (.cells #[.int .i64 a0, .int .i64 a1] 23 (0, 0))) := by rw [← hy]; exact hid (set2_block hP51.out _ _)
              have hQ52 : Hid (y52.heap[y0.heap.size]? = some (.cells #[.int .i64 0, .int .i64 0] 23 (0, 0))) := by rw [← hy, Below.heap_setCell _ _ _ _ (by show y0.heap.size ≠ y45.heap.size; omega), Below.heap_setCell _ _ _ _ (by show y0.heap.size ≠ y45.heap.size; omega)]; exact hQ51
              rw [hy]
              clear hy
              refine wpAnyH_ready (rs := [15]) (by kernel_rfl) (by simp) ?_
              refine (AllReadyH.cons (o := { dst := none, op := Op.store 23 (Operand.tmp 12) (Operand.tmp 40), type := 0, pos := "law.go:125", after := #[{ on := 13, ground := Ground.data }, { on := 11, ground := Ground.data }, { on := 14, ground := Ground.chain }, { on := 0, ground := Ground.phase }, { on := 1, ground := Ground.phase }, { on := 2, ground := Ground.phase }, { on := 3, ground := Ground.phase }, { on := 4, ground := Ground.phase }, { on := 5, ground := Ground.phase }, { on := 6, ground := Ground.phase }, { on := 7, ground := Ground.phase }, { on := 8, ground := Ground.phase }, { on := 9, ground := Ground.phase }, { on := 10, ground := Ground.phase }, { on := 11, ground := Ground.phase }, { on := 12, ground := Ground.phase }, { on := 13, ground := Ground.phase }, { on := 14, ground := Ground.phase }], guard := none }) rfl (fun K hK => ?_) AllReadyH.nil)
              obtain ⟨z1, z2, z3, z4⟩ := blk2 hQ52.out
              go_simp
              try go_wp2_with fail
              refine hK.out _ _ (below2 hdk52.out hlQ _ _) (fun hHeld => ?_)
              clear hK K hHeld z1 z2 z3 z4
              try simp only [Act.put, List.setIfInBounds_toArray, List.set_cons_zero, List.set_cons_succ]
              obtain ⟨y53, hy⟩ : ∃ y, (y52.setCell ⟨y0.heap.size, 0, none⟩ (.int .i64 b0)).setCell ⟨y0.heap.size, 1, none⟩ (.int .i64 b1) = y := ⟨_, rfl⟩
              have hdk53 : Hid (Below wx.heap.size wx y53) := by rw [← hy]; exact hid (below2 hdk52.out hlQ _ _)
              have hQ53 : Hid (y53.heap[y0.heap.size]? = some (.cells #[.int .i64 b0, .int .i64 b1] 23 (0, 0))) := by rw [← hy]; exact hid (set2_block hQ52.out _ _)
              have hP53 : Hid (y53.heap[y45.heap.size]? = some (.cells #[.int .i64 a0, .int .i64 a1] 23 (0, 0))) := by rw [← hy, Below.heap_setCell _ _ _ _ (by show y45.heap.size ≠ y0.heap.size; omega), Below.heap_setCell _ _ _ _ (by show y45.heap.size ≠ y0.heap.size; omega)]; exact hP52
              rw [hy]
              clear hy
              refine wpAnyH_done (by kernel_rfl) ?_ _
              refine NoPanic.normal ?_
              go_wp2_with fail
              go_meet
              case rel => exact ⟨_, _, a0, a1, b0, b1, rfl, rfl, hdk53.out, hP53.out, hQ53.out⟩
          · skip
            go_simp
            refine hK.out _ _ (hdk44.out.alloc hdk44.out.size _) (fun hHeld => ?_)
            clear hK K hHeld
            try simp only [Act.put, List.setIfInBounds_toArray, List.set_cons_zero, List.set_cons_succ]
            obtain ⟨y54, hy⟩ : ∃ y, y44.alloc (.cells #[.int .i64 0, .int .i64 0] 23) = y := ⟨_, rfl⟩
            have hdk54 : Hid (Below wx.heap.size wx y54) := by rw [← hy]; exact hid (hdk44.out.alloc hdk44.out.size _)
            have hP54 : Hid (y54.heap[y44.heap.size]? = some (.cells #[.int .i64 0, .int .i64 0] 23 (0, 0))) := by rw [← hy]; exact hid (heap_alloc_new _ _)
            have hlP : wx.heap.size ≤ y44.heap.size := hdk44.out.size
            have hQ54 : Hid (y54.heap[y0.heap.size]? = some (.cells #[.int .i64 0, .int .i64 0] 23 (0, 0))) := by rw [← hy]; exact hid (al_keep hQ44.out)
            have hPQ : y0.heap.size ≠ y44.heap.size := by have := (Array.getElem?_eq_some_iff.1 hQ44.out).1; omega
            rw [hy]
            clear hy
            refine wpAnyH_ready (rs := [5]) (by kernel_rfl) (by simp) ?_
            refine (AllReadyH.cons (o := { dst := some 34, op := Op.call { callee := Callee.value (Operand.func 5), args := #[Operand.tmp 29, Operand.tmp 31, Operand.tmp 33], argTypes := #[29, 23, 4] }, type := 23, pos := "law.go:125", after := #[{ on := 0, ground := Ground.data }, { on := 2, ground := Ground.data }, { on := 4, ground := Ground.data }], guard := none }) rfl (fun K hK => ?_) AllReadyH.nil)
            go_simp
            refine (hcor.out _ _ _ y54 hdk54.out).mono ?_
            rintro x y55 ⟨a0, a1, rfl, b2⟩
            have hdk55 : Hid (Below wx.heap.size wx y55) := hid (hdk54.out.trans (b2.mono hdk54.out.size))
            have hP55 := hid ((b2.block _ (Array.getElem?_eq_some_iff.1 hP54.out).1).trans hP54.out)
            have hQ55 := hid ((b2.block _ (Array.getElem?_eq_some_iff.1 hQ54.out).1).trans hQ54.out)
            clear b2
            try go_wp2_with fail
            refine hK.out _ _ hdk55.out (fun hHeld => ?_)
            clear hK K hHeld
            try simp only [Act.put, List.setIfInBounds_toArray, List.set_cons_zero, List.set_cons_succ]
            refine wpAnyH_ready (rs := [11]) (by kernel_rfl) (by simp) ?_
            refine (AllReadyH.cons (o := { dst := some 40, op := Op.call { callee := Callee.value (Operand.func 5), args := #[Operand.tmp 35, Operand.tmp 37, Operand.tmp 39], argTypes := #[29, 23, 4] }, type := 23, pos := "law.go:125", after := #[{ on := 6, ground := Ground.data }, { on := 8, ground := Ground.data }, { on := 10, ground := Ground.data }, { on := 5, ground := Ground.chain }], guard := none }) rfl (fun K hK => ?_) AllReadyH.nil)
            go_simp
            refine (hcor.out _ _ _ y55 hdk55.out).mono ?_
            rintro x y56 ⟨b0, b1, rfl, b2⟩
            have hdk56 : Hid (Below wx.heap.size wx y56) := hid (hdk55.out.trans (b2.mono hdk55.out.size))
            have hP56 := hid ((b2.block _ (Array.getElem?_eq_some_iff.1 hP55.out).1).trans hP55.out)
            have hQ56 := hid ((b2.block _ (Array.getElem?_eq_some_iff.1 hQ55.out).1).trans hQ55.out)
            clear b2
            try go_wp2_with fail
            refine hK.out _ _ hdk56.out (fun hHeld => ?_)
            clear hK K hHeld
            try simp only [Act.put, List.setIfInBounds_toArray, List.set_cons_zero, List.set_cons_succ]
            refine wpAnyH_ready (rs := [14]) (by kernel_rfl) (by simp) ?_
            refine (AllReadyH.cons (o := { dst := none, op := Op.store 23 (Operand.tmp 11) (Operand.tmp 34), type := 0, pos := "law.go:125", after := #[{ on := 12, ground := Ground.data }, { on := 5, ground := Ground.data }, { on := 11, ground := Ground.chain }, { on := 0, ground := Ground.phase }, { on := 1, ground := Ground.phase }, { on := 2, ground := Ground.phase }, { on := 3, ground := Ground.phase }, { on := 4, ground := Ground.phase }, { on := 5, ground := Ground.phase }, { on := 6, ground := Ground.textOnly Departure.lateStores }, { on := 7, ground := Ground.textOnly Departure.lateStores }, { on := 8, ground := Ground.textOnly Departure.lateStores }, { on := 9, ground := Ground.textOnly Departure.lateStores }, { on := 10, ground := Ground.textOnly Departure.lateStores }, { on := 11, ground := Ground.textOnly Departure.lateStoresUnsure }, { on := 12, ground := Ground.phase }, { on := 13, ground := Ground.phase }], guard := none }) rfl (fun K hK => ?_) AllReadyH.nil)
            obtain ⟨z1, z2, z3, z4⟩ := blk2 hP56.out
            go_simp
            try go_wp2_with fail
            refine hK.out _ _ (below2 hdk56.out hlP _ _) (fun hHeld => ?_)
            clear hK K hHeld z1 z2 z3 z4
            try simp only [Act.put, List.setIfInBounds_toArray, List.set_cons_zero, List.set_cons_succ]
            obtain ⟨y57, hy⟩ : ∃ y, (y56.setCell ⟨y44.heap.size, 0, none⟩ (.int .i64 a0)).setCell ⟨y44.heap.size, 1, none⟩ (.int .i64 a1) = y := ⟨_, rfl⟩
            have hdk57 : Hid (Below wx.heap.size wx y57) := by rw [← hy]; exact hid (below2 hdk56.out hlP _ _)
            have hP57 : Hid (y57.heap[y44.heap.size]? = some (.cells #[.int .i64 a0, .int .i64 a1] 23 (0, 0))) := by rw [← hy]; exact hid (set2_block hP56.out _ _)
            have hQ57 : Hid (y57.heap[y0.heap.size]? = some (.cells #[.int .i64 0, .int .i64 0] 23 (0, 0))) := by rw [← hy, Below.heap_setCell _ _ _ _ (by show y0.heap.size ≠ y44.heap.size; omega), Below.heap_setCell _ _ _ _ (by show y0.heap.size ≠ y44.heap.size; omega)]; exact hQ56
            rw [hy]
            clear hy
            refine wpAnyH_ready (rs := [15]) (by kernel_rfl) (by simp) ?_
            refine (AllReadyH.cons (o := { dst := none, op := Op.store 23 (Operand.tmp 12) (Operand.tmp 40), type := 0, pos := "law.go:125", after := #[{ on := 13, ground := Ground.data }, { on := 11, ground := Ground.data }, { on := 14, ground := Ground.chain }, { on := 0, ground := Ground.phase }, { on := 1, ground := Ground.phase }, { on := 2, ground := Ground.phase }, { on := 3, ground := Ground.phase }, { on := 4, ground := Ground.phase }, { on := 5, ground := Ground.phase }, { on := 6, ground := Ground.phase }, { on := 7, ground := Ground.phase }, { on := 8, ground := Ground.phase }, { on := 9, ground := Ground.phase }, { on := 10, ground := Ground.phase }, { on := 11, ground := Ground.phase }, { on := 12, ground := Ground.phase }, { on := 13, ground := Ground.phase }, { on := 14, ground := Ground.phase }], guard := none }) rfl (fun K hK => ?_) AllReadyH.nil)
            obtain ⟨z1, z2, z3, z4⟩ := blk2 hQ57.out
            go_simp
            try go_wp2_with fail
            refine hK.out _ _ (below2 hdk57.out hlQ _ _) (fun hHeld => ?_)
            clear hK K hHeld z1 z2 z3 z4
            try simp only [Act.put, List.setIfInBounds_toArray, List.set_cons_zero, List.set_cons_succ]
            obtain ⟨y58, hy⟩ : ∃ y, (y57.setCell ⟨y0.heap.size, 0, none⟩ (.int .i64 b0)).setCell ⟨y0.heap.size, 1, none⟩ (.int .i64 b1) = y := ⟨_, rfl⟩
            have hdk58 : Hid (Below wx.heap.size wx y58) := by rw [← hy]; exact hid (below2 hdk57.out hlQ _ _)
            have hQ58 : Hid (y58.heap[y0.heap.size]? = some (.cells #[.int .i64 b0, .int .i64 b1] 23 (0, 0))) := by rw [← hy]; exact hid (set2_block hQ57.out _ _)
            have hP58 : Hid (y58.heap[y44.heap.size]? = some (.cells #[.int .i64 a0, .int .i64 a1] 23 (0, 0))) := by rw [← hy, Below.heap_setCell _ _ _ _ (by show y44.heap.size ≠ y0.heap.size; omega), Below.heap_setCell _ _ _ _ (by show y44.heap.size ≠ y0.heap.size; omega)]; exact hP57
            rw [hy]
            clear hy
            refine wpAnyH_done (by kernel_rfl) ?_ _
            refine NoPanic.normal ?_
            go_wp2_with fail
            go_meet
            case rel => exact ⟨_, _, a0, a1, b0, b1, rfl, rfl, hdk58.out, hP58.out, hQ58.out⟩
      case rest =>
        obtain ⟨P, Q, a0, a1, b0, b1, rfl, rfl, hc⟩ := hcut
        obtain ⟨hbc, hP, hQ⟩ := hc.out
        obtain ⟨ca, ra, hra, hra1, hra2⟩ := hboth.out a0 a1
        obtain ⟨cb, rb, hrb, hrb1, hrb2⟩ := hboth.out b0 b1
        have hcel : Hid (∀ y, Below wc.heap.size wc y → (y.cell? ⟨w1.heap.size, 0, none⟩ = some (.int .i64 8) ∧ y.cell? ⟨w1.heap.size, 1, none⟩ = some (.slice ad' V cap')) ∧ (y.cell? ⟨P, 0, none⟩ = some (.int .i64 a0) ∧ y.cell? ⟨P, 1, none⟩ = some (.int .i64 a1)) ∧ (y.cell? ⟨Q, 0, none⟩ = some (.int .i64 b0) ∧ y.cell? ⟨Q, 1, none⟩ = some (.int .i64 b1))) := hid (fun y hy => by
          obtain ⟨z1, z2, _, _⟩ := blk2 ((hy.block _ (Array.getElem?_eq_some_iff.1 hP).1).trans hP)
          obtain ⟨z3, z4, _, _⟩ := blk2 ((hy.block _ (Array.getElem?_eq_some_iff.1 hQ).1).trans hQ)
          exact ⟨hcg.out y (hbc.trans (hy.mono hbc.size)), ⟨z1, z2⟩, ⟨z3, z4⟩⟩)
        have rex : Hid (∀ y, Below wc.heap.size wc y → Below wx.heap.size wx y) := hid (fun y hy => hbc.trans (hy.mono hbc.size))
        have hgc : Hid (∀ y, Below wc.heap.size wc y → Handle y) := hid (fun y hy => hgx.out y (rex.out y hy))
        have htc : Hid (∀ y, Below wc.heap.size wc y → TA y w0.heap.size tb V 8 R) := hid (fun y hy => hta.out.more (rex.out y hy))
        have hrc1 := hid (fun y (hy : Below wc.heap.size wc y) => hra1 y (rex.out y hy))
        have hrc2 := hid (fun y (hy : Below wc.heap.size wc y) => hrb1 y (rex.out y hy))
        have hka := hid (fun y (hy : Below wc.heap.size wc y) => hra2 y (htc.out y hy))
        have hkb := hid (fun y (hy : Below wc.heap.size wc y) => hrb2 y (htc.out y hy))
        have hbz : Hid (∀ y, Below wc.heap.size wc y → Below w2.heap.size w2 y) := hid (fun y hy => hb.out.trans ((rex.out y hy).mono hb.out.size))
        clear hc hP hQ hcor hcl hboth hra1 hra2 hrb1 hrb2 hta hgx hcg hbc
        have c0 := hid (Below.refl wc.heap.size wc)
        obtain ⟨⟨x0, x1⟩, ⟨x2, x3⟩, x4, x5⟩ := hcel.out _ c0.out
        rcases hra with ⟨rfl, rfl, hca⟩ | ⟨rfl, hca⟩
        · obtain ⟨u, rfl, hu, _⟩ := id hca
          rcases hrb with ⟨rfl, rfl, hcb⟩ | ⟨rfl, hcb⟩
          · obtain ⟨v, rfl, hv, _⟩ := id hcb
            obtain ⟨s, hs⟩ : ∃ s : Bool, s = true ↔ lb V 8 R u ≠ lb V 8 R v ∨ One V R u v (co a1) (co b1) := by classical exact ⟨decide (lb V 8 R u ≠ lb V 8 R v ∨ One V R u v (co a1) (co b1)), by simp⟩
            have hleg := hid (fun y (hy : Below wc.heap.size wc y) => slegal_ok (htc.out y hy) htw.out (by decide) u v hu hv a1 b1 s hca hcb hs)
            have hrl3 := hid (fun y (hy : Below wc.heap.size wc y) => hrl.out u v a1 b1 s hca hcb hu hv hs y (rex.out y hy))
            clear hs hrl hka hkb hca hcb
            have n6 : (s != s) = false := by simp
            go_wp2_with fail
            refine (hleg.out _ c0.out).mono ?_
            rintro x w3 ⟨rfl, bq⟩
            have c3 : Hid (Below wc.heap.size wc w3) := hid (c0.out.trans (bq.mono c0.out.size))
            clear bq x0 x1 x2 x3 x4 x5
            obtain ⟨⟨x0, x1⟩, ⟨x2, x3⟩, x4, x5⟩ := hcel.out _ c3.out
            go_wp2_with fail
            refine (hrc1.out _ c3.out).mono ?_
            rintro x w4 ⟨rfl, bq⟩
            have c4 : Hid (Below wc.heap.size wc w4) := hid (c3.out.trans (bq.mono c3.out.size))
            clear bq x0 x1 x2 x3 x4 x5
            obtain ⟨⟨x0, x1⟩, ⟨x2, x3⟩, x4, x5⟩ := hcel.out _ c4.out
            go_wp2_with fail
            refine (hrc2.out _ c4.out).mono ?_
            rintro x w5 ⟨rfl, bq⟩
            have c5 : Hid (Below wc.heap.size wc w5) := hid (c4.out.trans (bq.mono c4.out.size))
            clear bq x0 x1 x2 x3 x4 x5
            obtain ⟨⟨x0, x1⟩, ⟨x2, x3⟩, x4, x5⟩ := hcel.out _ c5.out
            go_wp2_with fail
            refine (num_nil _).mono ?_
            rintro x w7 ⟨rfl, bq⟩
            have c7 : Hid (Below wc.heap.size wc w7) := hid (c5.out.trans (bq.mono c5.out.size))
            clear bq x0 x1 x2 x3 x4 x5
            obtain ⟨⟨x0, x1⟩, ⟨x2, x3⟩, x4, x5⟩ := hcel.out _ c7.out
            go_wp2_with fail
            refine (hrl3.out _ c7.out).mono ?_
            rintro x w8 ⟨rfl, bq⟩
            have c8 : Hid (Below wc.heap.size wc w8) := hid (c7.out.trans (bq.mono c7.out.size))
            clear bq x0 x1 x2 x3 x4 x5
            obtain ⟨⟨x0, x1⟩, ⟨x2, x3⟩, x4, x5⟩ := hcel.out _ c8.out
            have fin := hid (hbz.out _ c8.out)
            clear x0 x1 x2 x3 x4 x5
            go_wp2_with fail
            go_roundw
            case rel => exact ⟨k + 1, by omega, by go_num, fin⟩
            case measure => simp [intOf]; omega
          · have hleg := hid (fun y (hy : Below wc.heap.size wc y) => slegal_fst (tb := tb) (u : Int) a1 b0 b1 false (.iface 57 (.int .i64 cb)) y (.inl ⟨rfl, cb, rfl⟩) (fun yy hyy => fsame_bad2 (tb := tb) (u : Int) a1 b0 b1 cb (fa V R a1) yy (fun z hz => fat_ok (htc.out z ((hy.trans (hyy.mono hy.size)).trans (hz.mono (Nat.le_trans hy.size hyy.size)))) u a1 hca) (fun z hz => fat_bad (tb := tb) b0 b1 cb z (fun z' hz' => hkb.out z' (((hy.trans (hyy.mono hy.size)).trans (hz.mono (Nat.le_trans hy.size hyy.size))).trans (hz'.mono (Nat.le_trans (Nat.le_trans hy.size hyy.size) hz.size)))))))
            clear hrl hka hkb hca
            have n1 : (cb == 0) = false := by simp [hcb]
            have n2 : ¬ (cb = 0) := hcb
            have n3 : (cb != cb) = false := by simp
            have n4 : (cb != 0) = true := by simp [hcb]
            go_wp2_with fail
            refine (hleg.out _ c0.out).mono ?_
            rintro x w3 ⟨rfl, bq⟩
            have c3 : Hid (Below wc.heap.size wc w3) := hid (c0.out.trans (bq.mono c0.out.size))
            clear bq x0 x1 x2 x3 x4 x5
            obtain ⟨⟨x0, x1⟩, ⟨x2, x3⟩, x4, x5⟩ := hcel.out _ c3.out
            go_wp2_with fail
            refine (hrc1.out _ c3.out).mono ?_
            rintro x w4 ⟨rfl, bq⟩
            have c4 : Hid (Below wc.heap.size wc w4) := hid (c3.out.trans (bq.mono c3.out.size))
            clear bq x0 x1 x2 x3 x4 x5
            obtain ⟨⟨x0, x1⟩, ⟨x2, x3⟩, x4, x5⟩ := hcel.out _ c4.out
            go_wp2_with fail
            refine (hrc2.out _ c4.out).mono ?_
            rintro x w5 ⟨rfl, bq⟩
            have c5 : Hid (Below wc.heap.size wc w5) := hid (c4.out.trans (bq.mono c4.out.size))
            clear bq x0 x1 x2 x3 x4 x5
            obtain ⟨⟨x0, x1⟩, ⟨x2, x3⟩, x4, x5⟩ := hcel.out _ c5.out
            go_wp2_with fail
            refine (num_err cb _ (hgc.out _ c5.out)).mono ?_
            rintro x w7 ⟨rfl, bq⟩
            have c7 : Hid (Below wc.heap.size wc w7) := hid (c5.out.trans (bq.mono c5.out.size))
            clear bq x0 x1 x2 x3 x4 x5
            obtain ⟨⟨x0, x1⟩, ⟨x2, x3⟩, x4, x5⟩ := hcel.out _ c7.out
            have fin := hid (hbz.out _ c7.out)
            clear x0 x1 x2 x3 x4 x5
            go_wp2_with fail
            go_roundw
            case rel => exact ⟨k + 1, by omega, by go_num, fin⟩
            case measure => simp [intOf]; omega
        · have hleg := hid (fun y (hy : Below wc.heap.size wc y) => slegal_fst (tb := tb) a0 a1 b0 b1 false (.iface 57 (.int .i64 ca)) y (.inl ⟨rfl, ca, rfl⟩) (fun yy hyy => fsame_bad1 (tb := tb) a0 a1 b0 b1 ca yy (fun z hz => fat_bad (tb := tb) a0 a1 ca z (fun z' hz' => hka.out z' (((hy.trans (hyy.mono hy.size)).trans (hz.mono (Nat.le_trans hy.size hyy.size))).trans (hz'.mono (Nat.le_trans (Nat.le_trans hy.size hyy.size) hz.size)))))))
          clear hrl hka hkb hrb
          have n1 : (ca == 0) = false := by simp [hca]
          have n2 : ¬ (ca = 0) := hca
          have n3 : (ca != ca) = false := by simp
          have n4 : (ca != 0) = true := by simp [hca]
          go_wp2_with fail
          refine (hleg.out _ c0.out).mono ?_
          rintro x w3 ⟨rfl, bq⟩
          have c3 : Hid (Below wc.heap.size wc w3) := hid (c0.out.trans (bq.mono c0.out.size))
          clear bq x0 x1 x2 x3 x4 x5
          obtain ⟨⟨x0, x1⟩, ⟨x2, x3⟩, x4, x5⟩ := hcel.out _ c3.out
          go_wp2_with fail
          refine (hrc1.out _ c3.out).mono ?_
          rintro x w4 ⟨rfl, bq⟩
          have c4 : Hid (Below wc.heap.size wc w4) := hid (c3.out.trans (bq.mono c3.out.size))
          clear bq x0 x1 x2 x3 x4 x5
          obtain ⟨⟨x0, x1⟩, ⟨x2, x3⟩, x4, x5⟩ := hcel.out _ c4.out
          go_wp2_with fail
          refine (num_err ca _ (hgc.out _ c4.out)).mono ?_
          rintro x w7 ⟨rfl, bq⟩
          have c7 : Hid (Below wc.heap.size wc w7) := hid (c4.out.trans (bq.mono c4.out.size))
          clear bq x0 x1 x2 x3 x4 x5
          obtain ⟨⟨x0, x1⟩, ⟨x2, x3⟩, x4, x5⟩ := hcel.out _ c7.out
          have fin := hid (hbz.out _ c7.out)
          clear x0 x1 x2 x3 x4 x5
          go_wp2_with fail
          go_roundw
          case rel => exact ⟨k + 1, by omega, by go_num, fin⟩
          case measure => simp [intOf]; omega
    · obtain rfl : k = 2 := by omega
      have hbz := hid (hbw.out.trans (hb.out.mono hbw.out.size))
      clear hb
      go_wp2_with fail
      refine (hsu.out _).mono ?_
      rintro x w9 ⟨rfl, b9⟩
      have hb9 := hid (hbz.out.trans (b9.mono hbz.out.size))
      clear b9
      go_wp2_with fail
      go_ret
      exact ⟨rfl, hb9.out⟩
end Go.Proofs.YtegljhbjjdfhiaaGreatDoor
