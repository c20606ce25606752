/- 'SphereSteps', walked. -/
import Derived.Test.YtegljhbjjdfhiaaDoorRegion
import Derived.Test.YtegljhbjjdfhiaaDoorFAt11
import Derived.Test.YtegljhbjjdfhiaaDoorRGroups12
import Derived.Test.YtegljhbjjdfhiaaDoorLaws11
import Derived.Test.YtegljhbjjdfhiaaDoorLegal12
import Derived.Test.YtegljhbjjdfhiaaDoorBcount
import Derived.Deep.CutBlock
namespace Go.Proofs.YtegljhbjjdfhiaaDoor
open Go.RowKit
set_option linter.unusedVariables false

/-- The act's block. -/
abbrev acb (q : Ac) : Obj := .cells #[.int .i64 q.k, .int .i64 q.e, .int .i64 q.a0, .int .i64 q.a1, .int .i64 q.b0, .int .i64 q.b1] 47 (0, 0)

theorem acb_cells {y : World} {p : Nat} {k e a0 a1 b0 b1 : Int} (h : y.heap[p]? = some (acb ⟨k, e, a0, a1, b0, b1⟩)) : y.cell? ⟨p, 2, none⟩ = some (.int .i64 a0) ∧ y.cell? ⟨p, 3, none⟩ = some (.int .i64 a1) ∧ y.cell? ⟨p, 4, none⟩ = some (.int .i64 b0) ∧ y.cell? ⟨p, 5, none⟩ = some (.int .i64 b1) := by
  refine ⟨?_, ?_, ?_, ?_⟩ <;> (unfold World.cell?; rw [h]; rfl)

theorem kp_cells {lo b : Nat} {y y' : World} {t : TypeId} {cs : Array Value} (h : y.heap[b]? = some (.cells cs t (0, 0))) (hk : Kp lo y y') (h1 : t ≠ 87) (h2 : t ≠ 115) (h3 : t ≠ 128) : y'.heap[b]? = some (.cells cs t (0, 0)) :=
  (hk.keep ⟨_, _, h⟩ h1 h2 h3).trans h

theorem Kp.down {lo lo' : Nat} {w w' : World} (h : Kp lo w w') (hl : lo' ≤ lo) : Kp lo' w w' := ⟨h.os, h.tape, h.output, h.size, fun k hk q => h.block k hk (q.imp (fun z => Nat.lt_of_lt_of_le z hl) id)⟩

theorem co_none_of {V : Nat} {R : Nat → List Nat} {u : Nat} {b : Int} (h : Co V R (u : Int) b) (q : co b = none) : R u = [] := by
  obtain ⟨u', e, hu, ⟨rfl, h1⟩ | ⟨d, rfl, h1⟩⟩ := h
  · obtain rfl : u = u' := by omega
    exact h1
  · rw [co_some] at q; cases q

/-- The labels' row stays where Turns turn. -/
theorem Un.Ls.kp {w w' : World} {v : Value} {n lo : Nat} {f : Nat → Nat} (h : Un.Ls w v n f) (hk : Kp lo w w') : Un.Ls w' v n f := by
  obtain ⟨b, cap, e, h1, h2, cs, fr, hb, hc⟩ := h
  have hb' := hk.al b (.inl ⟨cs, fr, hb⟩)
  exact ⟨b, cap, e, h1, h2, cs, fr, hb'.trans hb, fun j hj => (World.cell?_of_block hb').trans (hc j hj)⟩

set_option maxRecDepth 100000 in
set_option maxHeartbeats 16000000 in
theorem steps_law (n : Int) (v : Value) (l : List Ac) (q : Ac) (w : World) (hg : Handle w) (hv : AV w v l) :
    Calls Tryd.prog 4 #[.int .i64 n, v, acv q] w fun x w' => x = .returned (.bool true) ∧ Below w.heap.size w w' := by
  obtain ⟨j0, hjf, hy0, hy1, hy2⟩ := info_parts infoInt
  have hbb := balloc w (acb q)
  have hpb := heap_alloc_new w (acb q)
  have hpl : w.heap.size < (w.alloc (acb q)).heap.size := by simp
  have hm := made_ok n v l (w.alloc (acb q)) (hg.below hbb) (hv.below hbb)
  have hsu := hid (fun y => sure_ok y)
  obtain ⟨w0, hw0⟩ : ∃ w0, w.alloc (acb q) = w0 := ⟨_, rfl⟩
  rw [hw0] at hbb hpb hm hpl
  have hw0le : w.heap.size ≤ w0.heap.size := hbb.size
  replace hbb := hid hbb
  replace hpb := hid hpb
  replace hm := hid hm
  replace hw0 := hid hw0
  clear hg hv
  obtain ⟨qk, qe, qa0, qa1, qb0, qb1⟩ := q
  go_enter Tryd.func4, Tryd.ntmps4
  go_upto_region 1 with fail
  rw [hw0.out]
  clear hw0
  go_wp2_with fail
  refine hm.out.mono ?_
  rintro x w1 ⟨tb, V, R, ad, cap, rfl, hV1, hV6, hbo, b1⟩
  have hpb1 := (b1.block _ hpl).trans hpb.out
  have hpb2 := hid (al_keep (o' := .cells #[.int .i64 8, .slice ad V cap] 27) hpb1)
  have hls := hid (Md.ls hbo b1)
  clear hbo b1 hm hpb hpb1
  obtain ⟨w2, hw2⟩ : ∃ w2, w1.alloc (.cells #[.int .i64 8, .slice ad V cap] 27) = w2 := ⟨_, rfl⟩
  rw [hw2] at hls hpb2
  replace hw2 := hid hw2
  have htn := hid hls.out.tn
  have htw := hid hls.out.tw
  have hbw : Hid (Below w.heap.size w w2) := hid (hbb.out.trans (hls.out.bel.mono hbb.out.size))
  go_upto_region 2 with fail
  try rw [hw2.out]
  clear hw2
  go_wp2_with fail
  go_loopw [10, 11] (fun s10 s11 wr => ∃ j : Nat, j ≤ V ∧ s11 = .int .i64 (j : Int) ∧ Hid (wr.ownsRow w2.heap.size 3 1 s10 j (ncs (List.range j)) ∧ Below w2.heap.size w2 wr)) (fun _ s11 _ => V - (intOf s11).toNat)
  case atStart => exact ⟨0, by omega, by go_num, hid ⟨World.ownsRow_nil _ _ _ _, Below.refl _ _⟩⟩
  case round =>
   obtain ⟨jv, hj, rfl, hst⟩ := hrel
   obtain ⟨ad1, cap1, _, cc0, cc1⟩ := (hls.out.more hst.out.2).rt
   rcases Nat.lt_or_ge jv V with hjl | hjg
   · have v2 : decide ((jv : Int) < (V : Int)) = true := decide_eq_true (by omega)
     have v2' : decide (jv < V) = true := decide_eq_true (by omega)
     have hown := hst.out.1
     have hbw' := hst.out.2
     have hsz := hbw'.size
     clear hst
     go_wp2_with (at_builtin; refine wpList_append_own _ rfl (.tmp 41) (.tmp 43) 23 rfl w2.heap.size 3 j0 _ 1 8 Tryd.underlying23 hjf hy0 hy1 hy2 rfl (by decide) _ _ _ rfl (hown.alloc _) ⟨wr.heap.size, 0, none⟩ 1 1 [.int .i64 (jv : Int)] rfl rfl (one_new wr _ _) (by simp [Value.oneCell']) (by unfold maxLen; omega) (by omega) (by simp; omega) ?_; intro v' w' ho' hg' _)
     have hnew : Hid (w'.ownsRow w2.heap.size 3 1 v' (jv + 1) (ncs (List.range (jv + 1))) ∧ Below w2.heap.size w2 w') :=
       hid ⟨by rw [List.range_succ, ncs_append]; exact ho', below_row (hbw'.alloc hsz _) (Nat.le_refl _) (hown.alloc _) (Nat.le_refl _) hg'⟩
     clear ho' hg' hown hbw' cc0 cc1
     go_wp2_with fail
     go_roundw
     case rel => exact ⟨jv + 1, by omega, by go_num, hnew⟩
     case measure => simp [intOf]; omega
   · obtain rfl : V = jv := by omega
     have v2 : decide ((V : Int) < (V : Int)) = false := decide_eq_false (by omega)
     have hnl : Hid (NL wr u10 (List.range V)) := hid (nl_of (l := List.range V) (base := w2.heap.size) (by simpa using hst.out.1))
     have hbr := hid hst.out.2
     obtain ⟨w3, hw3⟩ : ∃ w3, wr = w3 := ⟨_, rfl⟩
     rw [hw3] at hnl hbr cc1 cc0 ⊢
     replace hls := hid (hls.out.more hbr.out)
     replace hpb2 := hid ((hbr.out.block _ (Array.getElem?_eq_some_iff.1 hpb2.out).1).trans hpb2.out)
     replace hbw := hid (hbw.out.trans (hbr.out.mono hbw.out.size))
     clear hst hw3 hbr
     go_wp2_with fail
     go_loopw [12, 13] (fun s12 s13 wr => ∃ (e : Nat) (fr : Int), e ≤ 8 ∧ s13 = .int .i64 (e : Int) ∧ s12 = .int .i64 fr ∧ Hid (fr = -1 ∨ ∃ k : Nat, fr = (k : Int) ∧ k < 8 ∧ ¬ In V R (2 * k)) ∧ Hid (Below w3.heap.size w3 wr)) (fun _ s13 _ => 8 - (intOf s13).toNat)
     case atStart => exact ⟨0, -1, by omega, by go_num, rfl, hid (.inl rfl), Below.refl _ _⟩
     case round =>
       obtain ⟨e, fr, he, rfl, rfl, hfr, hb⟩ := hrel
       rcases Nat.lt_or_ge e 8 with hlt | hge
       · have hha := hid (fun b (hb' : b = true ↔ In V R (2 * e)) => has_ok (hls.out.ta.more hb.out) e b hlt hb')
         have v1 : decide ((e : Int) < 8) = true := decide_eq_true (by omega)
         by_cases hi : In V R (2 * e)
         · have hh := hid (hha.out true ⟨fun _ => hi, fun _ => rfl⟩)
           clear hha hi
           go_wp2_with fail
           refine hh.out.mono ?_
           rintro x w3 ⟨rfl, b3⟩
           have hb3 := hid (hb.out.trans (b3.mono hb.out.size))
           clear b3 hh hb
           go_wp2_with fail
           go_roundw
           case rel => exact ⟨e + 1, fr, by omega, by go_num, rfl, hfr, hb3⟩
           case measure => simp [intOf]; omega
         · have hh := hid (hha.out false (Iff.intro (fun z => absurd z (by decide)) (fun z => absurd z hi)))
           have hfr2 : Hid ((e : Int) = -1 ∨ ∃ k : Nat, (e : Int) = (k : Int) ∧ k < 8 ∧ ¬ In V R (2 * k)) := hid (.inr ⟨e, rfl, hlt, hi⟩)
           clear hha hi hfr
           go_wp2_with fail
           refine hh.out.mono ?_
           rintro x w3 ⟨rfl, b3⟩
           have hb3 := hid (hb.out.trans (b3.mono hb.out.size))
           clear b3 hh hb
           go_wp2_with fail
           go_roundw
           case rel => exact ⟨e + 1, (e : Int), by omega, by go_num, rfl, hfr2, hb3⟩
           case measure => simp [intOf]; omega
       · obtain rfl : e = 8 := by omega
         obtain ⟨wx, hwx⟩ : ∃ wx, wx = wr := ⟨wr, rfl⟩
         subst hwx
         have hlsx := hid (hls.out.more hb.out)
         have hpbx := hid ((hb.out.block _ (Array.getElem?_eq_some_iff.1 hpb2.out).1).trans hpb2.out)
         have hbx := hid (hbw.out.trans (hb.out.mono hbw.out.size))
         have hnlx := hid (hnl.out.below hb.out)
         obtain ⟨ad', cap', hrt, c0, c1⟩ := hlsx.out.rt
         have hcor := hid (fun c0 c1 y (hy : Below wx.heap.size wx y) => corner_ok _ 8 V R c0 c1 y (hrt.below hy) htn.out hV1 (by omega) (by decide))
         have hcl : Hid (∀ y, Below wx.heap.size wx y → y.cell? ⟨w1.heap.size, 0, none⟩ = some (.int .i64 ((8 : Nat) : Int)) ∧ y.cell? ⟨w1.heap.size, 1, none⟩ = some (.slice ad' V cap') ∧ y.cell? ⟨w.heap.size, 2, none⟩ = some (.int .i64 qa0) ∧ y.cell? ⟨w.heap.size, 3, none⟩ = some (.int .i64 qa1) ∧ y.cell? ⟨w.heap.size, 4, none⟩ = some (.int .i64 qb0) ∧ y.cell? ⟨w.heap.size, 5, none⟩ = some (.int .i64 qb1)) := hid (fun y hy => by
           have h1 := acb_cells ((hy.block _ (Array.getElem?_eq_some_iff.1 hpbx.out).1).trans hpbx.out)
           exact ⟨(hy.cell (World.block_lt_of_cell? _ _ c0)).trans c0, (hy.cell (World.block_lt_of_cell? _ _ c1)).trans c1, h1⟩)
         have hcg := hid (two_at c0 c1)
         clear hb hls hpb2 hpbx hbw hrt c0 c1 hbb
         go_upto_region 15 with fail
         go_cut [14, 15] from 54 to 61 (fun s14 s15 wy => ∃ (P Q pu : Nat) (pb : Int) (qu : Nat) (qb : Int), s14 = .pointer (some ⟨P, 0, none⟩) ∧ s15 = .pointer (some ⟨Q, 0, none⟩) ∧ Hid (Below wx.heap.size wx wy ∧ pu < V ∧ Co V R (pu : Int) pb ∧ qu < V ∧ Co V R (qu : Int) qb ∧ wy.heap[P]? = some (.cells #[.int .i64 (pu : Int), .int .i64 pb] 45 (0, 0)) ∧ wy.heap[Q]? = some (.cells #[.int .i64 (qu : Int), .int .i64 qb] 45 (0, 0))))
         case first =>
           refine wp_region_noPanic ?_
           refine wp_region_held_drew (S := fun y => Below wx.heap.size wx y) (by kernel_rfl) (Below.refl _ _).drew (fun hHeld => ?_)
           refine takeH (i := 0) (v := ?_) (a' := ?_) ({ dst := some 54, op := Op.load 27 (Operand.tmp 8), type := 27, pos := "law.go:206", after := #[], guard := none }) rfl (by kernel_rfl) (by kernel_rfl) (by kernel_rfl) (fun _ _ _ h => h) (by rfl) ?_ (by assumption) ?_ ?_
           rotate_left 2
           · (intro w' hSw; obtain ⟨q0, q1, q2, q3, q4, q5⟩ := hcl.out w' hSw; clear hSw; go_simp; try with_reducible rfl)
           · (simp only [Act.put, List.setIfInBounds_toArray, List.set_cons_zero, List.set_cons_succ]; try rfl)
           refine takeH (i := 1) (v := ?_) (a' := ?_) ({ dst := some 55, op := Op.fieldAddr 47 (Operand.tmp 5) 2, type := 0, pos := "law.go:206", after := #[], guard := none }) rfl (by kernel_rfl) (by kernel_rfl) (by kernel_rfl) (fun _ _ _ h => h) (by rfl) ?_ (by assumption) ?_ ?_
           rotate_left 2
           · (intro w' hSw; obtain ⟨q0, q1, q2, q3, q4, q5⟩ := hcl.out w' hSw; clear hSw; go_simp; try with_reducible rfl)
           · (simp only [Act.put, List.setIfInBounds_toArray, List.set_cons_zero, List.set_cons_succ]; try rfl)
           refine takeH (i := 2) (v := ?_) (a' := ?_) ({ dst := some 56, op := Op.load 45 (Operand.tmp 55), type := 45, pos := "law.go:206", after := #[{ on := 1, ground := Ground.data }], guard := none }) rfl (by kernel_rfl) (by kernel_rfl) (by kernel_rfl) (fun _ _ _ h => h) (by rfl) ?_ (by assumption) ?_ ?_
           rotate_left 2
           · (intro w' hSw; obtain ⟨q0, q1, q2, q3, q4, q5⟩ := hcl.out w' hSw; clear hSw; go_simp; try with_reducible rfl)
           · (simp only [Act.put, List.setIfInBounds_toArray, List.set_cons_zero, List.set_cons_succ]; try rfl)
           refine takeH (i := 4) (v := ?_) (a' := ?_) ({ dst := some 58, op := Op.load 27 (Operand.tmp 8), type := 27, pos := "law.go:206", after := #[], guard := none }) rfl (by kernel_rfl) (by kernel_rfl) (by kernel_rfl) (fun _ _ _ h => h) (by rfl) ?_ (by assumption) ?_ ?_
           rotate_left 2
           · (intro w' hSw; obtain ⟨q0, q1, q2, q3, q4, q5⟩ := hcl.out w' hSw; clear hSw; go_simp; try with_reducible rfl)
           · (simp only [Act.put, List.setIfInBounds_toArray, List.set_cons_zero, List.set_cons_succ]; try rfl)
           refine takeH (i := 5) (v := ?_) (a' := ?_) ({ dst := some 59, op := Op.fieldAddr 47 (Operand.tmp 5) 3, type := 0, pos := "law.go:206", after := #[], guard := none }) rfl (by kernel_rfl) (by kernel_rfl) (by kernel_rfl) (fun _ _ _ h => h) (by rfl) ?_ (by assumption) ?_ ?_
           rotate_left 2
           · (intro w' hSw; obtain ⟨q0, q1, q2, q3, q4, q5⟩ := hcl.out w' hSw; clear hSw; go_simp; try with_reducible rfl)
           · (simp only [Act.put, List.setIfInBounds_toArray, List.set_cons_zero, List.set_cons_succ]; try rfl)
           refine takeH (i := 6) (v := ?_) (a' := ?_) ({ dst := some 60, op := Op.load 45 (Operand.tmp 59), type := 45, pos := "law.go:206", after := #[{ on := 5, ground := Ground.data }], guard := none }) rfl (by kernel_rfl) (by kernel_rfl) (by kernel_rfl) (fun _ _ _ h => h) (by rfl) ?_ (by assumption) ?_ ?_
           rotate_left 2
           · (intro w' hSw; obtain ⟨q0, q1, q2, q3, q4, q5⟩ := hcl.out w' hSw; clear hSw; go_simp; try with_reducible rfl)
           · (simp only [Act.put, List.setIfInBounds_toArray, List.set_cons_zero, List.set_cons_succ]; try rfl)
           have hdk0 : Hid (Below wx.heap.size wx wx.drew) := hid (Below.refl _ _).drew
           clear hHeld
           generalize wx.drew = y0 at hdk0 ⊢
           refine wpAnyH_ready (rs := [3, 8, 9]) (by kernel_rfl) (by simp) ?_
           refine (AllReadyH.cons (o := { dst := some 57, op := Op.call { callee := Callee.value (Operand.func 14), args := #[Operand.tmp 54, Operand.tmp 56, Operand.const (Value.bool false)], argTypes := #[27, 45, 4] }, type := 45, pos := "law.go:206", after := #[{ on := 0, ground := Ground.data }, { on := 2, ground := Ground.data }], guard := none }) rfl (fun K hK => ?_) (AllReadyH.cons (o := { dst := some 14, op := Op.alloc 45, type := 0, pos := "law.go:206", after := #[], guard := none }) rfl (fun K hK => ?_) (AllReadyH.cons (o := { dst := some 15, op := Op.alloc 45, type := 0, pos := "law.go:206", after := #[], guard := none }) rfl (fun K hK => ?_) AllReadyH.nil)))
           · skip
             go_simp
             refine (hcor.out _ _ y0 hdk0.out).mono ?_
             rintro x y1 ⟨pu, pb, rfl, hpu, hpc, b2⟩
             replace hpc := hid hpc
             have hdk1 : Hid (Below wx.heap.size wx y1) := hid (hdk0.out.trans (b2.mono hdk0.out.size))
             clear b2
             try go_wp2_with fail
             refine hK.out _ _ hdk1.out (fun hHeld => ?_)
             clear hK K hHeld
             try simp only [Act.put, List.setIfInBounds_toArray, List.set_cons_zero, List.set_cons_succ]
             refine wpAnyH_ready (rs := [7, 8, 9]) (by kernel_rfl) (by simp) ?_
             refine (AllReadyH.cons (o := { dst := some 61, op := Op.call { callee := Callee.value (Operand.func 14), args := #[Operand.tmp 58, Operand.tmp 60, Operand.const (Value.bool false)], argTypes := #[27, 45, 4] }, type := 45, pos := "law.go:206", after := #[{ on := 4, ground := Ground.data }, { on := 6, ground := Ground.data }, { on := 3, ground := Ground.chain }], guard := none }) rfl (fun K hK => ?_) (AllReadyH.cons (o := { dst := some 14, op := Op.alloc 45, type := 0, pos := "law.go:206", after := #[], guard := none }) rfl (fun K hK => ?_) (AllReadyH.cons (o := { dst := some 15, op := Op.alloc 45, type := 0, pos := "law.go:206", after := #[], guard := none }) rfl (fun K hK => ?_) AllReadyH.nil)))
             · skip
               go_simp
               refine (hcor.out _ _ y1 hdk1.out).mono ?_
               rintro x y2 ⟨qu, qb, rfl, hqu, hqc, b2⟩
               replace hqc := hid hqc
               have hdk2 : Hid (Below wx.heap.size wx y2) := hid (hdk1.out.trans (b2.mono hdk1.out.size))
               clear b2
               try go_wp2_with fail
               refine hK.out _ _ hdk2.out (fun hHeld => ?_)
               clear hK K hHeld
               try simp only [Act.put, List.setIfInBounds_toArray, List.set_cons_zero, List.set_cons_succ]
               refine wpAnyH_ready (rs := [8, 9]) (by kernel_rfl) (by simp) ?_
               refine (AllReadyH.cons (o := { dst := some 14, op := Op.alloc 45, type := 0, pos := "law.go:206", after := #[], guard := none }) rfl (fun K hK => ?_) (AllReadyH.cons (o := { dst := some 15, op := Op.alloc 45, type := 0, pos := "law.go:206", after := #[], guard := none }) rfl (fun K hK => ?_) AllReadyH.nil))
               · skip
                 go_simp
                 refine hK.out _ _ (hdk2.out.alloc hdk2.out.size _) (fun hHeld => ?_)
                 clear hK K hHeld
                 try simp only [Act.put, List.setIfInBounds_toArray, List.set_cons_zero, List.set_cons_succ]
                 obtain ⟨y3, hy⟩ : ∃ y, y2.alloc (.cells #[.int .i64 0, .int .i64 0] 45) = y := ⟨_, rfl⟩
                 have hdk3 : Hid (Below wx.heap.size wx y3) := by rw [← hy]; exact hid (hdk2.out.alloc hdk2.out.size _)
                 have hP3 : Hid (y3.heap[y2.heap.size]? = some (.cells #[.int .i64 0, .int .i64 0] 45 (0, 0))) := by rw [← hy]; exact hid (heap_alloc_new _ _)
                 have hlP : wx.heap.size ≤ y2.heap.size := hdk2.out.size
                 rw [hy]
                 clear hy
                 refine wpAnyH_ready (rs := [9]) (by kernel_rfl) (by simp) ?_
                 refine (AllReadyH.cons (o := { dst := some 15, op := Op.alloc 45, type := 0, pos := "law.go:206", after := #[], guard := none }) rfl (fun K hK => ?_) AllReadyH.nil)
                 go_simp
                 refine hK.out _ _ (hdk3.out.alloc hdk3.out.size _) (fun hHeld => ?_)
                 clear hK K hHeld
                 try simp only [Act.put, List.setIfInBounds_toArray, List.set_cons_zero, List.set_cons_succ]
                 obtain ⟨y4, hy⟩ : ∃ y, y3.alloc (.cells #[.int .i64 0, .int .i64 0] 45) = y := ⟨_, rfl⟩
                 have hdk4 : Hid (Below wx.heap.size wx y4) := by rw [← hy]; exact hid (hdk3.out.alloc hdk3.out.size _)
                 have hQ4 : Hid (y4.heap[y3.heap.size]? = some (.cells #[.int .i64 0, .int .i64 0] 45 (0, 0))) := by rw [← hy]; exact hid (heap_alloc_new _ _)
                 have hlQ : wx.heap.size ≤ y3.heap.size := hdk3.out.size
                 have hP4 : Hid (y4.heap[y2.heap.size]? = some (.cells #[.int .i64 0, .int .i64 0] 45 (0, 0))) := by rw [← hy]; exact hid (al_keep hP3.out)
                 have hPQ : y2.heap.size ≠ y3.heap.size := by have := (Array.getElem?_eq_some_iff.1 hP3.out).1; omega
                 rw [hy]
                 clear hy
                 refine wpAnyH_ready (rs := [10]) (by kernel_rfl) (by simp) ?_
                 refine (AllReadyH.cons (o := { dst := none, op := Op.store 45 (Operand.tmp 14) (Operand.tmp 57), type := 0, pos := "law.go:206", after := #[{ on := 8, ground := Ground.data }, { on := 3, ground := Ground.data }, { on := 7, ground := Ground.chain }, { on := 0, ground := Ground.phase }, { on := 1, ground := Ground.phase }, { on := 2, ground := Ground.phase }, { on := 3, ground := Ground.phase }, { on := 4, ground := Ground.textOnly Departure.lateStores }, { on := 5, ground := Ground.textOnly Departure.lateStores }, { on := 6, ground := Ground.textOnly Departure.lateStores }, { on := 7, ground := Ground.textOnly Departure.lateStoresUnsure }, { on := 8, ground := Ground.phase }, { on := 9, ground := Ground.phase }], guard := none }) rfl (fun K hK => ?_) AllReadyH.nil)
                 obtain ⟨z1, z2, z3, z4⟩ := blk2 hP4.out
                 go_simp
                 try go_wp2_with fail
                 refine hK.out _ _ (below2 hdk4.out hlP _ _) (fun hHeld => ?_)
                 clear hK K hHeld z1 z2 z3 z4
                 try simp only [Act.put, List.setIfInBounds_toArray, List.set_cons_zero, List.set_cons_succ]
                 obtain ⟨y5, hy⟩ : ∃ y, (y4.setCell ⟨y2.heap.size, 0, none⟩ (.int .i64 (pu : Int))).setCell ⟨y2.heap.size, 1, none⟩ (.int .i64 pb) = y := ⟨_, rfl⟩
                 have hdk5 : Hid (Below wx.heap.size wx y5) := by rw [← hy]; exact hid (below2 hdk4.out hlP _ _)
                 have hP5 : Hid (y5.heap[y2.heap.size]? = some (.cells #[.int .i64 (pu : Int), .int .i64 pb] 45 (0, 0))) := by rw [← hy]; exact hid (set2_block hP4.out _ _)
                 have hQ5 : Hid (y5.heap[y3.heap.size]? = some (.cells #[.int .i64 0, .int .i64 0] 45 (0, 0))) := by rw [← hy, Below.heap_setCell _ _ _ _ (by show y3.heap.size ≠ y2.heap.size; omega), Below.heap_setCell _ _ _ _ (by show y3.heap.size ≠ y2.heap.size; omega)]; exact hQ4
                 rw [hy]
                 clear hy
                 refine wpAnyH_ready (rs := [11]) (by kernel_rfl) (by simp) ?_
                 refine (AllReadyH.cons (o := { dst := none, op := Op.store 45 (Operand.tmp 15) (Operand.tmp 61), type := 0, pos := "law.go:206", after := #[{ on := 9, ground := Ground.data }, { on := 7, ground := Ground.data }, { on := 10, ground := Ground.chain }, { on := 0, ground := Ground.phase }, { on := 1, ground := Ground.phase }, { on := 2, ground := Ground.phase }, { on := 3, ground := Ground.phase }, { on := 4, ground := Ground.phase }, { on := 5, ground := Ground.phase }, { on := 6, ground := Ground.phase }, { on := 7, ground := Ground.phase }, { on := 8, ground := Ground.phase }, { on := 9, ground := Ground.phase }, { on := 10, ground := Ground.phase }], guard := none }) rfl (fun K hK => ?_) AllReadyH.nil)
                 obtain ⟨z1, z2, z3, z4⟩ := blk2 hQ5.out
                 go_simp
                 try go_wp2_with fail
                 refine hK.out _ _ (below2 hdk5.out hlQ _ _) (fun hHeld => ?_)
                 clear hK K hHeld z1 z2 z3 z4
                 try simp only [Act.put, List.setIfInBounds_toArray, List.set_cons_zero, List.set_cons_succ]
                 obtain ⟨y6, hy⟩ : ∃ y, (y5.setCell ⟨y3.heap.size, 0, none⟩ (.int .i64 (qu : Int))).setCell ⟨y3.heap.size, 1, none⟩ (.int .i64 qb) = y := ⟨_, rfl⟩
                 have hdk6 : Hid (Below wx.heap.size wx y6) := by rw [← hy]; exact hid (below2 hdk5.out hlQ _ _)
                 have hQ6 : Hid (y6.heap[y3.heap.size]? = some (.cells #[.int .i64 (qu : Int), .int .i64 qb] 45 (0, 0))) := by rw [← hy]; exact hid (set2_block hQ5.out _ _)
                 have hP6 : Hid (y6.heap[y2.heap.size]? = some (.cells #[.int .i64 (pu : Int), .int .i64 pb] 45 (0, 0))) := by rw [← hy, Below.heap_setCell _ _ _ _ (by show y2.heap.size ≠ y3.heap.size; omega), Below.heap_setCell _ _ _ _ (by show y2.heap.size ≠ y3.heap.size; omega)]; exact hP5
                 rw [hy]
                 clear hy
                 refine wpAnyH_done (by kernel_rfl) ?_ _
                 refine NoPanic.normal ?_
                 go_wp2_with fail
                 go_meet
                 case rel => exact ⟨_, _, pu, pb, qu, qb, rfl, rfl, hdk6.out, hpu, hpc, hqu, hqc, hP6.out, hQ6.out⟩
               · skip
                 go_simp
                 refine hK.out _ _ (hdk2.out.alloc hdk2.out.size _) (fun hHeld => ?_)
                 clear hK K hHeld
                 try simp only [Act.put, List.setIfInBounds_toArray, List.set_cons_zero, List.set_cons_succ]
                 obtain ⟨y7, hy⟩ : ∃ y, y2.alloc (.cells #[.int .i64 0, .int .i64 0] 45) = y := ⟨_, rfl⟩
                 have hdk7 : Hid (Below wx.heap.size wx y7) := by rw [← hy]; exact hid (hdk2.out.alloc hdk2.out.size _)
                 have hQ7 : Hid (y7.heap[y2.heap.size]? = some (.cells #[.int .i64 0, .int .i64 0] 45 (0, 0))) := by rw [← hy]; exact hid (heap_alloc_new _ _)
                 have hlQ : wx.heap.size ≤ y2.heap.size := hdk2.out.size
                 rw [hy]
                 clear hy
                 refine wpAnyH_ready (rs := [8]) (by kernel_rfl) (by simp) ?_
                 refine (AllReadyH.cons (o := { dst := some 14, op := Op.alloc 45, type := 0, pos := "law.go:206", after := #[], guard := none }) rfl (fun K hK => ?_) AllReadyH.nil)
                 go_simp
                 refine hK.out _ _ (hdk7.out.alloc hdk7.out.size _) (fun hHeld => ?_)
                 clear hK K hHeld
                 try simp only [Act.put, List.setIfInBounds_toArray, List.set_cons_zero, List.set_cons_succ]
                 obtain ⟨y8, hy⟩ : ∃ y, y7.alloc (.cells #[.int .i64 0, .int .i64 0] 45) = y := ⟨_, rfl⟩
                 have hdk8 : Hid (Below wx.heap.size wx y8) := by rw [← hy]; exact hid (hdk7.out.alloc hdk7.out.size _)
                 have hP8 : Hid (y8.heap[y7.heap.size]? = some (.cells #[.int .i64 0, .int .i64 0] 45 (0, 0))) := by rw [← hy]; exact hid (heap_alloc_new _ _)
                 have hlP : wx.heap.size ≤ y7.heap.size := hdk7.out.size
                 have hQ8 : Hid (y8.heap[y2.heap.size]? = some (.cells #[.int .i64 0, .int .i64 0] 45 (0, 0))) := by rw [← hy]; exact hid (al_keep hQ7.out)
                 have hPQ : y2.heap.size ≠ y7.heap.size := by have := (Array.getElem?_eq_some_iff.1 hQ7.out).1; omega
                 rw [hy]
                 clear hy
                 refine wpAnyH_ready (rs := [10]) (by kernel_rfl) (by simp) ?_
                 refine (AllReadyH.cons (o := { dst := none, op := Op.store 45 (Operand.tmp 14) (Operand.tmp 57), type := 0, pos := "law.go:206", after := #[{ on := 8, ground := Ground.data }, { on := 3, ground := Ground.data }, { on := 7, ground := Ground.chain }, { on := 0, ground := Ground.phase }, { on := 1, ground := Ground.phase }, { on := 2, ground := Ground.phase }, { on := 3, ground := Ground.phase }, { on := 4, ground := Ground.textOnly Departure.lateStores }, { on := 5, ground := Ground.textOnly Departure.lateStores }, { on := 6, ground := Ground.textOnly Departure.lateStores }, { on := 7, ground := Ground.textOnly Departure.lateStoresUnsure }, { on := 8, ground := Ground.phase }, { on := 9, ground := Ground.phase }], guard := none }) rfl (fun K hK => ?_) AllReadyH.nil)
                 obtain ⟨z1, z2, z3, z4⟩ := blk2 hP8.out
                 go_simp
                 try go_wp2_with fail
                 refine hK.out _ _ (below2 hdk8.out hlP _ _) (fun hHeld => ?_)
                 clear hK K hHeld z1 z2 z3 z4
                 try simp only [Act.put, List.setIfInBounds_toArray, List.set_cons_zero, List.set_cons_succ]
                 obtain ⟨y9, hy⟩ : ∃ y, (y8.setCell ⟨y7.heap.size, 0, none⟩ (.int .i64 (pu : Int))).setCell ⟨y7.heap.size, 1, none⟩ (.int .i64 pb) = y := ⟨_, rfl⟩
                 have hdk9 : Hid (Below wx.heap.size wx y9) := by rw [← hy]; exact hid (below2 hdk8.out hlP _ _)
                 have hP9 : Hid (y9.heap[y7.heap.size]? = some (.cells #[.int .i64 (pu : Int), .int .i64 pb] 45 (0, 0))) := by rw [← hy]; exact hid (set2_block hP8.out _ _)
                 have hQ9 : Hid (y9.heap[y2.heap.size]? = some (.cells #[.int .i64 0, .int .i64 0] 45 (0, 0))) := by rw [← hy, Below.heap_setCell _ _ _ _ (by show y2.heap.size ≠ y7.heap.size; omega), Below.heap_setCell _ _ _ _ (by show y2.heap.size ≠ y7.heap.size; omega)]; exact hQ8
                 rw [hy]
                 clear hy
                 refine wpAnyH_ready (rs := [11]) (by kernel_rfl) (by simp) ?_
                 refine (AllReadyH.cons (o := { dst := none, op := Op.store 45 (Operand.tmp 15) (Operand.tmp 61), type := 0, pos := "law.go:206", after := #[{ on := 9, ground := Ground.data }, { on := 7, ground := Ground.data }, { on := 10, ground := Ground.chain }, { on := 0, ground := Ground.phase }, { on := 1, ground := Ground.phase }, { on := 2, ground := Ground.phase }, { on := 3, ground := Ground.phase }, { on := 4, ground := Ground.phase }, { on := 5, ground := Ground.phase }, { on := 6, ground := Ground.phase }, { on := 7, ground := Ground.phase }, { on := 8, ground := Ground.phase }, { on := 9, ground := Ground.phase }, { on := 10, ground := Ground.phase }], guard := none }) rfl (fun K hK => ?_) AllReadyH.nil)
                 obtain ⟨z1, z2, z3, z4⟩ := blk2 hQ9.out
                 go_simp
                 try go_wp2_with fail
                 refine hK.out _ _ (below2 hdk9.out hlQ _ _) (fun hHeld => ?_)
                 clear hK K hHeld z1 z2 z3 z4
                 try simp only [Act.put, List.setIfInBounds_toArray, List.set_cons_zero, List.set_cons_succ]
                 obtain ⟨y10, hy⟩ : ∃ y, (y9.setCell ⟨y2.heap.size, 0, none⟩ (.int .i64 (qu : Int))).setCell ⟨y2.heap.size, 1, none⟩ (.int .i64 qb) = y := ⟨_, rfl⟩
                 have hdk10 : Hid (Below wx.heap.size wx y10) := by rw [← hy]; exact hid (below2 hdk9.out hlQ _ _)
                 have hQ10 : Hid (y10.heap[y2.heap.size]? = some (.cells #[.int .i64 (qu : Int), .int .i64 qb] 45 (0, 0))) := by rw [← hy]; exact hid (set2_block hQ9.out _ _)
                 have hP10 : Hid (y10.heap[y7.heap.size]? = some (.cells #[.int .i64 (pu : Int), .int .i64 pb] 45 (0, 0))) := by rw [← hy, Below.heap_setCell _ _ _ _ (by show y7.heap.size ≠ y2.heap.size; omega), Below.heap_setCell _ _ _ _ (by show y7.heap.size ≠ y2.heap.size; omega)]; exact hP9
                 rw [hy]
                 clear hy
                 refine wpAnyH_done (by kernel_rfl) ?_ _
                 refine NoPanic.normal ?_
                 go_wp2_with fail
                 go_meet
                 case rel => exact ⟨_, _, pu, pb, qu, qb, rfl, rfl, hdk10.out, hpu, hpc, hqu, hqc, hP10.out, hQ10.out⟩
             · skip
               go_simp
               refine hK.out _ _ (hdk1.out.alloc hdk1.out.size _) (fun hHeld => ?_)
               clear hK K hHeld
               try simp only [Act.put, List.setIfInBounds_toArray, List.set_cons_zero, List.set_cons_succ]
               obtain ⟨y11, hy⟩ : ∃ y, y1.alloc (.cells #[.int .i64 0, .int .i64 0] 45) = y := ⟨_, rfl⟩
               have hdk11 : Hid (Below wx.heap.size wx y11) := by rw [← hy]; exact hid (hdk1.out.alloc hdk1.out.size _)
               have hP11 : Hid (y11.heap[y1.heap.size]? = some (.cells #[.int .i64 0, .int .i64 0] 45 (0, 0))) := by rw [← hy]; exact hid (heap_alloc_new _ _)
               have hlP : wx.heap.size ≤ y1.heap.size := hdk1.out.size
               rw [hy]
               clear hy
               refine wpAnyH_ready (rs := [7, 9]) (by kernel_rfl) (by simp) ?_
               refine (AllReadyH.cons (o := { dst := some 61, op := Op.call { callee := Callee.value (Operand.func 14), args := #[Operand.tmp 58, Operand.tmp 60, Operand.const (Value.bool false)], argTypes := #[27, 45, 4] }, type := 45, pos := "law.go:206", after := #[{ on := 4, ground := Ground.data }, { on := 6, ground := Ground.data }, { on := 3, ground := Ground.chain }], guard := none }) rfl (fun K hK => ?_) (AllReadyH.cons (o := { dst := some 15, op := Op.alloc 45, type := 0, pos := "law.go:206", after := #[], guard := none }) rfl (fun K hK => ?_) AllReadyH.nil))
               · skip
                 go_simp
                 refine (hcor.out _ _ y11 hdk11.out).mono ?_
                 rintro x y12 ⟨qu, qb, rfl, hqu, hqc, b2⟩
                 replace hqc := hid hqc
                 have hdk12 : Hid (Below wx.heap.size wx y12) := hid (hdk11.out.trans (b2.mono hdk11.out.size))
                 have hP12 := hid ((b2.block _ (Array.getElem?_eq_some_iff.1 hP11.out).1).trans hP11.out)
                 clear b2
                 try go_wp2_with fail
                 refine hK.out _ _ hdk12.out (fun hHeld => ?_)
                 clear hK K hHeld
                 try simp only [Act.put, List.setIfInBounds_toArray, List.set_cons_zero, List.set_cons_succ]
                 refine wpAnyH_ready (rs := [9]) (by kernel_rfl) (by simp) ?_
                 refine (AllReadyH.cons (o := { dst := some 15, op := Op.alloc 45, type := 0, pos := "law.go:206", after := #[], guard := none }) rfl (fun K hK => ?_) AllReadyH.nil)
                 go_simp
                 refine hK.out _ _ (hdk12.out.alloc hdk12.out.size _) (fun hHeld => ?_)
                 clear hK K hHeld
                 try simp only [Act.put, List.setIfInBounds_toArray, List.set_cons_zero, List.set_cons_succ]
                 obtain ⟨y13, hy⟩ : ∃ y, y12.alloc (.cells #[.int .i64 0, .int .i64 0] 45) = y := ⟨_, rfl⟩
                 have hdk13 : Hid (Below wx.heap.size wx y13) := by rw [← hy]; exact hid (hdk12.out.alloc hdk12.out.size _)
                 have hQ13 : Hid (y13.heap[y12.heap.size]? = some (.cells #[.int .i64 0, .int .i64 0] 45 (0, 0))) := by rw [← hy]; exact hid (heap_alloc_new _ _)
                 have hlQ : wx.heap.size ≤ y12.heap.size := hdk12.out.size
                 have hP13 : Hid (y13.heap[y1.heap.size]? = some (.cells #[.int .i64 0, .int .i64 0] 45 (0, 0))) := by rw [← hy]; exact hid (al_keep hP12.out)
                 have hPQ : y1.heap.size ≠ y12.heap.size := by have := (Array.getElem?_eq_some_iff.1 hP12.out).1; omega
                 rw [hy]
                 clear hy
                 refine wpAnyH_ready (rs := [10]) (by kernel_rfl) (by simp) ?_
                 refine (AllReadyH.cons (o := { dst := none, op := Op.store 45 (Operand.tmp 14) (Operand.tmp 57), type := 0, pos := "law.go:206", after := #[{ on := 8, ground := Ground.data }, { on := 3, ground := Ground.data }, { on := 7, ground := Ground.chain }, { on := 0, ground := Ground.phase }, { on := 1, ground := Ground.phase }, { on := 2, ground := Ground.phase }, { on := 3, ground := Ground.phase }, { on := 4, ground := Ground.textOnly Departure.lateStores }, { on := 5, ground := Ground.textOnly Departure.lateStores }, { on := 6, ground := Ground.textOnly Departure.lateStores }, { on := 7, ground := Ground.textOnly Departure.lateStoresUnsure }, { on := 8, ground := Ground.phase }, { on := 9, ground := Ground.phase }], guard := none }) rfl (fun K hK => ?_) AllReadyH.nil)
                 obtain ⟨z1, z2, z3, z4⟩ := blk2 hP13.out
                 go_simp
                 try go_wp2_with fail
                 refine hK.out _ _ (below2 hdk13.out hlP _ _) (fun hHeld => ?_)
                 clear hK K hHeld z1 z2 z3 z4
                 try simp only [Act.put, List.setIfInBounds_toArray, List.set_cons_zero, List.set_cons_succ]
                 obtain ⟨y14, hy⟩ : ∃ y, (y13.setCell ⟨y1.heap.size, 0, none⟩ (.int .i64 (pu : Int))).setCell ⟨y1.heap.size, 1, none⟩ (.int .i64 pb) = y := ⟨_, rfl⟩
                 have hdk14 : Hid (Below wx.heap.size wx y14) := by rw [← hy]; exact hid (below2 hdk13.out hlP _ _)
                 have hP14 : Hid (y14.heap[y1.heap.size]? = some (.cells #[.int .i64 (pu : Int), .int .i64 pb] 45 (0, 0))) := by rw [← hy]; exact hid (set2_block hP13.out _ _)
                 have hQ14 : Hid (y14.heap[y12.heap.size]? = some (.cells #[.int .i64 0, .int .i64 0] 45 (0, 0))) := by rw [← hy, Below.heap_setCell _ _ _ _ (by show y12.heap.size ≠ y1.heap.size; omega), Below.heap_setCell _ _ _ _ (by show y12.heap.size ≠ y1.heap.size; omega)]; exact hQ13
                 rw [hy]
                 clear hy
                 refine wpAnyH_ready (rs := [11]) (by kernel_rfl) (by simp) ?_
                 refine (AllReadyH.cons (o := { dst := none, op := Op.store 45 (Operand.tmp 15) (Operand.tmp 61), type := 0, pos := "law.go:206", after := #[{ on := 9, ground := Ground.data }, { on := 7, ground := Ground.data }, { on := 10, ground := Ground.chain }, { on := 0, ground := Ground.phase }, { on := 1, ground := Ground.phase }, { on := 2, ground := Ground.phase }, { on := 3, ground := Ground.phase }, { on := 4, ground := Ground.phase }, { on := 5, ground := Ground.phase }, { on := 6, ground := Ground.phase }, { on := 7, ground := Ground.phase }, { on := 8, ground := Ground.phase }, { on := 9, ground := Ground.phase }, { on := 10, ground := Ground.phase }], guard := none }) rfl (fun K hK => ?_) AllReadyH.nil)
                 obtain ⟨z1, z2, z3, z4⟩ := blk2 hQ14.out
                 go_simp
                 try go_wp2_with fail
                 refine hK.out _ _ (below2 hdk14.out hlQ _ _) (fun hHeld => ?_)
                 clear hK K hHeld z1 z2 z3 z4
                 try simp only [Act.put, List.setIfInBounds_toArray, List.set_cons_zero, List.set_cons_succ]
                 obtain ⟨y15, hy⟩ : ∃ y, (y14.setCell ⟨y12.heap.size, 0, none⟩ (.int .i64 (qu : Int))).setCell ⟨y12.heap.size, 1, none⟩ (.int .i64 qb) = y := ⟨_, rfl⟩
                 have hdk15 : Hid (Below wx.heap.size wx y15) := by rw [← hy]; exact hid (below2 hdk14.out hlQ _ _)
                 have hQ15 : Hid (y15.heap[y12.heap.size]? = some (.cells #[.int .i64 (qu : Int), .int .i64 qb] 45 (0, 0))) := by rw [← hy]; exact hid (set2_block hQ14.out _ _)
                 have hP15 : Hid (y15.heap[y1.heap.size]? = some (.cells #[.int .i64 (pu : Int), .int .i64 pb] 45 (0, 0))) := by rw [← hy, Below.heap_setCell _ _ _ _ (by show y1.heap.size ≠ y12.heap.size; omega), Below.heap_setCell _ _ _ _ (by show y1.heap.size ≠ y12.heap.size; omega)]; exact hP14
                 rw [hy]
                 clear hy
                 refine wpAnyH_done (by kernel_rfl) ?_ _
                 refine NoPanic.normal ?_
                 go_wp2_with fail
                 go_meet
                 case rel => exact ⟨_, _, pu, pb, qu, qb, rfl, rfl, hdk15.out, hpu, hpc, hqu, hqc, hP15.out, hQ15.out⟩
               · skip
                 go_simp
                 refine hK.out _ _ (hdk11.out.alloc hdk11.out.size _) (fun hHeld => ?_)
                 clear hK K hHeld
                 try simp only [Act.put, List.setIfInBounds_toArray, List.set_cons_zero, List.set_cons_succ]
                 obtain ⟨y16, hy⟩ : ∃ y, y11.alloc (.cells #[.int .i64 0, .int .i64 0] 45) = y := ⟨_, rfl⟩
                 have hdk16 : Hid (Below wx.heap.size wx y16) := by rw [← hy]; exact hid (hdk11.out.alloc hdk11.out.size _)
                 have hQ16 : Hid (y16.heap[y11.heap.size]? = some (.cells #[.int .i64 0, .int .i64 0] 45 (0, 0))) := by rw [← hy]; exact hid (heap_alloc_new _ _)
                 have hlQ : wx.heap.size ≤ y11.heap.size := hdk11.out.size
                 have hP16 : Hid (y16.heap[y1.heap.size]? = some (.cells #[.int .i64 0, .int .i64 0] 45 (0, 0))) := by rw [← hy]; exact hid (al_keep hP11.out)
                 have hPQ : y1.heap.size ≠ y11.heap.size := by have := (Array.getElem?_eq_some_iff.1 hP11.out).1; omega
                 rw [hy]
                 clear hy
                 refine wpAnyH_ready (rs := [7]) (by kernel_rfl) (by simp) ?_
                 refine (AllReadyH.cons (o := { dst := some 61, op := Op.call { callee := Callee.value (Operand.func 14), args := #[Operand.tmp 58, Operand.tmp 60, Operand.const (Value.bool false)], argTypes := #[27, 45, 4] }, type := 45, pos := "law.go:206", after := #[{ on := 4, ground := Ground.data }, { on := 6, ground := Ground.data }, { on := 3, ground := Ground.chain }], guard := none }) rfl (fun K hK => ?_) AllReadyH.nil)
                 go_simp
                 refine (hcor.out _ _ y16 hdk16.out).mono ?_
                 rintro x y17 ⟨qu, qb, rfl, hqu, hqc, b2⟩
                 replace hqc := hid hqc
                 have hdk17 : Hid (Below wx.heap.size wx y17) := hid (hdk16.out.trans (b2.mono hdk16.out.size))
                 have hP17 := hid ((b2.block _ (Array.getElem?_eq_some_iff.1 hP16.out).1).trans hP16.out)
                 have hQ17 := hid ((b2.block _ (Array.getElem?_eq_some_iff.1 hQ16.out).1).trans hQ16.out)
                 clear b2
                 try go_wp2_with fail
                 refine hK.out _ _ hdk17.out (fun hHeld => ?_)
                 clear hK K hHeld
                 try simp only [Act.put, List.setIfInBounds_toArray, List.set_cons_zero, List.set_cons_succ]
                 refine wpAnyH_ready (rs := [10]) (by kernel_rfl) (by simp) ?_
                 refine (AllReadyH.cons (o := { dst := none, op := Op.store 45 (Operand.tmp 14) (Operand.tmp 57), type := 0, pos := "law.go:206", after := #[{ on := 8, ground := Ground.data }, { on := 3, ground := Ground.data }, { on := 7, ground := Ground.chain }, { on := 0, ground := Ground.phase }, { on := 1, ground := Ground.phase }, { on := 2, ground := Ground.phase }, { on := 3, ground := Ground.phase }, { on := 4, ground := Ground.textOnly Departure.lateStores }, { on := 5, ground := Ground.textOnly Departure.lateStores }, { on := 6, ground := Ground.textOnly Departure.lateStores }, { on := 7, ground := Ground.textOnly Departure.lateStoresUnsure }, { on := 8, ground := Ground.phase }, { on := 9, ground := Ground.phase }], guard := none }) rfl (fun K hK => ?_) AllReadyH.nil)
                 obtain ⟨z1, z2, z3, z4⟩ := blk2 hP17.out
                 go_simp
                 try go_wp2_with fail
                 refine hK.out _ _ (below2 hdk17.out hlP _ _) (fun hHeld => ?_)
                 clear hK K hHeld z1 z2 z3 z4
                 try simp only [Act.put, List.setIfInBounds_toArray, List.set_cons_zero, List.set_cons_succ]
                 obtain ⟨y18, hy⟩ : ∃ y, (y17.setCell ⟨y1.heap.size, 0, none⟩ (.int .i64 (pu : Int))).setCell ⟨y1.heap.size, 1, none⟩ (.int .i64 pb) = y := ⟨_, rfl⟩
                 have hdk18 : Hid (Below wx.heap.size wx y18) := by rw [← hy]; exact hid (below2 hdk17.out hlP _ _)
                 have hP18 : Hid (y18.heap[y1.heap.size]? = some (.cells #[.int .i64 (pu : Int), .int .i64 pb] 45 (0, 0))) := by rw [← hy]; exact hid (set2_block hP17.out _ _)
                 have hQ18 : Hid (y18.heap[y11.heap.size]? = some (.cells #[.int .i64 0, .int .i64 0] 45 (0, 0))) := by rw [← hy, Below.heap_setCell _ _ _ _ (by show y11.heap.size ≠ y1.heap.size; omega), Below.heap_setCell _ _ _ _ (by show y11.heap.size ≠ y1.heap.size; omega)]; exact hQ17
                 rw [hy]
                 clear hy
                 refine wpAnyH_ready (rs := [11]) (by kernel_rfl) (by simp) ?_
                 refine (AllReadyH.cons (o := { dst := none, op := Op.store 45 (Operand.tmp 15) (Operand.tmp 61), type := 0, pos := "law.go:206", after := #[{ on := 9, ground := Ground.data }, { on := 7, ground := Ground.data }, { on := 10, ground := Ground.chain }, { on := 0, ground := Ground.phase }, { on := 1, ground := Ground.phase }, { on := 2, ground := Ground.phase }, { on := 3, ground := Ground.phase }, { on := 4, ground := Ground.phase }, { on := 5, ground := Ground.phase }, { on := 6, ground := Ground.phase }, { on := 7, ground := Ground.phase }, { on := 8, ground := Ground.phase }, { on := 9, ground := Ground.phase }, { on := 10, ground := Ground.phase }], guard := none }) rfl (fun K hK => ?_) AllReadyH.nil)
                 obtain ⟨z1, z2, z3, z4⟩ := blk2 hQ18.out
                 go_simp
                 try go_wp2_with fail
                 refine hK.out _ _ (below2 hdk18.out hlQ _ _) (fun hHeld => ?_)
                 clear hK K hHeld z1 z2 z3 z4
                 try simp only [Act.put, List.setIfInBounds_toArray, List.set_cons_zero, List.set_cons_succ]
                 obtain ⟨y19, hy⟩ : ∃ y, (y18.setCell ⟨y11.heap.size, 0, none⟩ (.int .i64 (qu : Int))).setCell ⟨y11.heap.size, 1, none⟩ (.int .i64 qb) = y := ⟨_, rfl⟩
                 have hdk19 : Hid (Below wx.heap.size wx y19) := by rw [← hy]; exact hid (below2 hdk18.out hlQ _ _)
                 have hQ19 : Hid (y19.heap[y11.heap.size]? = some (.cells #[.int .i64 (qu : Int), .int .i64 qb] 45 (0, 0))) := by rw [← hy]; exact hid (set2_block hQ18.out _ _)
                 have hP19 : Hid (y19.heap[y1.heap.size]? = some (.cells #[.int .i64 (pu : Int), .int .i64 pb] 45 (0, 0))) := by rw [← hy, Below.heap_setCell _ _ _ _ (by show y1.heap.size ≠ y11.heap.size; omega), Below.heap_setCell _ _ _ _ (by show y1.heap.size ≠ y11.heap.size; omega)]; exact hP18
                 rw [hy]
                 clear hy
                 refine wpAnyH_done (by kernel_rfl) ?_ _
                 refine NoPanic.normal ?_
                 go_wp2_with fail
                 go_meet
                 case rel => exact ⟨_, _, pu, pb, qu, qb, rfl, rfl, hdk19.out, hpu, hpc, hqu, hqc, hP19.out, hQ19.out⟩
             · skip
               go_simp
               refine hK.out _ _ (hdk1.out.alloc hdk1.out.size _) (fun hHeld => ?_)
               clear hK K hHeld
               try simp only [Act.put, List.setIfInBounds_toArray, List.set_cons_zero, List.set_cons_succ]
               obtain ⟨y20, hy⟩ : ∃ y, y1.alloc (.cells #[.int .i64 0, .int .i64 0] 45) = y := ⟨_, rfl⟩
               have hdk20 : Hid (Below wx.heap.size wx y20) := by rw [← hy]; exact hid (hdk1.out.alloc hdk1.out.size _)
               have hQ20 : Hid (y20.heap[y1.heap.size]? = some (.cells #[.int .i64 0, .int .i64 0] 45 (0, 0))) := by rw [← hy]; exact hid (heap_alloc_new _ _)
               have hlQ : wx.heap.size ≤ y1.heap.size := hdk1.out.size
               rw [hy]
               clear hy
               refine wpAnyH_ready (rs := [7, 8]) (by kernel_rfl) (by simp) ?_
               refine (AllReadyH.cons (o := { dst := some 61, op := Op.call { callee := Callee.value (Operand.func 14), args := #[Operand.tmp 58, Operand.tmp 60, Operand.const (Value.bool false)], argTypes := #[27, 45, 4] }, type := 45, pos := "law.go:206", after := #[{ on := 4, ground := Ground.data }, { on := 6, ground := Ground.data }, { on := 3, ground := Ground.chain }], guard := none }) rfl (fun K hK => ?_) (AllReadyH.cons (o := { dst := some 14, op := Op.alloc 45, type := 0, pos := "law.go:206", after := #[], guard := none }) rfl (fun K hK => ?_) AllReadyH.nil))
               · skip
                 go_simp
                 refine (hcor.out _ _ y20 hdk20.out).mono ?_
                 rintro x y21 ⟨qu, qb, rfl, hqu, hqc, b2⟩
                 replace hqc := hid hqc
                 have hdk21 : Hid (Below wx.heap.size wx y21) := hid (hdk20.out.trans (b2.mono hdk20.out.size))
                 have hQ21 := hid ((b2.block _ (Array.getElem?_eq_some_iff.1 hQ20.out).1).trans hQ20.out)
                 clear b2
                 try go_wp2_with fail
                 refine hK.out _ _ hdk21.out (fun hHeld => ?_)
                 clear hK K hHeld
                 try simp only [Act.put, List.setIfInBounds_toArray, List.set_cons_zero, List.set_cons_succ]
                 refine wpAnyH_ready (rs := [8]) (by kernel_rfl) (by simp) ?_
                 refine (AllReadyH.cons (o := { dst := some 14, op := Op.alloc 45, type := 0, pos := "law.go:206", after := #[], guard := none }) rfl (fun K hK => ?_) AllReadyH.nil)
                 go_simp
                 refine hK.out _ _ (hdk21.out.alloc hdk21.out.size _) (fun hHeld => ?_)
                 clear hK K hHeld
                 try simp only [Act.put, List.setIfInBounds_toArray, List.set_cons_zero, List.set_cons_succ]
                 obtain ⟨y22, hy⟩ : ∃ y, y21.alloc (.cells #[.int .i64 0, .int .i64 0] 45) = y := ⟨_, rfl⟩
                 have hdk22 : Hid (Below wx.heap.size wx y22) := by rw [← hy]; exact hid (hdk21.out.alloc hdk21.out.size _)
                 have hP22 : Hid (y22.heap[y21.heap.size]? = some (.cells #[.int .i64 0, .int .i64 0] 45 (0, 0))) := by rw [← hy]; exact hid (heap_alloc_new _ _)
                 have hlP : wx.heap.size ≤ y21.heap.size := hdk21.out.size
                 have hQ22 : Hid (y22.heap[y1.heap.size]? = some (.cells #[.int .i64 0, .int .i64 0] 45 (0, 0))) := by rw [← hy]; exact hid (al_keep hQ21.out)
                 have hPQ : y1.heap.size ≠ y21.heap.size := by have := (Array.getElem?_eq_some_iff.1 hQ21.out).1; omega
                 rw [hy]
                 clear hy
                 refine wpAnyH_ready (rs := [10]) (by kernel_rfl) (by simp) ?_
                 refine (AllReadyH.cons (o := { dst := none, op := Op.store 45 (Operand.tmp 14) (Operand.tmp 57), type := 0, pos := "law.go:206", after := #[{ on := 8, ground := Ground.data }, { on := 3, ground := Ground.data }, { on := 7, ground := Ground.chain }, { on := 0, ground := Ground.phase }, { on := 1, ground := Ground.phase }, { on := 2, ground := Ground.phase }, { on := 3, ground := Ground.phase }, { on := 4, ground := Ground.textOnly Departure.lateStores }, { on := 5, ground := Ground.textOnly Departure.lateStores }, { on := 6, ground := Ground.textOnly Departure.lateStores }, { on := 7, ground := Ground.textOnly Departure.lateStoresUnsure }, { on := 8, ground := Ground.phase }, { on := 9, ground := Ground.phase }], guard := none }) rfl (fun K hK => ?_) AllReadyH.nil)
                 obtain ⟨z1, z2, z3, z4⟩ := blk2 hP22.out
                 go_simp
                 try go_wp2_with fail
                 refine hK.out _ _ (below2 hdk22.out hlP _ _) (fun hHeld => ?_)
                 clear hK K hHeld z1 z2 z3 z4
                 try simp only [Act.put, List.setIfInBounds_toArray, List.set_cons_zero, List.set_cons_succ]
                 obtain ⟨y23, hy⟩ : ∃ y, (y22.setCell ⟨y21.heap.size, 0, none⟩ (.int .i64 (pu : Int))).setCell ⟨y21.heap.size, 1, none⟩ (.int .i64 pb) = y := ⟨_, rfl⟩
                 have hdk23 : Hid (Below wx.heap.size wx y23) := by rw [← hy]; exact hid (below2 hdk22.out hlP _ _)
                 have hP23 : Hid (y23.heap[y21.heap.size]? = some (.cells #[.int .i64 (pu : Int), .int .i64 pb] 45 (0, 0))) := by rw [← hy]; exact hid (set2_block hP22.out _ _)
                 have hQ23 : Hid (y23.heap[y1.heap.size]? = some (.cells #[.int .i64 0, .int .i64 0] 45 (0, 0))) := by rw [← hy, Below.heap_setCell _ _ _ _ (by show y1.heap.size ≠ y21.heap.size; omega), Below.heap_setCell _ _ _ _ (by show y1.heap.size ≠ y21.heap.size; omega)]; exact hQ22
                 rw [hy]
                 clear hy
                 refine wpAnyH_ready (rs := [11]) (by kernel_rfl) (by simp) ?_
                 refine (AllReadyH.cons (o := { dst := none, op := Op.store 45 (Operand.tmp 15) (Operand.tmp 61), type := 0, pos := "law.go:206", after := #[{ on := 9, ground := Ground.data }, { on := 7, ground := Ground.data }, { on := 10, ground := Ground.chain }, { on := 0, ground := Ground.phase }, { on := 1, ground := Ground.phase }, { on := 2, ground := Ground.phase }, { on := 3, ground := Ground.phase }, { on := 4, ground := Ground.phase }, { on := 5, ground := Ground.phase }, { on := 6, ground := Ground.phase }, { on := 7, ground := Ground.phase }, { on := 8, ground := Ground.phase }, { on := 9, ground := Ground.phase }, { on := 10, ground := Ground.phase }], guard := none }) rfl (fun K hK => ?_) AllReadyH.nil)
                 obtain ⟨z1, z2, z3, z4⟩ := blk2 hQ23.out
                 go_simp
                 try go_wp2_with fail
                 refine hK.out _ _ (below2 hdk23.out hlQ _ _) (fun hHeld => ?_)
                 clear hK K hHeld z1 z2 z3 z4
                 try simp only [Act.put, List.setIfInBounds_toArray, List.set_cons_zero, List.set_cons_succ]
                 obtain ⟨y24, hy⟩ : ∃ y, (y23.setCell ⟨y1.heap.size, 0, none⟩ (.int .i64 (qu : Int))).setCell ⟨y1.heap.size, 1, none⟩ (.int .i64 qb) = y := ⟨_, rfl⟩
                 have hdk24 : Hid (Below wx.heap.size wx y24) := by rw [← hy]; exact hid (below2 hdk23.out hlQ _ _)
                 have hQ24 : Hid (y24.heap[y1.heap.size]? = some (.cells #[.int .i64 (qu : Int), .int .i64 qb] 45 (0, 0))) := by rw [← hy]; exact hid (set2_block hQ23.out _ _)
                 have hP24 : Hid (y24.heap[y21.heap.size]? = some (.cells #[.int .i64 (pu : Int), .int .i64 pb] 45 (0, 0))) := by rw [← hy, Below.heap_setCell _ _ _ _ (by show y21.heap.size ≠ y1.heap.size; omega), Below.heap_setCell _ _ _ _ (by show y21.heap.size ≠ y1.heap.size; omega)]; exact hP23
                 rw [hy]
                 clear hy
                 refine wpAnyH_done (by kernel_rfl) ?_ _
                 refine NoPanic.normal ?_
                 go_wp2_with fail
                 go_meet
                 case rel => exact ⟨_, _, pu, pb, qu, qb, rfl, rfl, hdk24.out, hpu, hpc, hqu, hqc, hP24.out, hQ24.out⟩
               · skip
                 go_simp
                 refine hK.out _ _ (hdk20.out.alloc hdk20.out.size _) (fun hHeld => ?_)
                 clear hK K hHeld
                 try simp only [Act.put, List.setIfInBounds_toArray, List.set_cons_zero, List.set_cons_succ]
                 obtain ⟨y25, hy⟩ : ∃ y, y20.alloc (.cells #[.int .i64 0, .int .i64 0] 45) = y := ⟨_, rfl⟩
                 have hdk25 : Hid (Below wx.heap.size wx y25) := by rw [← hy]; exact hid (hdk20.out.alloc hdk20.out.size _)
                 have hP25 : Hid (y25.heap[y20.heap.size]? = some (.cells #[.int .i64 0, .int .i64 0] 45 (0, 0))) := by rw [← hy]; exact hid (heap_alloc_new _ _)
                 have hlP : wx.heap.size ≤ y20.heap.size := hdk20.out.size
                 have hQ25 : Hid (y25.heap[y1.heap.size]? = some (.cells #[.int .i64 0, .int .i64 0] 45 (0, 0))) := by rw [← hy]; exact hid (al_keep hQ20.out)
                 have hPQ : y1.heap.size ≠ y20.heap.size := by have := (Array.getElem?_eq_some_iff.1 hQ20.out).1; omega
                 rw [hy]
                 clear hy
                 refine wpAnyH_ready (rs := [7]) (by kernel_rfl) (by simp) ?_
                 refine (AllReadyH.cons (o := { dst := some 61, op := Op.call { callee := Callee.value (Operand.func 14), args := #[Operand.tmp 58, Operand.tmp 60, Operand.const (Value.bool false)], argTypes := #[27, 45, 4] }, type := 45, pos := "law.go:206", after := #[{ on := 4, ground := Ground.data }, { on := 6, ground := Ground.data }, { on := 3, ground := Ground.chain }], guard := none }) rfl (fun K hK => ?_) AllReadyH.nil)
                 go_simp
                 refine (hcor.out _ _ y25 hdk25.out).mono ?_
                 rintro x y26 ⟨qu, qb, rfl, hqu, hqc, b2⟩
                 replace hqc := hid hqc
                 have hdk26 : Hid (Below wx.heap.size wx y26) := hid (hdk25.out.trans (b2.mono hdk25.out.size))
                 have hP26 := hid ((b2.block _ (Array.getElem?_eq_some_iff.1 hP25.out).1).trans hP25.out)
                 have hQ26 := hid ((b2.block _ (Array.getElem?_eq_some_iff.1 hQ25.out).1).trans hQ25.out)
                 clear b2
                 try go_wp2_with fail
                 refine hK.out _ _ hdk26.out (fun hHeld => ?_)
                 clear hK K hHeld
                 try simp only [Act.put, List.setIfInBounds_toArray, List.set_cons_zero, List.set_cons_succ]
                 refine wpAnyH_ready (rs := [10]) (by kernel_rfl) (by simp) ?_
                 refine (AllReadyH.cons (o := { dst := none, op := Op.store 45 (Operand.tmp 14) (Operand.tmp 57), type := 0, pos := "law.go:206", after := #[{ on := 8, ground := Ground.data }, { on := 3, ground := Ground.data }, { on := 7, ground := Ground.chain }, { on := 0, ground := Ground.phase }, { on := 1, ground := Ground.phase }, { on := 2, ground := Ground.phase }, { on := 3, ground := Ground.phase }, { on := 4, ground := Ground.textOnly Departure.lateStores }, { on := 5, ground := Ground.textOnly Departure.lateStores }, { on := 6, ground := Ground.textOnly Departure.lateStores }, { on := 7, ground := Ground.textOnly Departure.lateStoresUnsure }, { on := 8, ground := Ground.phase }, { on := 9, ground := Ground.phase }], guard := none }) rfl (fun K hK => ?_) AllReadyH.nil)
                 obtain ⟨z1, z2, z3, z4⟩ := blk2 hP26.out
                 go_simp
                 try go_wp2_with fail
                 refine hK.out _ _ (below2 hdk26.out hlP _ _) (fun hHeld => ?_)
                 clear hK K hHeld z1 z2 z3 z4
                 try simp only [Act.put, List.setIfInBounds_toArray, List.set_cons_zero, List.set_cons_succ]
                 obtain ⟨y27, hy⟩ : ∃ y, (y26.setCell ⟨y20.heap.size, 0, none⟩ (.int .i64 (pu : Int))).setCell ⟨y20.heap.size, 1, none⟩ (.int .i64 pb) = y := ⟨_, rfl⟩
                 have hdk27 : Hid (Below wx.heap.size wx y27) := by rw [← hy]; exact hid (below2 hdk26.out hlP _ _)
                 have hP27 : Hid (y27.heap[y20.heap.size]? = some (.cells #[.int .i64 (pu : Int), .int .i64 pb] 45 (0, 0))) := by rw [← hy]; exact hid (set2_block hP26.out _ _)
                 have hQ27 : Hid (y27.heap[y1.heap.size]? = some (.cells #[.int .i64 0, .int .i64 0] 45 (0, 0))) := by rw [← hy, Below.heap_setCell _ _ _ _ (by show y1.heap.size ≠ y20.heap.size; omega), Below.heap_setCell _ _ _ _ (by show y1.heap.size ≠ y20.heap.size; omega)]; exact hQ26
                 rw [hy]
                 clear hy
                 refine wpAnyH_ready (rs := [11]) (by kernel_rfl) (by simp) ?_
                 refine (AllReadyH.cons (o := { dst := none, op := Op.store 45 (Operand.tmp 15) (Operand.tmp 61), type := 0, pos := "law.go:206", after := #[{ on := 9, ground := Ground.data }, { on := 7, ground := Ground.data }, { on := 10, ground := Ground.chain }, { on := 0, ground := Ground.phase }, { on := 1, ground := Ground.phase }, { on := 2, ground := Ground.phase }, { on := 3, ground := Ground.phase }, { on := 4, ground := Ground.phase }, { on := 5, ground := Ground.phase }, { on := 6, ground := Ground.phase }, { on := 7, ground := Ground.phase }, { on := 8, ground := Ground.phase }, { on := 9, ground := Ground.phase }, { on := 10, ground := Ground.phase }], guard := none }) rfl (fun K hK => ?_) AllReadyH.nil)
                 obtain ⟨z1, z2, z3, z4⟩ := blk2 hQ27.out
                 go_simp
                 try go_wp2_with fail
                 refine hK.out _ _ (below2 hdk27.out hlQ _ _) (fun hHeld => ?_)
                 clear hK K hHeld z1 z2 z3 z4
                 try simp only [Act.put, List.setIfInBounds_toArray, List.set_cons_zero, List.set_cons_succ]
                 obtain ⟨y28, hy⟩ : ∃ y, (y27.setCell ⟨y1.heap.size, 0, none⟩ (.int .i64 (qu : Int))).setCell ⟨y1.heap.size, 1, none⟩ (.int .i64 qb) = y := ⟨_, rfl⟩
                 have hdk28 : Hid (Below wx.heap.size wx y28) := by rw [← hy]; exact hid (below2 hdk27.out hlQ _ _)
                 have hQ28 : Hid (y28.heap[y1.heap.size]? = some (.cells #[.int .i64 (qu : Int), .int .i64 qb] 45 (0, 0))) := by rw [← hy]; exact hid (set2_block hQ27.out _ _)
                 have hP28 : Hid (y28.heap[y20.heap.size]? = some (.cells #[.int .i64 (pu : Int), .int .i64 pb] 45 (0, 0))) := by rw [← hy, Below.heap_setCell _ _ _ _ (by show y20.heap.size ≠ y1.heap.size; omega), Below.heap_setCell _ _ _ _ (by show y20.heap.size ≠ y1.heap.size; omega)]; exact hP27
                 rw [hy]
                 clear hy
                 refine wpAnyH_done (by kernel_rfl) ?_ _
                 refine NoPanic.normal ?_
                 go_wp2_with fail
                 go_meet
                 case rel => exact ⟨_, _, pu, pb, qu, qb, rfl, rfl, hdk28.out, hpu, hpc, hqu, hqc, hP28.out, hQ28.out⟩
           · skip
             go_simp
             refine hK.out _ _ (hdk0.out.alloc hdk0.out.size _) (fun hHeld => ?_)
             clear hK K hHeld
             try simp only [Act.put, List.setIfInBounds_toArray, List.set_cons_zero, List.set_cons_succ]
             obtain ⟨y29, hy⟩ : ∃ y, y0.alloc (.cells #[.int .i64 0, .int .i64 0] 45) = y := ⟨_, rfl⟩
             have hdk29 : Hid (Below wx.heap.size wx y29) := by rw [← hy]; exact hid (hdk0.out.alloc hdk0.out.size _)
             have hP29 : Hid (y29.heap[y0.heap.size]? = some (.cells #[.int .i64 0, .int .i64 0] 45 (0, 0))) := by rw [← hy]; exact hid (heap_alloc_new _ _)
             have hlP : wx.heap.size ≤ y0.heap.size := hdk0.out.size
             rw [hy]
             clear hy
             refine wpAnyH_ready (rs := [3, 9]) (by kernel_rfl) (by simp) ?_
             refine (AllReadyH.cons (o := { dst := some 57, op := Op.call { callee := Callee.value (Operand.func 14), args := #[Operand.tmp 54, Operand.tmp 56, Operand.const (Value.bool false)], argTypes := #[27, 45, 4] }, type := 45, pos := "law.go:206", after := #[{ on := 0, ground := Ground.data }, { on := 2, ground := Ground.data }], guard := none }) rfl (fun K hK => ?_) (AllReadyH.cons (o := { dst := some 15, op := Op.alloc 45, type := 0, pos := "law.go:206", after := #[], guard := none }) rfl (fun K hK => ?_) AllReadyH.nil))
             · skip
               go_simp
               refine (hcor.out _ _ y29 hdk29.out).mono ?_
               rintro x y30 ⟨pu, pb, rfl, hpu, hpc, b2⟩
               replace hpc := hid hpc
               have hdk30 : Hid (Below wx.heap.size wx y30) := hid (hdk29.out.trans (b2.mono hdk29.out.size))
               have hP30 := hid ((b2.block _ (Array.getElem?_eq_some_iff.1 hP29.out).1).trans hP29.out)
               clear b2
               try go_wp2_with fail
               refine hK.out _ _ hdk30.out (fun hHeld => ?_)
               clear hK K hHeld
               try simp only [Act.put, List.setIfInBounds_toArray, List.set_cons_zero, List.set_cons_succ]
               refine wpAnyH_ready (rs := [7, 9]) (by kernel_rfl) (by simp) ?_
               refine (AllReadyH.cons (o := { dst := some 61, op := Op.call { callee := Callee.value (Operand.func 14), args := #[Operand.tmp 58, Operand.tmp 60, Operand.const (Value.bool false)], argTypes := #[27, 45, 4] }, type := 45, pos := "law.go:206", after := #[{ on := 4, ground := Ground.data }, { on := 6, ground := Ground.data }, { on := 3, ground := Ground.chain }], guard := none }) rfl (fun K hK => ?_) (AllReadyH.cons (o := { dst := some 15, op := Op.alloc 45, type := 0, pos := "law.go:206", after := #[], guard := none }) rfl (fun K hK => ?_) AllReadyH.nil))
               · skip
                 go_simp
                 refine (hcor.out _ _ y30 hdk30.out).mono ?_
                 rintro x y31 ⟨qu, qb, rfl, hqu, hqc, b2⟩
                 replace hqc := hid hqc
                 have hdk31 : Hid (Below wx.heap.size wx y31) := hid (hdk30.out.trans (b2.mono hdk30.out.size))
                 have hP31 := hid ((b2.block _ (Array.getElem?_eq_some_iff.1 hP30.out).1).trans hP30.out)
                 clear b2
                 try go_wp2_with fail
                 refine hK.out _ _ hdk31.out (fun hHeld => ?_)
                 clear hK K hHeld
                 try simp only [Act.put, List.setIfInBounds_toArray, List.set_cons_zero, List.set_cons_succ]
                 refine wpAnyH_ready (rs := [9]) (by kernel_rfl) (by simp) ?_
                 refine (AllReadyH.cons (o := { dst := some 15, op := Op.alloc 45, type := 0, pos := "law.go:206", after := #[], guard := none }) rfl (fun K hK => ?_) AllReadyH.nil)
                 go_simp
                 refine hK.out _ _ (hdk31.out.alloc hdk31.out.size _) (fun hHeld => ?_)
                 clear hK K hHeld
                 try simp only [Act.put, List.setIfInBounds_toArray, List.set_cons_zero, List.set_cons_succ]
                 obtain ⟨y32, hy⟩ : ∃ y, y31.alloc (.cells #[.int .i64 0, .int .i64 0] 45) = y := ⟨_, rfl⟩
                 have hdk32 : Hid (Below wx.heap.size wx y32) := by rw [← hy]; exact hid (hdk31.out.alloc hdk31.out.size _)
                 have hQ32 : Hid (y32.heap[y31.heap.size]? = some (.cells #[.int .i64 0, .int .i64 0] 45 (0, 0))) := by rw [← hy]; exact hid (heap_alloc_new _ _)
                 have hlQ : wx.heap.size ≤ y31.heap.size := hdk31.out.size
                 have hP32 : Hid (y32.heap[y0.heap.size]? = some (.cells #[.int .i64 0, .int .i64 0] 45 (0, 0))) := by rw [← hy]; exact hid (al_keep hP31.out)
                 have hPQ : y0.heap.size ≠ y31.heap.size := by have := (Array.getElem?_eq_some_iff.1 hP31.out).1; omega
                 rw [hy]
                 clear hy
                 refine wpAnyH_ready (rs := [10]) (by kernel_rfl) (by simp) ?_
                 refine (AllReadyH.cons (o := { dst := none, op := Op.store 45 (Operand.tmp 14) (Operand.tmp 57), type := 0, pos := "law.go:206", after := #[{ on := 8, ground := Ground.data }, { on := 3, ground := Ground.data }, { on := 7, ground := Ground.chain }, { on := 0, ground := Ground.phase }, { on := 1, ground := Ground.phase }, { on := 2, ground := Ground.phase }, { on := 3, ground := Ground.phase }, { on := 4, ground := Ground.textOnly Departure.lateStores }, { on := 5, ground := Ground.textOnly Departure.lateStores }, { on := 6, ground := Ground.textOnly Departure.lateStores }, { on := 7, ground := Ground.textOnly Departure.lateStoresUnsure }, { on := 8, ground := Ground.phase }, { on := 9, ground := Ground.phase }], guard := none }) rfl (fun K hK => ?_) AllReadyH.nil)
                 obtain ⟨z1, z2, z3, z4⟩ := blk2 hP32.out
                 go_simp
                 try go_wp2_with fail
                 refine hK.out _ _ (below2 hdk32.out hlP _ _) (fun hHeld => ?_)
                 clear hK K hHeld z1 z2 z3 z4
                 try simp only [Act.put, List.setIfInBounds_toArray, List.set_cons_zero, List.set_cons_succ]
                 obtain ⟨y33, hy⟩ : ∃ y, (y32.setCell ⟨y0.heap.size, 0, none⟩ (.int .i64 (pu : Int))).setCell ⟨y0.heap.size, 1, none⟩ (.int .i64 pb) = y := ⟨_, rfl⟩
                 have hdk33 : Hid (Below wx.heap.size wx y33) := by rw [← hy]; exact hid (below2 hdk32.out hlP _ _)
                 have hP33 : Hid (y33.heap[y0.heap.size]? = some (.cells #[.int .i64 (pu : Int), .int .i64 pb] 45 (0, 0))) := by rw [← hy]; exact hid (set2_block hP32.out _ _)
                 have hQ33 : Hid (y33.heap[y31.heap.size]? = some (.cells #[.int .i64 0, .int .i64 0] 45 (0, 0))) := by rw [← hy, Below.heap_setCell _ _ _ _ (by show y31.heap.size ≠ y0.heap.size; omega), Below.heap_setCell _ _ _ _ (by show y31.heap.size ≠ y0.heap.size; omega)]; exact hQ32
                 rw [hy]
                 clear hy
                 refine wpAnyH_ready (rs := [11]) (by kernel_rfl) (by simp) ?_
                 refine (AllReadyH.cons (o := { dst := none, op := Op.store 45 (Operand.tmp 15) (Operand.tmp 61), type := 0, pos := "law.go:206", after := #[{ on := 9, ground := Ground.data }, { on := 7, ground := Ground.data }, { on := 10, ground := Ground.chain }, { on := 0, ground := Ground.phase }, { on := 1, ground := Ground.phase }, { on := 2, ground := Ground.phase }, { on := 3, ground := Ground.phase }, { on := 4, ground := Ground.phase }, { on := 5, ground := Ground.phase }, { on := 6, ground := Ground.phase }, { on := 7, ground := Ground.phase }, { on := 8, ground := Ground.phase }, { on := 9, ground := Ground.phase }, { on := 10, ground := Ground.phase }], guard := none }) rfl (fun K hK => ?_) AllReadyH.nil)
                 obtain ⟨z1, z2, z3, z4⟩ := blk2 hQ33.out
                 go_simp
                 try go_wp2_with fail
                 refine hK.out _ _ (below2 hdk33.out hlQ _ _) (fun hHeld => ?_)
                 clear hK K hHeld z1 z2 z3 z4
                 try simp only [Act.put, List.setIfInBounds_toArray, List.set_cons_zero, List.set_cons_succ]
                 obtain ⟨y34, hy⟩ : ∃ y, (y33.setCell ⟨y31.heap.size, 0, none⟩ (.int .i64 (qu : Int))).setCell ⟨y31.heap.size, 1, none⟩ (.int .i64 qb) = y := ⟨_, rfl⟩
                 have hdk34 : Hid (Below wx.heap.size wx y34) := by rw [← hy]; exact hid (below2 hdk33.out hlQ _ _)
                 have hQ34 : Hid (y34.heap[y31.heap.size]? = some (.cells #[.int .i64 (qu : Int), .int .i64 qb] 45 (0, 0))) := by rw [← hy]; exact hid (set2_block hQ33.out _ _)
                 have hP34 : Hid (y34.heap[y0.heap.size]? = some (.cells #[.int .i64 (pu : Int), .int .i64 pb] 45 (0, 0))) := by rw [← hy, Below.heap_setCell _ _ _ _ (by show y0.heap.size ≠ y31.heap.size; omega), Below.heap_setCell _ _ _ _ (by show y0.heap.size ≠ y31.heap.size; omega)]; exact hP33
                 rw [hy]
                 clear hy
                 refine wpAnyH_done (by kernel_rfl) ?_ _
                 refine NoPanic.normal ?_
                 go_wp2_with fail
                 go_meet
                 case rel => exact ⟨_, _, pu, pb, qu, qb, rfl, rfl, hdk34.out, hpu, hpc, hqu, hqc, hP34.out, hQ34.out⟩
               · skip
                 go_simp
                 refine hK.out _ _ (hdk30.out.alloc hdk30.out.size _) (fun hHeld => ?_)
                 clear hK K hHeld
                 try simp only [Act.put, List.setIfInBounds_toArray, List.set_cons_zero, List.set_cons_succ]
                 obtain ⟨y35, hy⟩ : ∃ y, y30.alloc (.cells #[.int .i64 0, .int .i64 0] 45) = y := ⟨_, rfl⟩
                 have hdk35 : Hid (Below wx.heap.size wx y35) := by rw [← hy]; exact hid (hdk30.out.alloc hdk30.out.size _)
                 have hQ35 : Hid (y35.heap[y30.heap.size]? = some (.cells #[.int .i64 0, .int .i64 0] 45 (0, 0))) := by rw [← hy]; exact hid (heap_alloc_new _ _)
                 have hlQ : wx.heap.size ≤ y30.heap.size := hdk30.out.size
                 have hP35 : Hid (y35.heap[y0.heap.size]? = some (.cells #[.int .i64 0, .int .i64 0] 45 (0, 0))) := by rw [← hy]; exact hid (al_keep hP30.out)
                 have hPQ : y0.heap.size ≠ y30.heap.size := by have := (Array.getElem?_eq_some_iff.1 hP30.out).1; omega
                 rw [hy]
                 clear hy
                 refine wpAnyH_ready (rs := [7]) (by kernel_rfl) (by simp) ?_
                 refine (AllReadyH.cons (o := { dst := some 61, op := Op.call { callee := Callee.value (Operand.func 14), args := #[Operand.tmp 58, Operand.tmp 60, Operand.const (Value.bool false)], argTypes := #[27, 45, 4] }, type := 45, pos := "law.go:206", after := #[{ on := 4, ground := Ground.data }, { on := 6, ground := Ground.data }, { on := 3, ground := Ground.chain }], guard := none }) rfl (fun K hK => ?_) AllReadyH.nil)
                 go_simp
                 refine (hcor.out _ _ y35 hdk35.out).mono ?_
                 rintro x y36 ⟨qu, qb, rfl, hqu, hqc, b2⟩
                 replace hqc := hid hqc
                 have hdk36 : Hid (Below wx.heap.size wx y36) := hid (hdk35.out.trans (b2.mono hdk35.out.size))
                 have hP36 := hid ((b2.block _ (Array.getElem?_eq_some_iff.1 hP35.out).1).trans hP35.out)
                 have hQ36 := hid ((b2.block _ (Array.getElem?_eq_some_iff.1 hQ35.out).1).trans hQ35.out)
                 clear b2
                 try go_wp2_with fail
                 refine hK.out _ _ hdk36.out (fun hHeld => ?_)
                 clear hK K hHeld
                 try simp only [Act.put, List.setIfInBounds_toArray, List.set_cons_zero, List.set_cons_succ]
                 refine wpAnyH_ready (rs := [10]) (by kernel_rfl) (by simp) ?_
                 refine (AllReadyH.cons (o := { dst := none, op := Op.store 45 (Operand.tmp 14) (Operand.tmp 57), type := 0, pos := "law.go:206", after := #[{ on := 8, ground := Ground.data }, { on := 3, ground := Ground.data }, { on := 7, ground := Ground.chain }, { on := 0, ground := Ground.phase }, { on := 1, ground := Ground.phase }, { on := 2, ground := Ground.phase }, { on := 3, ground := Ground.phase }, { on := 4, ground := Ground.textOnly Departure.lateStores }, { on := 5, ground := Ground.textOnly Departure.lateStores }, { on := 6, ground := Ground.textOnly Departure.lateStores }, { on := 7, ground := Ground.textOnly Departure.lateStoresUnsure }, { on := 8, ground := Ground.phase }, { on := 9, ground := Ground.phase }], guard := none }) rfl (fun K hK => ?_) AllReadyH.nil)
                 obtain ⟨z1, z2, z3, z4⟩ := blk2 hP36.out
                 go_simp
                 try go_wp2_with fail
                 refine hK.out _ _ (below2 hdk36.out hlP _ _) (fun hHeld => ?_)
                 clear hK K hHeld z1 z2 z3 z4
                 try simp only [Act.put, List.setIfInBounds_toArray, List.set_cons_zero, List.set_cons_succ]
                 obtain ⟨y37, hy⟩ : ∃ y, (y36.setCell ⟨y0.heap.size, 0, none⟩ (.int .i64 (pu : Int))).setCell ⟨y0.heap.size, 1, none⟩ (.int .i64 pb) = y := ⟨_, rfl⟩
                 have hdk37 : Hid (Below wx.heap.size wx y37) := by rw [← hy]; exact hid (below2 hdk36.out hlP _ _)
                 have hP37 : Hid (y37.heap[y0.heap.size]? = some (.cells #[.int .i64 (pu : Int), .int .i64 pb] 45 (0, 0))) := by rw [← hy]; exact hid (set2_block hP36.out _ _)
                 have hQ37 : Hid (y37.heap[y30.heap.size]? = some (.cells #[.int .i64 0, .int .i64 0] 45 (0, 0))) := by rw [← hy, Below.heap_setCell _ _ _ _ (by show y30.heap.size ≠ y0.heap.size; omega), Below.heap_setCell _ _ _ _ (by show y30.heap.size ≠ y0.heap.size; omega)]; exact hQ36
                 rw [hy]
                 clear hy
                 refine wpAnyH_ready (rs := [11]) (by kernel_rfl) (by simp) ?_
                 refine (AllReadyH.cons (o := { dst := none, op := Op.store 45 (Operand.tmp 15) (Operand.tmp 61), type := 0, pos := "law.go:206", after := #[{ on := 9, ground := Ground.data }, { on := 7, ground := Ground.data }, { on := 10, ground := Ground.chain }, { on := 0, ground := Ground.phase }, { on := 1, ground := Ground.phase }, { on := 2, ground := Ground.phase }, { on := 3, ground := Ground.phase }, { on := 4, ground := Ground.phase }, { on := 5, ground := Ground.phase }, { on := 6, ground := Ground.phase }, { on := 7, ground := Ground.phase }, { on := 8, ground := Ground.phase }, { on := 9, ground := Ground.phase }, { on := 10, ground := Ground.phase }], guard := none }) rfl (fun K hK => ?_) AllReadyH.nil)
                 obtain ⟨z1, z2, z3, z4⟩ := blk2 hQ37.out
                 go_simp
                 try go_wp2_with fail
                 refine hK.out _ _ (below2 hdk37.out hlQ _ _) (fun hHeld => ?_)
                 clear hK K hHeld z1 z2 z3 z4
                 try simp only [Act.put, List.setIfInBounds_toArray, List.set_cons_zero, List.set_cons_succ]
                 obtain ⟨y38, hy⟩ : ∃ y, (y37.setCell ⟨y30.heap.size, 0, none⟩ (.int .i64 (qu : Int))).setCell ⟨y30.heap.size, 1, none⟩ (.int .i64 qb) = y := ⟨_, rfl⟩
                 have hdk38 : Hid (Below wx.heap.size wx y38) := by rw [← hy]; exact hid (below2 hdk37.out hlQ _ _)
                 have hQ38 : Hid (y38.heap[y30.heap.size]? = some (.cells #[.int .i64 (qu : Int), .int .i64 qb] 45 (0, 0))) := by rw [← hy]; exact hid (set2_block hQ37.out _ _)
                 have hP38 : Hid (y38.heap[y0.heap.size]? = some (.cells #[.int .i64 (pu : Int), .int .i64 pb] 45 (0, 0))) := by rw [← hy, Below.heap_setCell _ _ _ _ (by show y0.heap.size ≠ y30.heap.size; omega), Below.heap_setCell _ _ _ _ (by show y0.heap.size ≠ y30.heap.size; omega)]; exact hP37
                 rw [hy]
                 clear hy
                 refine wpAnyH_done (by kernel_rfl) ?_ _
                 refine NoPanic.normal ?_
                 go_wp2_with fail
                 go_meet
                 case rel => exact ⟨_, _, pu, pb, qu, qb, rfl, rfl, hdk38.out, hpu, hpc, hqu, hqc, hP38.out, hQ38.out⟩
             · skip
               go_simp
               refine hK.out _ _ (hdk29.out.alloc hdk29.out.size _) (fun hHeld => ?_)
               clear hK K hHeld
               try simp only [Act.put, List.setIfInBounds_toArray, List.set_cons_zero, List.set_cons_succ]
               obtain ⟨y39, hy⟩ : ∃ y, y29.alloc (.cells #[.int .i64 0, .int .i64 0] 45) = y := ⟨_, rfl⟩
               have hdk39 : Hid (Below wx.heap.size wx y39) := by rw [← hy]; exact hid (hdk29.out.alloc hdk29.out.size _)
               have hQ39 : Hid (y39.heap[y29.heap.size]? = some (.cells #[.int .i64 0, .int .i64 0] 45 (0, 0))) := by rw [← hy]; exact hid (heap_alloc_new _ _)
               have hlQ : wx.heap.size ≤ y29.heap.size := hdk29.out.size
               have hP39 : Hid (y39.heap[y0.heap.size]? = some (.cells #[.int .i64 0, .int .i64 0] 45 (0, 0))) := by rw [← hy]; exact hid (al_keep hP29.out)
               have hPQ : y0.heap.size ≠ y29.heap.size := by have := (Array.getElem?_eq_some_iff.1 hP29.out).1; omega
               rw [hy]
               clear hy
               refine wpAnyH_ready (rs := [3]) (by kernel_rfl) (by simp) ?_
               refine (AllReadyH.cons (o := { dst := some 57, op := Op.call { callee := Callee.value (Operand.func 14), args := #[Operand.tmp 54, Operand.tmp 56, Operand.const (Value.bool false)], argTypes := #[27, 45, 4] }, type := 45, pos := "law.go:206", after := #[{ on := 0, ground := Ground.data }, { on := 2, ground := Ground.data }], guard := none }) rfl (fun K hK => ?_) AllReadyH.nil)
               go_simp
               refine (hcor.out _ _ y39 hdk39.out).mono ?_
               rintro x y40 ⟨pu, pb, rfl, hpu, hpc, b2⟩
               replace hpc := hid hpc
               have hdk40 : Hid (Below wx.heap.size wx y40) := hid (hdk39.out.trans (b2.mono hdk39.out.size))
               have hP40 := hid ((b2.block _ (Array.getElem?_eq_some_iff.1 hP39.out).1).trans hP39.out)
               have hQ40 := hid ((b2.block _ (Array.getElem?_eq_some_iff.1 hQ39.out).1).trans hQ39.out)
               clear b2
               try go_wp2_with fail
               refine hK.out _ _ hdk40.out (fun hHeld => ?_)
               clear hK K hHeld
               try simp only [Act.put, List.setIfInBounds_toArray, List.set_cons_zero, List.set_cons_succ]
               refine wpAnyH_ready (rs := [7]) (by kernel_rfl) (by simp) ?_
               refine (AllReadyH.cons (o := { dst := some 61, op := Op.call { callee := Callee.value (Operand.func 14), args := #[Operand.tmp 58, Operand.tmp 60, Operand.const (Value.bool false)], argTypes := #[27, 45, 4] }, type := 45, pos := "law.go:206", after := #[{ on := 4, ground := Ground.data }, { on := 6, ground := Ground.data }, { on := 3, ground := Ground.chain }], guard := none }) rfl (fun K hK => ?_) AllReadyH.nil)
               go_simp
               refine (hcor.out _ _ y40 hdk40.out).mono ?_
               rintro x y41 ⟨qu, qb, rfl, hqu, hqc, b2⟩
               replace hqc := hid hqc
               have hdk41 : Hid (Below wx.heap.size wx y41) := hid (hdk40.out.trans (b2.mono hdk40.out.size))
               have hP41 := hid ((b2.block _ (Array.getElem?_eq_some_iff.1 hP40.out).1).trans hP40.out)
               have hQ41 := hid ((b2.block _ (Array.getElem?_eq_some_iff.1 hQ40.out).1).trans hQ40.out)
               clear b2
               try go_wp2_with fail
               refine hK.out _ _ hdk41.out (fun hHeld => ?_)
               clear hK K hHeld
               try simp only [Act.put, List.setIfInBounds_toArray, List.set_cons_zero, List.set_cons_succ]
               refine wpAnyH_ready (rs := [10]) (by kernel_rfl) (by simp) ?_
               refine (AllReadyH.cons (o := { dst := none, op := Op.store 45 (Operand.tmp 14) (Operand.tmp 57), type := 0, pos := "law.go:206", after := #[{ on := 8, ground := Ground.data }, { on := 3, ground := Ground.data }, { on := 7, ground := Ground.chain }, { on := 0, ground := Ground.phase }, { on := 1, ground := Ground.phase }, { on := 2, ground := Ground.phase }, { on := 3, ground := Ground.phase }, { on := 4, ground := Ground.textOnly Departure.lateStores }, { on := 5, ground := Ground.textOnly Departure.lateStores }, { on := 6, ground := Ground.textOnly Departure.lateStores }, { on := 7, ground := Ground.textOnly Departure.lateStoresUnsure }, { on := 8, ground := Ground.phase }, { on := 9, ground := Ground.phase }], guard := none }) rfl (fun K hK => ?_) AllReadyH.nil)
               obtain ⟨z1, z2, z3, z4⟩ := blk2 hP41.out
               go_simp
               try go_wp2_with fail
               refine hK.out _ _ (below2 hdk41.out hlP _ _) (fun hHeld => ?_)
               clear hK K hHeld z1 z2 z3 z4
               try simp only [Act.put, List.setIfInBounds_toArray, List.set_cons_zero, List.set_cons_succ]
               obtain ⟨y42, hy⟩ : ∃ y, (y41.setCell ⟨y0.heap.size, 0, none⟩ (.int .i64 (pu : Int))).setCell ⟨y0.heap.size, 1, none⟩ (.int .i64 pb) = y := ⟨_, rfl⟩
               have hdk42 : Hid (Below wx.heap.size wx y42) := by rw [← hy]; exact hid (below2 hdk41.out hlP _ _)
               have hP42 : Hid (y42.heap[y0.heap.size]? = some (.cells #[.int .i64 (pu : Int), .int .i64 pb] 45 (0, 0))) := by rw [← hy]; exact hid (set2_block hP41.out _ _)
               have hQ42 : Hid (y42.heap[y29.heap.size]? = some (.cells #[.int .i64 0, .int .i64 0] 45 (0, 0))) := by rw [← hy, Below.heap_setCell _ _ _ _ (by show y29.heap.size ≠ y0.heap.size; omega), Below.heap_setCell _ _ _ _ (by show y29.heap.size ≠ y0.heap.size; omega)]; exact hQ41
               rw [hy]
               clear hy
               refine wpAnyH_ready (rs := [11]) (by kernel_rfl) (by simp) ?_
               refine (AllReadyH.cons (o := { dst := none, op := Op.store 45 (Operand.tmp 15) (Operand.tmp 61), type := 0, pos := "law.go:206", after := #[{ on := 9, ground := Ground.data }, { on := 7, ground := Ground.data }, { on := 10, ground := Ground.chain }, { on := 0, ground := Ground.phase }, { on := 1, ground := Ground.phase }, { on := 2, ground := Ground.phase }, { on := 3, ground := Ground.phase }, { on := 4, ground := Ground.phase }, { on := 5, ground := Ground.phase }, { on := 6, ground := Ground.phase }, { on := 7, ground := Ground.phase }, { on := 8, ground := Ground.phase }, { on := 9, ground := Ground.phase }, { on := 10, ground := Ground.phase }], guard := none }) rfl (fun K hK => ?_) AllReadyH.nil)
               obtain ⟨z1, z2, z3, z4⟩ := blk2 hQ42.out
               go_simp
               try go_wp2_with fail
               refine hK.out _ _ (below2 hdk42.out hlQ _ _) (fun hHeld => ?_)
               clear hK K hHeld z1 z2 z3 z4
               try simp only [Act.put, List.setIfInBounds_toArray, List.set_cons_zero, List.set_cons_succ]
               obtain ⟨y43, hy⟩ : ∃ y, (y42.setCell ⟨y29.heap.size, 0, none⟩ (.int .i64 (qu : Int))).setCell ⟨y29.heap.size, 1, none⟩ (.int .i64 qb) = y := ⟨_, rfl⟩
               have hdk43 : Hid (Below wx.heap.size wx y43) := by rw [← hy]; exact hid (below2 hdk42.out hlQ _ _)
               have hQ43 : Hid (y43.heap[y29.heap.size]? = some (.cells #[.int .i64 (qu : Int), .int .i64 qb] 45 (0, 0))) := by rw [← hy]; exact hid (set2_block hQ42.out _ _)
               have hP43 : Hid (y43.heap[y0.heap.size]? = some (.cells #[.int .i64 (pu : Int), .int .i64 pb] 45 (0, 0))) := by rw [← hy, Below.heap_setCell _ _ _ _ (by show y0.heap.size ≠ y29.heap.size; omega), Below.heap_setCell _ _ _ _ (by show y0.heap.size ≠ y29.heap.size; omega)]; exact hP42
               rw [hy]
               clear hy
               refine wpAnyH_done (by kernel_rfl) ?_ _
               refine NoPanic.normal ?_
               go_wp2_with fail
               go_meet
               case rel => exact ⟨_, _, pu, pb, qu, qb, rfl, rfl, hdk43.out, hpu, hpc, hqu, hqc, hP43.out, hQ43.out⟩
           · skip
             go_simp
             refine hK.out _ _ (hdk0.out.alloc hdk0.out.size _) (fun hHeld => ?_)
             clear hK K hHeld
             try simp only [Act.put, List.setIfInBounds_toArray, List.set_cons_zero, List.set_cons_succ]
             obtain ⟨y44, hy⟩ : ∃ y, y0.alloc (.cells #[.int .i64 0, .int .i64 0] 45) = y := ⟨_, rfl⟩
             have hdk44 : Hid (Below wx.heap.size wx y44) := by rw [← hy]; exact hid (hdk0.out.alloc hdk0.out.size _)
             have hQ44 : Hid (y44.heap[y0.heap.size]? = some (.cells #[.int .i64 0, .int .i64 0] 45 (0, 0))) := by rw [← hy]; exact hid (heap_alloc_new _ _)
             have hlQ : wx.heap.size ≤ y0.heap.size := hdk0.out.size
             rw [hy]
             clear hy
             refine wpAnyH_ready (rs := [3, 8]) (by kernel_rfl) (by simp) ?_
             refine (AllReadyH.cons (o := { dst := some 57, op := Op.call { callee := Callee.value (Operand.func 14), args := #[Operand.tmp 54, Operand.tmp 56, Operand.const (Value.bool false)], argTypes := #[27, 45, 4] }, type := 45, pos := "law.go:206", after := #[{ on := 0, ground := Ground.data }, { on := 2, ground := Ground.data }], guard := none }) rfl (fun K hK => ?_) (AllReadyH.cons (o := { dst := some 14, op := Op.alloc 45, type := 0, pos := "law.go:206", after := #[], guard := none }) rfl (fun K hK => ?_) AllReadyH.nil))
             · skip
               go_simp
               refine (hcor.out _ _ y44 hdk44.out).mono ?_
               rintro x y45 ⟨pu, pb, rfl, hpu, hpc, b2⟩
               replace hpc := hid hpc
               have hdk45 : Hid (Below wx.heap.size wx y45) := hid (hdk44.out.trans (b2.mono hdk44.out.size))
               have hQ45 := hid ((b2.block _ (Array.getElem?_eq_some_iff.1 hQ44.out).1).trans hQ44.out)
               clear b2
               try go_wp2_with fail
               refine hK.out _ _ hdk45.out (fun hHeld => ?_)
               clear hK K hHeld
               try simp only [Act.put, List.setIfInBounds_toArray, List.set_cons_zero, List.set_cons_succ]
               refine wpAnyH_ready (rs := [7, 8]) (by kernel_rfl) (by simp) ?_
               refine (AllReadyH.cons (o := { dst := some 61, op := Op.call { callee := Callee.value (Operand.func 14), args := #[Operand.tmp 58, Operand.tmp 60, Operand.const (Value.bool false)], argTypes := #[27, 45, 4] }, type := 45, pos := "law.go:206", after := #[{ on := 4, ground := Ground.data }, { on := 6, ground := Ground.data }, { on := 3, ground := Ground.chain }], guard := none }) rfl (fun K hK => ?_) (AllReadyH.cons (o := { dst := some 14, op := Op.alloc 45, type := 0, pos := "law.go:206", after := #[], guard := none }) rfl (fun K hK => ?_) AllReadyH.nil))
               · skip
                 go_simp
                 refine (hcor.out _ _ y45 hdk45.out).mono ?_
                 rintro x y46 ⟨qu, qb, rfl, hqu, hqc, b2⟩
                 replace hqc := hid hqc
                 have hdk46 : Hid (Below wx.heap.size wx y46) := hid (hdk45.out.trans (b2.mono hdk45.out.size))
                 have hQ46 := hid ((b2.block _ (Array.getElem?_eq_some_iff.1 hQ45.out).1).trans hQ45.out)
                 clear b2
                 try go_wp2_with fail
                 refine hK.out _ _ hdk46.out (fun hHeld => ?_)
                 clear hK K hHeld
                 try simp only [Act.put, List.setIfInBounds_toArray, List.set_cons_zero, List.set_cons_succ]
                 refine wpAnyH_ready (rs := [8]) (by kernel_rfl) (by simp) ?_
                 refine (AllReadyH.cons (o := { dst := some 14, op := Op.alloc 45, type := 0, pos := "law.go:206", after := #[], guard := none }) rfl (fun K hK => ?_) AllReadyH.nil)
                 go_simp
                 refine hK.out _ _ (hdk46.out.alloc hdk46.out.size _) (fun hHeld => ?_)
                 clear hK K hHeld
                 try simp only [Act.put, List.setIfInBounds_toArray, List.set_cons_zero, List.set_cons_succ]
                 obtain ⟨y47, hy⟩ : ∃ y, y46.alloc (.cells #[.int .i64 0, .int .i64 0] 45) = y := ⟨_, rfl⟩
                 have hdk47 : Hid (Below wx.heap.size wx y47) := by rw [← hy]; exact hid (hdk46.out.alloc hdk46.out.size _)
                 have hP47 : Hid (y47.heap[y46.heap.size]? = some (.cells #[.int .i64 0, .int .i64 0] 45 (0, 0))) := by rw [← hy]; exact hid (heap_alloc_new _ _)
                 have hlP : wx.heap.size ≤ y46.heap.size := hdk46.out.size
                 have hQ47 : Hid (y47.heap[y0.heap.size]? = some (.cells #[.int .i64 0, .int .i64 0] 45 (0, 0))) := by rw [← hy]; exact hid (al_keep hQ46.out)
                 have hPQ : y0.heap.size ≠ y46.heap.size := by have := (Array.getElem?_eq_some_iff.1 hQ46.out).1; omega
                 rw [hy]
                 clear hy
                 refine wpAnyH_ready (rs := [10]) (by kernel_rfl) (by simp) ?_
                 refine (AllReadyH.cons (o := { dst := none, op := Op.store 45 (Operand.tmp 14) (Operand.tmp 57), type := 0, pos := "law.go:206", after := #[{ on := 8, ground := Ground.data }, { on := 3, ground := Ground.data }, { on := 7, ground := Ground.chain }, { on := 0, ground := Ground.phase }, { on := 1, ground := Ground.phase }, { on := 2, ground := Ground.phase }, { on := 3, ground := Ground.phase }, { on := 4, ground := Ground.textOnly Departure.lateStores }, { on := 5, ground := Ground.textOnly Departure.lateStores }, { on := 6, ground := Ground.textOnly Departure.lateStores }, { on := 7, ground := Ground.textOnly Departure.lateStoresUnsure }, { on := 8, ground := Ground.phase }, { on := 9, ground := Ground.phase }], guard := none }) rfl (fun K hK => ?_) AllReadyH.nil)
                 obtain ⟨z1, z2, z3, z4⟩ := blk2 hP47.out
                 go_simp
                 try go_wp2_with fail
                 refine hK.out _ _ (below2 hdk47.out hlP _ _) (fun hHeld => ?_)
                 clear hK K hHeld z1 z2 z3 z4
                 try simp only [Act.put, List.setIfInBounds_toArray, List.set_cons_zero, List.set_cons_succ]
                 obtain ⟨y48, hy⟩ : ∃ y, (y47.setCell ⟨y46.heap.size, 0, none⟩ (.int .i64 (pu : Int))).setCell ⟨y46.heap.size, 1, none⟩ (.int .i64 pb) = y := ⟨_, rfl⟩
                 have hdk48 : Hid (Below wx.heap.size wx y48) := by rw [← hy]; exact hid (below2 hdk47.out hlP _ _)
                 have hP48 : Hid (y48.heap[y46.heap.size]? = some (.cells #[.int .i64 (pu : Int), .int .i64 pb] 45 (0, 0))) := by rw [← hy]; exact hid (set2_block hP47.out _ _)
                 have hQ48 : Hid (y48.heap[y0.heap.size]? = some (.cells #[.int .i64 0, .int .i64 0] 45 (0, 0))) := by rw [← hy, Below.heap_setCell _ _ _ _ (by show y0.heap.size ≠ y46.heap.size; omega), Below.heap_setCell _ _ _ _ (by show y0.heap.size ≠ y46.heap.size; omega)]; exact hQ47
                 rw [hy]
                 clear hy
                 refine wpAnyH_ready (rs := [11]) (by kernel_rfl) (by simp) ?_
                 refine (AllReadyH.cons (o := { dst := none, op := Op.store 45 (Operand.tmp 15) (Operand.tmp 61), type := 0, pos := "law.go:206", after := #[{ on := 9, ground := Ground.data }, { on := 7, ground := Ground.data }, { on := 10, ground := Ground.chain }, { on := 0, ground := Ground.phase }, { on := 1, ground := Ground.phase }, { on := 2, ground := Ground.phase }, { on := 3, ground := Ground.phase }, { on := 4, ground := Ground.phase }, { on := 5, ground := Ground.phase }, { on := 6, ground := Ground.phase }, { on := 7, ground := Ground.phase }, { on := 8, ground := Ground.phase }, { on := 9, ground := Ground.phase }, { on := 10, ground := Ground.phase }], guard := none }) rfl (fun K hK => ?_) AllReadyH.nil)
                 obtain ⟨z1, z2, z3, z4⟩ := blk2 hQ48.out
                 go_simp
                 try go_wp2_with fail
                 refine hK.out _ _ (below2 hdk48.out hlQ _ _) (fun hHeld => ?_)
                 clear hK K hHeld z1 z2 z3 z4
                 try simp only [Act.put, List.setIfInBounds_toArray, List.set_cons_zero, List.set_cons_succ]
                 obtain ⟨y49, hy⟩ : ∃ y, (y48.setCell ⟨y0.heap.size, 0, none⟩ (.int .i64 (qu : Int))).setCell ⟨y0.heap.size, 1, none⟩ (.int .i64 qb) = y := ⟨_, rfl⟩
                 have hdk49 : Hid (Below wx.heap.size wx y49) := by rw [← hy]; exact hid (below2 hdk48.out hlQ _ _)
                 have hQ49 : Hid (y49.heap[y0.heap.size]? = some (.cells #[.int .i64 (qu : Int), .int .i64 qb] 45 (0, 0))) := by rw [← hy]; exact hid (set2_block hQ48.out _ _)
                 have hP49 : Hid (y49.heap[y46.heap.size]? = some (.cells #[.int .i64 (pu : Int), .int .i64 pb] 45 (0, 0))) := by rw [← hy, Below.heap_setCell _ _ _ _ (by show y46.heap.size ≠ y0.heap.size; omega), Below.heap_setCell _ _ _ _ (by show y46.heap.size ≠ y0.heap.size; omega)]; exact hP48
                 rw [hy]
                 clear hy
                 refine wpAnyH_done (by kernel_rfl) ?_ _
                 refine NoPanic.normal ?_
                 go_wp2_with fail
                 go_meet
                 case rel => exact ⟨_, _, pu, pb, qu, qb, rfl, rfl, hdk49.out, hpu, hpc, hqu, hqc, hP49.out, hQ49.out⟩
               · skip
                 go_simp
                 refine hK.out _ _ (hdk45.out.alloc hdk45.out.size _) (fun hHeld => ?_)
                 clear hK K hHeld
                 try simp only [Act.put, List.setIfInBounds_toArray, List.set_cons_zero, List.set_cons_succ]
                 obtain ⟨y50, hy⟩ : ∃ y, y45.alloc (.cells #[.int .i64 0, .int .i64 0] 45) = y := ⟨_, rfl⟩
                 have hdk50 : Hid (Below wx.heap.size wx y50) := by rw [← hy]; exact hid (hdk45.out.alloc hdk45.out.size _)
                 have hP50 : Hid (y50.heap[y45.heap.size]? = some (.cells #[.int .i64 0, .int .i64 0] 45 (0, 0))) := by rw [← hy]; exact hid (heap_alloc_new _ _)
                 have hlP : wx.heap.size ≤ y45.heap.size := hdk45.out.size
                 have hQ50 : Hid (y50.heap[y0.heap.size]? = some (.cells #[.int .i64 0, .int .i64 0] 45 (0, 0))) := by rw [← hy]; exact hid (al_keep hQ45.out)
                 have hPQ : y0.heap.size ≠ y45.heap.size := by have := (Array.getElem?_eq_some_iff.1 hQ45.out).1; omega
                 rw [hy]
                 clear hy
                 refine wpAnyH_ready (rs := [7]) (by kernel_rfl) (by simp) ?_
                 refine (AllReadyH.cons (o := { dst := some 61, op := Op.call { callee := Callee.value (Operand.func 14), args := #[Operand.tmp 58, Operand.tmp 60, Operand.const (Value.bool false)], argTypes := #[27, 45, 4] }, type := 45, pos := "law.go:206", after := #[{ on := 4, ground := Ground.data }, { on := 6, ground := Ground.data }, { on := 3, ground := Ground.chain }], guard := none }) rfl (fun K hK => ?_) AllReadyH.nil)
                 go_simp
                 refine (hcor.out _ _ y50 hdk50.out).mono ?_
                 rintro x y51 ⟨qu, qb, rfl, hqu, hqc, b2⟩
                 replace hqc := hid hqc
                 have hdk51 : Hid (Below wx.heap.size wx y51) := hid (hdk50.out.trans (b2.mono hdk50.out.size))
                 have hP51 := hid ((b2.block _ (Array.getElem?_eq_some_iff.1 hP50.out).1).trans hP50.out)
                 have hQ51 := hid ((b2.block _ (Array.getElem?_eq_some_iff.1 hQ50.out).1).trans hQ50.out)
                 clear b2
                 try go_wp2_with fail
                 refine hK.out _ _ hdk51.out (fun hHeld => ?_)
                 clear hK K hHeld
                 try simp only [Act.put, List.setIfInBounds_toArray, List.set_cons_zero, List.set_cons_succ]
                 refine wpAnyH_ready (rs := [10]) (by kernel_rfl) (by simp) ?_
                 refine (AllReadyH.cons (o := { dst := none, op := Op.store 45 (Operand.tmp 14) (Operand.tmp 57), type := 0, pos := "law.go:206", after := #[{ on := 8, ground := Ground.data }, { on := 3, ground := Ground.data }, { on := 7, ground := Ground.chain }, { on := 0, ground := Ground.phase }, { on := 1, ground := Ground.phase }, { on := 2, ground := Ground.phase }, { on := 3, ground := Ground.phase }, { on := 4, ground := Ground.textOnly Departure.lateStores }, { on := 5, ground := Ground.textOnly Departure.lateStores }, { on := 6, ground := Ground.textOnly Departure.lateStores }, { on := 7, ground := Ground.textOnly Departure.lateStoresUnsure }, { on := 8, ground := Ground.phase }, { on := 9, ground := Ground.phase }], guard := none }) rfl (fun K hK => ?_) AllReadyH.nil)
                 obtain ⟨z1, z2, z3, z4⟩ := blk2 hP51.out
                 go_simp
                 try go_wp2_with fail
                 refine hK.out _ _ (below2 hdk51.out hlP _ _) (fun hHeld => ?_)
                 clear hK K hHeld z1 z2 z3 z4
                 try simp only [Act.put, List.setIfInBounds_toArray, List.set_cons_zero, List.set_cons_succ]
                 obtain ⟨y52, hy⟩ : ∃ y, (y51.setCell ⟨y45.heap.size, 0, none⟩ (.int .i64 (pu : Int))).setCell ⟨y45.heap.size, 1, none⟩ (.int .i64 pb) = y := ⟨_, rfl⟩
                 have hdk52 : Hid (Below wx.heap.size wx y52) := by rw [← hy]; exact hid (below2 hdk51.out hlP _ _)
                 have hP52 : Hid (y52.heap[y45.heap.size]? = some (.cells #[.int .i64 (pu : Int), .int .i64 pb] 45 (0, 0))) := by rw [← hy]; exact hid (set2_block hP51.out _ _)
                 have hQ52 : Hid (y52.heap[y0.heap.size]? = some (.cells #[.int .i64 0, .int .i64 0] 45 (0, 0))) := by rw [← hy, Below.heap_setCell _ _ _ _ (by show y0.heap.size ≠ y45.heap.size; omega), Below.heap_setCell _ _ _ _ (by show y0.heap.size ≠ y45.heap.size; omega)]; exact hQ51
                 rw [hy]
                 clear hy
                 refine wpAnyH_ready (rs := [11]) (by kernel_rfl) (by simp) ?_
                 refine (AllReadyH.cons (o := { dst := none, op := Op.store 45 (Operand.tmp 15) (Operand.tmp 61), type := 0, pos := "law.go:206", after := #[{ on := 9, ground := Ground.data }, { on := 7, ground := Ground.data }, { on := 10, ground := Ground.chain }, { on := 0, ground := Ground.phase }, { on := 1, ground := Ground.phase }, { on := 2, ground := Ground.phase }, { on := 3, ground := Ground.phase }, { on := 4, ground := Ground.phase }, { on := 5, ground := Ground.phase }, { on := 6, ground := Ground.phase }, { on := 7, ground := Ground.phase }, { on := 8, ground := Ground.phase }, { on := 9, ground := Ground.phase }, { on := 10, ground := Ground.phase }], guard := none }) rfl (fun K hK => ?_) AllReadyH.nil)
                 obtain ⟨z1, z2, z3, z4⟩ := blk2 hQ52.out
                 go_simp
                 try go_wp2_with fail
                 refine hK.out _ _ (below2 hdk52.out hlQ _ _) (fun hHeld => ?_)
                 clear hK K hHeld z1 z2 z3 z4
                 try simp only [Act.put, List.setIfInBounds_toArray, List.set_cons_zero, List.set_cons_succ]
                 obtain ⟨y53, hy⟩ : ∃ y, (y52.setCell ⟨y0.heap.size, 0, none⟩ (.int .i64 (qu : Int))).setCell ⟨y0.heap.size, 1, none⟩ (.int .i64 qb) = y := ⟨_, rfl⟩
                 have hdk53 : Hid (Below wx.heap.size wx y53) := by rw [← hy]; exact hid (below2 hdk52.out hlQ _ _)
                 have hQ53 : Hid (y53.heap[y0.heap.size]? = some (.cells #[.int .i64 (qu : Int), .int .i64 qb] 45 (0, 0))) := by rw [← hy]; exact hid (set2_block hQ52.out _ _)
                 have hP53 : Hid (y53.heap[y45.heap.size]? = some (.cells #[.int .i64 (pu : Int), .int .i64 pb] 45 (0, 0))) := by rw [← hy, Below.heap_setCell _ _ _ _ (by show y45.heap.size ≠ y0.heap.size; omega), Below.heap_setCell _ _ _ _ (by show y45.heap.size ≠ y0.heap.size; omega)]; exact hP52
                 rw [hy]
                 clear hy
                 refine wpAnyH_done (by kernel_rfl) ?_ _
                 refine NoPanic.normal ?_
                 go_wp2_with fail
                 go_meet
                 case rel => exact ⟨_, _, pu, pb, qu, qb, rfl, rfl, hdk53.out, hpu, hpc, hqu, hqc, hP53.out, hQ53.out⟩
             · skip
               go_simp
               refine hK.out _ _ (hdk44.out.alloc hdk44.out.size _) (fun hHeld => ?_)
               clear hK K hHeld
               try simp only [Act.put, List.setIfInBounds_toArray, List.set_cons_zero, List.set_cons_succ]
               obtain ⟨y54, hy⟩ : ∃ y, y44.alloc (.cells #[.int .i64 0, .int .i64 0] 45) = y := ⟨_, rfl⟩
               have hdk54 : Hid (Below wx.heap.size wx y54) := by rw [← hy]; exact hid (hdk44.out.alloc hdk44.out.size _)
               have hP54 : Hid (y54.heap[y44.heap.size]? = some (.cells #[.int .i64 0, .int .i64 0] 45 (0, 0))) := by rw [← hy]; exact hid (heap_alloc_new _ _)
               have hlP : wx.heap.size ≤ y44.heap.size := hdk44.out.size
               have hQ54 : Hid (y54.heap[y0.heap.size]? = some (.cells #[.int .i64 0, .int .i64 0] 45 (0, 0))) := by rw [← hy]; exact hid (al_keep hQ44.out)
               have hPQ : y0.heap.size ≠ y44.heap.size := by have := (Array.getElem?_eq_some_iff.1 hQ44.out).1; omega
               rw [hy]
               clear hy
               refine wpAnyH_ready (rs := [3]) (by kernel_rfl) (by simp) ?_
               refine (AllReadyH.cons (o := { dst := some 57, op := Op.call { callee := Callee.value (Operand.func 14), args := #[Operand.tmp 54, Operand.tmp 56, Operand.const (Value.bool false)], argTypes := #[27, 45, 4] }, type := 45, pos := "law.go:206", after := #[{ on := 0, ground := Ground.data }, { on := 2, ground := Ground.data }], guard := none }) rfl (fun K hK => ?_) AllReadyH.nil)
               go_simp
               refine (hcor.out _ _ y54 hdk54.out).mono ?_
               rintro x y55 ⟨pu, pb, rfl, hpu, hpc, b2⟩
               replace hpc := hid hpc
               have hdk55 : Hid (Below wx.heap.size wx y55) := hid (hdk54.out.trans (b2.mono hdk54.out.size))
               have hP55 := hid ((b2.block _ (Array.getElem?_eq_some_iff.1 hP54.out).1).trans hP54.out)
               have hQ55 := hid ((b2.block _ (Array.getElem?_eq_some_iff.1 hQ54.out).1).trans hQ54.out)
               clear b2
               try go_wp2_with fail
               refine hK.out _ _ hdk55.out (fun hHeld => ?_)
               clear hK K hHeld
               try simp only [Act.put, List.setIfInBounds_toArray, List.set_cons_zero, List.set_cons_succ]
               refine wpAnyH_ready (rs := [7]) (by kernel_rfl) (by simp) ?_
               refine (AllReadyH.cons (o := { dst := some 61, op := Op.call { callee := Callee.value (Operand.func 14), args := #[Operand.tmp 58, Operand.tmp 60, Operand.const (Value.bool false)], argTypes := #[27, 45, 4] }, type := 45, pos := "law.go:206", after := #[{ on := 4, ground := Ground.data }, { on := 6, ground := Ground.data }, { on := 3, ground := Ground.chain }], guard := none }) rfl (fun K hK => ?_) AllReadyH.nil)
               go_simp
               refine (hcor.out _ _ y55 hdk55.out).mono ?_
               rintro x y56 ⟨qu, qb, rfl, hqu, hqc, b2⟩
               replace hqc := hid hqc
               have hdk56 : Hid (Below wx.heap.size wx y56) := hid (hdk55.out.trans (b2.mono hdk55.out.size))
               have hP56 := hid ((b2.block _ (Array.getElem?_eq_some_iff.1 hP55.out).1).trans hP55.out)
               have hQ56 := hid ((b2.block _ (Array.getElem?_eq_some_iff.1 hQ55.out).1).trans hQ55.out)
               clear b2
               try go_wp2_with fail
               refine hK.out _ _ hdk56.out (fun hHeld => ?_)
               clear hK K hHeld
               try simp only [Act.put, List.setIfInBounds_toArray, List.set_cons_zero, List.set_cons_succ]
               refine wpAnyH_ready (rs := [10]) (by kernel_rfl) (by simp) ?_
               refine (AllReadyH.cons (o := { dst := none, op := Op.store 45 (Operand.tmp 14) (Operand.tmp 57), type := 0, pos := "law.go:206", after := #[{ on := 8, ground := Ground.data }, { on := 3, ground := Ground.data }, { on := 7, ground := Ground.chain }, { on := 0, ground := Ground.phase }, { on := 1, ground := Ground.phase }, { on := 2, ground := Ground.phase }, { on := 3, ground := Ground.phase }, { on := 4, ground := Ground.textOnly Departure.lateStores }, { on := 5, ground := Ground.textOnly Departure.lateStores }, { on := 6, ground := Ground.textOnly Departure.lateStores }, { on := 7, ground := Ground.textOnly Departure.lateStoresUnsure }, { on := 8, ground := Ground.phase }, { on := 9, ground := Ground.phase }], guard := none }) rfl (fun K hK => ?_) AllReadyH.nil)
               obtain ⟨z1, z2, z3, z4⟩ := blk2 hP56.out
               go_simp
               try go_wp2_with fail
               refine hK.out _ _ (below2 hdk56.out hlP _ _) (fun hHeld => ?_)
               clear hK K hHeld z1 z2 z3 z4
               try simp only [Act.put, List.setIfInBounds_toArray, List.set_cons_zero, List.set_cons_succ]
               obtain ⟨y57, hy⟩ : ∃ y, (y56.setCell ⟨y44.heap.size, 0, none⟩ (.int .i64 (pu : Int))).setCell ⟨y44.heap.size, 1, none⟩ (.int .i64 pb) = y := ⟨_, rfl⟩
               have hdk57 : Hid (Below wx.heap.size wx y57) := by rw [← hy]; exact hid (below2 hdk56.out hlP _ _)
               have hP57 : Hid (y57.heap[y44.heap.size]? = some (.cells #[.int .i64 (pu : Int), .int .i64 pb] 45 (0, 0))) := by rw [← hy]; exact hid (set2_block hP56.out _ _)
               have hQ57 : Hid (y57.heap[y0.heap.size]? = some (.cells #[.int .i64 0, .int .i64 0] 45 (0, 0))) := by rw [← hy, Below.heap_setCell _ _ _ _ (by show y0.heap.size ≠ y44.heap.size; omega), Below.heap_setCell _ _ _ _ (by show y0.heap.size ≠ y44.heap.size; omega)]; exact hQ56
               rw [hy]
               clear hy
               refine wpAnyH_ready (rs := [11]) (by kernel_rfl) (by simp) ?_
               refine (AllReadyH.cons (o := { dst := none, op := Op.store 45 (Operand.tmp 15) (Operand.tmp 61), type := 0, pos := "law.go:206", after := #[{ on := 9, ground := Ground.data }, { on := 7, ground := Ground.data }, { on := 10, ground := Ground.chain }, { on := 0, ground := Ground.phase }, { on := 1, ground := Ground.phase }, { on := 2, ground := Ground.phase }, { on := 3, ground := Ground.phase }, { on := 4, ground := Ground.phase }, { on := 5, ground := Ground.phase }, { on := 6, ground := Ground.phase }, { on := 7, ground := Ground.phase }, { on := 8, ground := Ground.phase }, { on := 9, ground := Ground.phase }, { on := 10, ground := Ground.phase }], guard := none }) rfl (fun K hK => ?_) AllReadyH.nil)
               obtain ⟨z1, z2, z3, z4⟩ := blk2 hQ57.out
               go_simp
               try go_wp2_with fail
               refine hK.out _ _ (below2 hdk57.out hlQ _ _) (fun hHeld => ?_)
               clear hK K hHeld z1 z2 z3 z4
               try simp only [Act.put, List.setIfInBounds_toArray, List.set_cons_zero, List.set_cons_succ]
               obtain ⟨y58, hy⟩ : ∃ y, (y57.setCell ⟨y0.heap.size, 0, none⟩ (.int .i64 (qu : Int))).setCell ⟨y0.heap.size, 1, none⟩ (.int .i64 qb) = y := ⟨_, rfl⟩
               have hdk58 : Hid (Below wx.heap.size wx y58) := by rw [← hy]; exact hid (below2 hdk57.out hlQ _ _)
               have hQ58 : Hid (y58.heap[y0.heap.size]? = some (.cells #[.int .i64 (qu : Int), .int .i64 qb] 45 (0, 0))) := by rw [← hy]; exact hid (set2_block hQ57.out _ _)
               have hP58 : Hid (y58.heap[y44.heap.size]? = some (.cells #[.int .i64 (pu : Int), .int .i64 pb] 45 (0, 0))) := by rw [← hy, Below.heap_setCell _ _ _ _ (by show y44.heap.size ≠ y0.heap.size; omega), Below.heap_setCell _ _ _ _ (by show y44.heap.size ≠ y0.heap.size; omega)]; exact hP57
               rw [hy]
               clear hy
               refine wpAnyH_done (by kernel_rfl) ?_ _
               refine NoPanic.normal ?_
               go_wp2_with fail
               go_meet
               case rel => exact ⟨_, _, pu, pb, qu, qb, rfl, rfl, hdk58.out, hpu, hpc, hqu, hqc, hP58.out, hQ58.out⟩
         case rest =>
           obtain ⟨P, Q, pu, pb, qu, qb, rfl, rfl, hc⟩ := hcut
           clear hcor hcl
           obtain ⟨hbc, hpu, hpc, hqu, hqc, hP, hQ⟩ := hc.out
           clear hc
           have hcl : Hid (∀ y, Below wc.heap.size wc y → y.cell? ⟨P, 0, none⟩ = some (.int .i64 (pu : Int)) ∧ y.cell? ⟨P, 1, none⟩ = some (.int .i64 pb) ∧ y.cell? ⟨Q, 0, none⟩ = some (.int .i64 (qu : Int)) ∧ y.cell? ⟨Q, 1, none⟩ = some (.int .i64 qb)) := hid (fun y hy => by
             obtain ⟨z1, z2, _, _⟩ := blk2 ((hy.block _ (Array.getElem?_eq_some_iff.1 hP).1).trans hP)
             obtain ⟨z3, z4, _, _⟩ := blk2 ((hy.block _ (Array.getElem?_eq_some_iff.1 hQ).1).trans hQ)
             exact ⟨z1, z2, z3, z4⟩)
           have hlsc := hid (hlsx.out.more hbc)
           have hnlc := hid (hnlx.out.below hbc)
           have hP0 := hid hP
           have hQ0 := hid hQ
           clear hP hQ
           have hbxc := hid (hbx.out.trans (hbc.mono hbx.out.size))
           have hcgc := hid (hcg.out _ hbc)
           replace hpc := hid hpc
           replace hqc := hid hqc
           clear hbc hlsx hbx hcg hnlx
           obtain ⟨wa, hwa⟩ : ∃ wa, wa = wc := ⟨wc, rfl⟩
           subst hwa
           go_upto_region 16 with fail
           go_cut [16, 17] from 62 to 71 (fun s16 s17 wy => ∃ (P' Q' : Nat), s16 = .pointer (some ⟨P', 0, none⟩) ∧ s17 = .pointer (some ⟨Q', 0, none⟩) ∧ Hid (Below wa.heap.size wa wy ∧ wy.heap[P']? = some (.cells #[.int .i64 (pu : Int), .int .i64 pb] 51 (0, 0)) ∧ wy.heap[Q']? = some (.cells #[.int .i64 (qu : Int), .int .i64 qb] 51 (0, 0))))
           case first =>
             refine wp_region_noPanic ?_
             refine wp_region_held_drew (S := fun y => Below wa.heap.size wa y) (by kernel_rfl) (Below.refl _ _).drew (fun hHeld => ?_)
             refine takeH (i := 0) (v := ?_) (a' := ?_) ({ dst := some 62, op := Op.indexAddr 45 (Operand.tmp 14) (Operand.const (Value.int IntKind.i64 0)), type := 0, pos := "law.go:207", after := #[], guard := none }) rfl (by kernel_rfl) (by kernel_rfl) (by kernel_rfl) (fun _ _ _ h => h) (by rfl) ?_ (by assumption) ?_ ?_
             rotate_left 2
             · (intro w' hSw; obtain ⟨q0, q1, q2, q3⟩ := hcl.out w' hSw; clear hSw; go_simp; try with_reducible rfl)
             · (simp only [Act.put, List.setIfInBounds_toArray, List.set_cons_zero, List.set_cons_succ]; try rfl)
             refine takeH (i := 1) (v := ?_) (a' := ?_) ({ dst := some 63, op := Op.load 3 (Operand.tmp 62), type := 3, pos := "law.go:207", after := #[{ on := 0, ground := Ground.data }], guard := none }) rfl (by kernel_rfl) (by kernel_rfl) (by kernel_rfl) (fun _ _ _ h => h) (by rfl) ?_ (by assumption) ?_ ?_
             rotate_left 2
             · (intro w' hSw; obtain ⟨q0, q1, q2, q3⟩ := hcl.out w' hSw; clear hSw; go_simp; try with_reducible rfl)
             · (simp only [Act.put, List.setIfInBounds_toArray, List.set_cons_zero, List.set_cons_succ]; try rfl)
             refine takeH (i := 2) (v := ?_) (a' := ?_) ({ dst := some 64, op := Op.indexAddr 45 (Operand.tmp 14) (Operand.const (Value.int IntKind.i64 1)), type := 0, pos := "law.go:207", after := #[], guard := none }) rfl (by kernel_rfl) (by kernel_rfl) (by kernel_rfl) (fun _ _ _ h => h) (by rfl) ?_ (by assumption) ?_ ?_
             rotate_left 2
             · (intro w' hSw; obtain ⟨q0, q1, q2, q3⟩ := hcl.out w' hSw; clear hSw; go_simp; try with_reducible rfl)
             · (simp only [Act.put, List.setIfInBounds_toArray, List.set_cons_zero, List.set_cons_succ]; try rfl)
             refine takeH (i := 3) (v := ?_) (a' := ?_) ({ dst := some 65, op := Op.load 3 (Operand.tmp 64), type := 3, pos := "law.go:207", after := #[{ on := 2, ground := Ground.data }], guard := none }) rfl (by kernel_rfl) (by kernel_rfl) (by kernel_rfl) (fun _ _ _ h => h) (by rfl) ?_ (by assumption) ?_ ?_
             rotate_left 2
             · (intro w' hSw; obtain ⟨q0, q1, q2, q3⟩ := hcl.out w' hSw; clear hSw; go_simp; try with_reducible rfl)
             · (simp only [Act.put, List.setIfInBounds_toArray, List.set_cons_zero, List.set_cons_succ]; try rfl)
             refine takeH (i := 4) (v := ?_) (a' := ?_) ({ dst := some 66, op := Op.build 51 #[(0, Operand.tmp 63), (1, Operand.tmp 65)], type := 51, pos := "law.go:207", after := #[{ on := 1, ground := Ground.data }, { on := 3, ground := Ground.data }], guard := none }) rfl (by kernel_rfl) (by kernel_rfl) (by kernel_rfl) (fun _ _ _ h => h) (by rfl) ?_ (by assumption) ?_ ?_
             rotate_left 2
             · (intro w' hSw; obtain ⟨q0, q1, q2, q3⟩ := hcl.out w' hSw; clear hSw; go_simp; try with_reducible rfl)
             · (simp only [Act.put, List.setIfInBounds_toArray, List.set_cons_zero, List.set_cons_succ]; try rfl)
             refine takeH (i := 5) (v := ?_) (a' := ?_) ({ dst := some 67, op := Op.indexAddr 45 (Operand.tmp 15) (Operand.const (Value.int IntKind.i64 0)), type := 0, pos := "law.go:207", after := #[{ on := 12, ground := Ground.gcOnly Departure.lateStores }], guard := none }) rfl (by kernel_rfl) (by kernel_rfl) (by kernel_rfl) (fun _ _ _ h => h) (by rfl) ?_ (by assumption) ?_ ?_
             rotate_left 2
             · (intro w' hSw; obtain ⟨q0, q1, q2, q3⟩ := hcl.out w' hSw; clear hSw; go_simp; try with_reducible rfl)
             · (simp only [Act.put, List.setIfInBounds_toArray, List.set_cons_zero, List.set_cons_succ]; try rfl)
             refine takeH (i := 6) (v := ?_) (a' := ?_) ({ dst := some 68, op := Op.load 3 (Operand.tmp 67), type := 3, pos := "law.go:207", after := #[{ on := 5, ground := Ground.data }, { on := 12, ground := Ground.gcOnly Departure.lateStores }], guard := none }) rfl (by kernel_rfl) (by kernel_rfl) (by kernel_rfl) (fun _ _ _ h => h) (by rfl) ?_ (by assumption) ?_ ?_
             rotate_left 2
             · (intro w' hSw; obtain ⟨q0, q1, q2, q3⟩ := hcl.out w' hSw; clear hSw; go_simp; try with_reducible rfl)
             · (simp only [Act.put, List.setIfInBounds_toArray, List.set_cons_zero, List.set_cons_succ]; try rfl)
             refine takeH (i := 7) (v := ?_) (a' := ?_) ({ dst := some 69, op := Op.indexAddr 45 (Operand.tmp 15) (Operand.const (Value.int IntKind.i64 1)), type := 0, pos := "law.go:207", after := #[{ on := 12, ground := Ground.gcOnly Departure.lateStores }], guard := none }) rfl (by kernel_rfl) (by kernel_rfl) (by kernel_rfl) (fun _ _ _ h => h) (by rfl) ?_ (by assumption) ?_ ?_
             rotate_left 2
             · (intro w' hSw; obtain ⟨q0, q1, q2, q3⟩ := hcl.out w' hSw; clear hSw; go_simp; try with_reducible rfl)
             · (simp only [Act.put, List.setIfInBounds_toArray, List.set_cons_zero, List.set_cons_succ]; try rfl)
             refine takeH (i := 8) (v := ?_) (a' := ?_) ({ dst := some 70, op := Op.load 3 (Operand.tmp 69), type := 3, pos := "law.go:207", after := #[{ on := 7, ground := Ground.data }, { on := 12, ground := Ground.gcOnly Departure.lateStores }], guard := none }) rfl (by kernel_rfl) (by kernel_rfl) (by kernel_rfl) (fun _ _ _ h => h) (by rfl) ?_ (by assumption) ?_ ?_
             rotate_left 2
             · (intro w' hSw; obtain ⟨q0, q1, q2, q3⟩ := hcl.out w' hSw; clear hSw; go_simp; try with_reducible rfl)
             · (simp only [Act.put, List.setIfInBounds_toArray, List.set_cons_zero, List.set_cons_succ]; try rfl)
             refine takeH (i := 9) (v := ?_) (a' := ?_) ({ dst := some 71, op := Op.build 51 #[(0, Operand.tmp 68), (1, Operand.tmp 70)], type := 51, pos := "law.go:207", after := #[{ on := 6, ground := Ground.data }, { on := 8, ground := Ground.data }, { on := 12, ground := Ground.gcOnly Departure.lateStores }], guard := none }) rfl (by kernel_rfl) (by kernel_rfl) (by kernel_rfl) (fun _ _ _ h => h) (by rfl) ?_ (by assumption) ?_ ?_
             rotate_left 2
             · (intro w' hSw; obtain ⟨q0, q1, q2, q3⟩ := hcl.out w' hSw; clear hSw; go_simp; try with_reducible rfl)
             · (simp only [Act.put, List.setIfInBounds_toArray, List.set_cons_zero, List.set_cons_succ]; try rfl)
             have hdk0 : Hid (Below wa.heap.size wa wa.drew) := hid (Below.refl _ _).drew
             clear hHeld
             generalize wa.drew = y0 at hdk0 ⊢
             refine wpAnyH_ready (rs := [10, 11]) (by kernel_rfl) (by simp) ?_
             refine (AllReadyH.cons (o := { dst := some 16, op := Op.alloc 51, type := 0, pos := "law.go:207", after := #[], guard := none }) rfl (fun K hK => ?_) (AllReadyH.cons (o := { dst := some 17, op := Op.alloc 51, type := 0, pos := "law.go:207", after := #[], guard := none }) rfl (fun K hK => ?_) AllReadyH.nil))
             · skip
               go_simp
               refine hK.out _ _ (hdk0.out.alloc hdk0.out.size _) (fun hHeld => ?_)
               clear hK K hHeld
               try simp only [Act.put, List.setIfInBounds_toArray, List.set_cons_zero, List.set_cons_succ]
               obtain ⟨y1, hy⟩ : ∃ y, y0.alloc (.cells #[.int .i64 0, .int .i64 0] 51) = y := ⟨_, rfl⟩
               have hdk1 : Hid (Below wa.heap.size wa y1) := by rw [← hy]; exact hid (hdk0.out.alloc hdk0.out.size _)
               have hP1 : Hid (y1.heap[y0.heap.size]? = some (.cells #[.int .i64 0, .int .i64 0] 51 (0, 0))) := by rw [← hy]; exact hid (heap_alloc_new _ _)
               have hlP : wa.heap.size ≤ y0.heap.size := hdk0.out.size
               rw [hy]
               clear hy
               refine wpAnyH_ready (rs := [11]) (by kernel_rfl) (by simp) ?_
               refine (AllReadyH.cons (o := { dst := some 17, op := Op.alloc 51, type := 0, pos := "law.go:207", after := #[], guard := none }) rfl (fun K hK => ?_) AllReadyH.nil)
               go_simp
               refine hK.out _ _ (hdk1.out.alloc hdk1.out.size _) (fun hHeld => ?_)
               clear hK K hHeld
               try simp only [Act.put, List.setIfInBounds_toArray, List.set_cons_zero, List.set_cons_succ]
               obtain ⟨y2, hy⟩ : ∃ y, y1.alloc (.cells #[.int .i64 0, .int .i64 0] 51) = y := ⟨_, rfl⟩
               have hdk2 : Hid (Below wa.heap.size wa y2) := by rw [← hy]; exact hid (hdk1.out.alloc hdk1.out.size _)
               have hQ2 : Hid (y2.heap[y1.heap.size]? = some (.cells #[.int .i64 0, .int .i64 0] 51 (0, 0))) := by rw [← hy]; exact hid (heap_alloc_new _ _)
               have hlQ : wa.heap.size ≤ y1.heap.size := hdk1.out.size
               have hP2 : Hid (y2.heap[y0.heap.size]? = some (.cells #[.int .i64 0, .int .i64 0] 51 (0, 0))) := by rw [← hy]; exact hid (al_keep hP1.out)
               have hPQ : y0.heap.size ≠ y1.heap.size := by have := (Array.getElem?_eq_some_iff.1 hP1.out).1; omega
               rw [hy]
               clear hy
               refine wpAnyH_ready (rs := [12]) (by kernel_rfl) (by simp) ?_
               refine (AllReadyH.cons (o := { dst := none, op := Op.store 51 (Operand.tmp 16) (Operand.tmp 66), type := 0, pos := "law.go:207", after := #[{ on := 10, ground := Ground.data }, { on := 4, ground := Ground.data }, { on := 0, ground := Ground.phase }, { on := 1, ground := Ground.phase }, { on := 2, ground := Ground.phase }, { on := 3, ground := Ground.phase }, { on := 4, ground := Ground.phase }, { on := 5, ground := Ground.textOnly Departure.lateStores }, { on := 6, ground := Ground.textOnly Departure.lateStores }, { on := 7, ground := Ground.textOnly Departure.lateStores }, { on := 8, ground := Ground.textOnly Departure.lateStores }, { on := 9, ground := Ground.textOnly Departure.lateStores }, { on := 10, ground := Ground.phase }, { on := 11, ground := Ground.phase }], guard := none }) rfl (fun K hK => ?_) AllReadyH.nil)
               obtain ⟨z1, z2, z3, z4⟩ := blk2 hP2.out
               go_simp
               try go_wp2_with fail
               refine hK.out _ _ (below2 hdk2.out hlP _ _) (fun hHeld => ?_)
               clear hK K hHeld z1 z2 z3 z4
               try simp only [Act.put, List.setIfInBounds_toArray, List.set_cons_zero, List.set_cons_succ]
               obtain ⟨y3, hy⟩ : ∃ y, (y2.setCell ⟨y0.heap.size, 0, none⟩ (.int .i64 (pu : Int))).setCell ⟨y0.heap.size, 1, none⟩ (.int .i64 pb) = y := ⟨_, rfl⟩
               have hdk3 : Hid (Below wa.heap.size wa y3) := by rw [← hy]; exact hid (below2 hdk2.out hlP _ _)
               have hP3 : Hid (y3.heap[y0.heap.size]? = some (.cells #[.int .i64 (pu : Int), .int .i64 pb] 51 (0, 0))) := by rw [← hy]; exact hid (set2_block hP2.out _ _)
               have hQ3 : Hid (y3.heap[y1.heap.size]? = some (.cells #[.int .i64 0, .int .i64 0] 51 (0, 0))) := by rw [← hy, Below.heap_setCell _ _ _ _ (by show y1.heap.size ≠ y0.heap.size; omega), Below.heap_setCell _ _ _ _ (by show y1.heap.size ≠ y0.heap.size; omega)]; exact hQ2
               rw [hy]
               clear hy
               refine wpAnyH_ready (rs := [13]) (by kernel_rfl) (by simp) ?_
               refine (AllReadyH.cons (o := { dst := none, op := Op.store 51 (Operand.tmp 17) (Operand.tmp 71), type := 0, pos := "law.go:207", after := #[{ on := 11, ground := Ground.data }, { on := 9, ground := Ground.data }, { on := 12, ground := Ground.chain }, { on := 0, ground := Ground.phase }, { on := 1, ground := Ground.phase }, { on := 2, ground := Ground.phase }, { on := 3, ground := Ground.phase }, { on := 4, ground := Ground.phase }, { on := 5, ground := Ground.phase }, { on := 6, ground := Ground.phase }, { on := 7, ground := Ground.phase }, { on := 8, ground := Ground.phase }, { on := 9, ground := Ground.phase }, { on := 10, ground := Ground.phase }, { on := 11, ground := Ground.phase }, { on := 12, ground := Ground.phase }], guard := none }) rfl (fun K hK => ?_) AllReadyH.nil)
               obtain ⟨z1, z2, z3, z4⟩ := blk2 hQ3.out
               go_simp
               try go_wp2_with fail
               refine hK.out _ _ (below2 hdk3.out hlQ _ _) (fun hHeld => ?_)
               clear hK K hHeld z1 z2 z3 z4
               try simp only [Act.put, List.setIfInBounds_toArray, List.set_cons_zero, List.set_cons_succ]
               obtain ⟨y4, hy⟩ : ∃ y, (y3.setCell ⟨y1.heap.size, 0, none⟩ (.int .i64 (qu : Int))).setCell ⟨y1.heap.size, 1, none⟩ (.int .i64 qb) = y := ⟨_, rfl⟩
               have hdk4 : Hid (Below wa.heap.size wa y4) := by rw [← hy]; exact hid (below2 hdk3.out hlQ _ _)
               have hQ4 : Hid (y4.heap[y1.heap.size]? = some (.cells #[.int .i64 (qu : Int), .int .i64 qb] 51 (0, 0))) := by rw [← hy]; exact hid (set2_block hQ3.out _ _)
               have hP4 : Hid (y4.heap[y0.heap.size]? = some (.cells #[.int .i64 (pu : Int), .int .i64 pb] 51 (0, 0))) := by rw [← hy, Below.heap_setCell _ _ _ _ (by show y0.heap.size ≠ y1.heap.size; omega), Below.heap_setCell _ _ _ _ (by show y0.heap.size ≠ y1.heap.size; omega)]; exact hP3
               rw [hy]
               clear hy
               refine wpAnyH_done (by kernel_rfl) ?_ _
               refine NoPanic.normal ?_
               go_wp2_with fail
               go_meet
               case rel => exact ⟨_, _, rfl, rfl, hdk4.out, hP4.out, hQ4.out⟩
             · skip
               go_simp
               refine hK.out _ _ (hdk0.out.alloc hdk0.out.size _) (fun hHeld => ?_)
               clear hK K hHeld
               try simp only [Act.put, List.setIfInBounds_toArray, List.set_cons_zero, List.set_cons_succ]
               obtain ⟨y5, hy⟩ : ∃ y, y0.alloc (.cells #[.int .i64 0, .int .i64 0] 51) = y := ⟨_, rfl⟩
               have hdk5 : Hid (Below wa.heap.size wa y5) := by rw [← hy]; exact hid (hdk0.out.alloc hdk0.out.size _)
               have hQ5 : Hid (y5.heap[y0.heap.size]? = some (.cells #[.int .i64 0, .int .i64 0] 51 (0, 0))) := by rw [← hy]; exact hid (heap_alloc_new _ _)
               have hlQ : wa.heap.size ≤ y0.heap.size := hdk0.out.size
               rw [hy]
               clear hy
               refine wpAnyH_ready (rs := [10]) (by kernel_rfl) (by simp) ?_
               refine (AllReadyH.cons (o := { dst := some 16, op := Op.alloc 51, type := 0, pos := "law.go:207", after := #[], guard := none }) rfl (fun K hK => ?_) AllReadyH.nil)
               go_simp
               refine hK.out _ _ (hdk5.out.alloc hdk5.out.size _) (fun hHeld => ?_)
               clear hK K hHeld
               try simp only [Act.put, List.setIfInBounds_toArray, List.set_cons_zero, List.set_cons_succ]
               obtain ⟨y6, hy⟩ : ∃ y, y5.alloc (.cells #[.int .i64 0, .int .i64 0] 51) = y := ⟨_, rfl⟩
               have hdk6 : Hid (Below wa.heap.size wa y6) := by rw [← hy]; exact hid (hdk5.out.alloc hdk5.out.size _)
               have hP6 : Hid (y6.heap[y5.heap.size]? = some (.cells #[.int .i64 0, .int .i64 0] 51 (0, 0))) := by rw [← hy]; exact hid (heap_alloc_new _ _)
               have hlP : wa.heap.size ≤ y5.heap.size := hdk5.out.size
               have hQ6 : Hid (y6.heap[y0.heap.size]? = some (.cells #[.int .i64 0, .int .i64 0] 51 (0, 0))) := by rw [← hy]; exact hid (al_keep hQ5.out)
               have hPQ : y0.heap.size ≠ y5.heap.size := by have := (Array.getElem?_eq_some_iff.1 hQ5.out).1; omega
               rw [hy]
               clear hy
               refine wpAnyH_ready (rs := [12]) (by kernel_rfl) (by simp) ?_
               refine (AllReadyH.cons (o := { dst := none, op := Op.store 51 (Operand.tmp 16) (Operand.tmp 66), type := 0, pos := "law.go:207", after := #[{ on := 10, ground := Ground.data }, { on := 4, ground := Ground.data }, { on := 0, ground := Ground.phase }, { on := 1, ground := Ground.phase }, { on := 2, ground := Ground.phase }, { on := 3, ground := Ground.phase }, { on := 4, ground := Ground.phase }, { on := 5, ground := Ground.textOnly Departure.lateStores }, { on := 6, ground := Ground.textOnly Departure.lateStores }, { on := 7, ground := Ground.textOnly Departure.lateStores }, { on := 8, ground := Ground.textOnly Departure.lateStores }, { on := 9, ground := Ground.textOnly Departure.lateStores }, { on := 10, ground := Ground.phase }, { on := 11, ground := Ground.phase }], guard := none }) rfl (fun K hK => ?_) AllReadyH.nil)
               obtain ⟨z1, z2, z3, z4⟩ := blk2 hP6.out
               go_simp
               try go_wp2_with fail
               refine hK.out _ _ (below2 hdk6.out hlP _ _) (fun hHeld => ?_)
               clear hK K hHeld z1 z2 z3 z4
               try simp only [Act.put, List.setIfInBounds_toArray, List.set_cons_zero, List.set_cons_succ]
               obtain ⟨y7, hy⟩ : ∃ y, (y6.setCell ⟨y5.heap.size, 0, none⟩ (.int .i64 (pu : Int))).setCell ⟨y5.heap.size, 1, none⟩ (.int .i64 pb) = y := ⟨_, rfl⟩
               have hdk7 : Hid (Below wa.heap.size wa y7) := by rw [← hy]; exact hid (below2 hdk6.out hlP _ _)
               have hP7 : Hid (y7.heap[y5.heap.size]? = some (.cells #[.int .i64 (pu : Int), .int .i64 pb] 51 (0, 0))) := by rw [← hy]; exact hid (set2_block hP6.out _ _)
               have hQ7 : Hid (y7.heap[y0.heap.size]? = some (.cells #[.int .i64 0, .int .i64 0] 51 (0, 0))) := by rw [← hy, Below.heap_setCell _ _ _ _ (by show y0.heap.size ≠ y5.heap.size; omega), Below.heap_setCell _ _ _ _ (by show y0.heap.size ≠ y5.heap.size; omega)]; exact hQ6
               rw [hy]
               clear hy
               refine wpAnyH_ready (rs := [13]) (by kernel_rfl) (by simp) ?_
               refine (AllReadyH.cons (o := { dst := none, op := Op.store 51 (Operand.tmp 17) (Operand.tmp 71), type := 0, pos := "law.go:207", after := #[{ on := 11, ground := Ground.data }, { on := 9, ground := Ground.data }, { on := 12, ground := Ground.chain }, { on := 0, ground := Ground.phase }, { on := 1, ground := Ground.phase }, { on := 2, ground := Ground.phase }, { on := 3, ground := Ground.phase }, { on := 4, ground := Ground.phase }, { on := 5, ground := Ground.phase }, { on := 6, ground := Ground.phase }, { on := 7, ground := Ground.phase }, { on := 8, ground := Ground.phase }, { on := 9, ground := Ground.phase }, { on := 10, ground := Ground.phase }, { on := 11, ground := Ground.phase }, { on := 12, ground := Ground.phase }], guard := none }) rfl (fun K hK => ?_) AllReadyH.nil)
               obtain ⟨z1, z2, z3, z4⟩ := blk2 hQ7.out
               go_simp
               try go_wp2_with fail
               refine hK.out _ _ (below2 hdk7.out hlQ _ _) (fun hHeld => ?_)
               clear hK K hHeld z1 z2 z3 z4
               try simp only [Act.put, List.setIfInBounds_toArray, List.set_cons_zero, List.set_cons_succ]
               obtain ⟨y8, hy⟩ : ∃ y, (y7.setCell ⟨y0.heap.size, 0, none⟩ (.int .i64 (qu : Int))).setCell ⟨y0.heap.size, 1, none⟩ (.int .i64 qb) = y := ⟨_, rfl⟩
               have hdk8 : Hid (Below wa.heap.size wa y8) := by rw [← hy]; exact hid (below2 hdk7.out hlQ _ _)
               have hQ8 : Hid (y8.heap[y0.heap.size]? = some (.cells #[.int .i64 (qu : Int), .int .i64 qb] 51 (0, 0))) := by rw [← hy]; exact hid (set2_block hQ7.out _ _)
               have hP8 : Hid (y8.heap[y5.heap.size]? = some (.cells #[.int .i64 (pu : Int), .int .i64 pb] 51 (0, 0))) := by rw [← hy, Below.heap_setCell _ _ _ _ (by show y5.heap.size ≠ y0.heap.size; omega), Below.heap_setCell _ _ _ _ (by show y5.heap.size ≠ y0.heap.size; omega)]; exact hP7
               rw [hy]
               clear hy
               refine wpAnyH_done (by kernel_rfl) ?_ _
               refine NoPanic.normal ?_
               go_wp2_with fail
               go_meet
               case rel => exact ⟨_, _, rfl, rfl, hdk8.out, hP8.out, hQ8.out⟩
           case rest =>
             obtain ⟨P', Q', rfl, rfl, hc⟩ := hcut
             obtain ⟨hbc, hP, hQ⟩ := hc.out
             have hlsy := hid (hlsc.out.more hbc)
             have hnly := hid (hnlc.out.below hbc)
             have hPy := (hbc.block _ (Array.getElem?_eq_some_iff.1 hP0.out).1).trans hP0.out
             have hQy := (hbc.block _ (Array.getElem?_eq_some_iff.1 hQ0.out).1).trans hQ0.out
             have hbxy := hid (hbxc.out.trans (hbc.mono hbxc.out.size))
             obtain ⟨s, hs⟩ : ∃ s : Bool, s = true ↔ lb V 8 R pu ≠ lb V 8 R qu ∨ One V R pu qu (co pb) (co qb) := by classical exact ⟨decide (lb V 8 R pu ≠ lb V 8 R qu ∨ One V R pu qu (co pb) (co qb)), by simp⟩
             have hleg := hid (slegal_ok hlsy.out.ta htw.out (by decide) pu qu hpu hqu pb qb s hpc.out hqc.out hs)
             have hcnt := hid (fun y (hy : TA y w0.heap.size tb V 8 R) (hn : NL y u10 (List.range V)) => scount_all hy htw.out (by decide) hV1 (by omega) u10 hn.rn)
             obtain ⟨E1, hE1⟩ : ∃ E1, (es V R 8).length = E1 := ⟨_, rfl⟩
             obtain ⟨F1, hF1⟩ : ∃ F1, iso R V + (fcs V R (2 * 8)).length = F1 := ⟨_, rfl⟩
             obtain ⟨C1, hC1⟩ : ∃ C1, cc V 8 R = C1 := ⟨_, rfl⟩
             have hEb : E1 ≤ 8 := by rw [← hE1]; unfold es; exact Nat.le_trans (List.length_filter_le _ _) (by simp)
             have hFb : F1 ≤ 22 := by
               have h1 := fcs_le V R (2 * 8)
               have h2 : iso R V ≤ V := by unfold iso; exact Nat.le_trans List.countP_le_length (by simp)
               omega
             have hCb : C1 ≤ 6 := by
               rw [← hC1]
               unfold cc
               rw [fix_countP]
               exact Nat.le_trans List.countP_le_length (by simp; omega)
             rw [hE1, hF1, hC1] at hcnt
             have hblk : Hid (∀ y, Kp w.heap.size wc y → (y.cell? ⟨P, 0, none⟩ = some (.int .i64 (pu : Int)) ∧ y.cell? ⟨P, 1, none⟩ = some (.int .i64 pb)) ∧ (y.cell? ⟨Q, 0, none⟩ = some (.int .i64 (qu : Int)) ∧ y.cell? ⟨Q, 1, none⟩ = some (.int .i64 qb)) ∧ (y.cell? ⟨P', 0, none⟩ = some (.int .i64 (pu : Int)) ∧ y.cell? ⟨P', 1, none⟩ = some (.int .i64 pb)) ∧ (y.cell? ⟨Q', 0, none⟩ = some (.int .i64 (qu : Int)) ∧ y.cell? ⟨Q', 1, none⟩ = some (.int .i64 qb))) := hid (fun y hy => by
               obtain ⟨a1, a2, _, _⟩ := blk2 (kp_cells hPy hy (by decide) (by decide) (by decide))
               obtain ⟨a3, a4, _, _⟩ := blk2 (kp_cells hQy hy (by decide) (by decide) (by decide))
               obtain ⟨a5, a6, _, _⟩ := blk2 (kp_cells hP hy (by decide) (by decide) (by decide))
               obtain ⟨a7, a8, _, _⟩ := blk2 (kp_cells hQ hy (by decide) (by decide) (by decide))
               exact ⟨⟨a1, a2⟩, ⟨a3, a4⟩, ⟨a5, a6⟩, a7, a8⟩)
             obtain ⟨⟨z1, z2⟩, ⟨z3, z4⟩, ⟨z5, z6⟩, z7, z8⟩ := hblk.out _ (Kp.refl _ _)
             replace hs := hid hs
             clear hc hbc hP hQ hPy hQy hlsc hbxc hcgc hcl hnlc
             go_wp2_with fail
             refine hleg.out.mono ?_
             rintro x w5 ⟨rfl, b5⟩
             have hls5 := hid (hlsy.out.more b5)
             have hnl5 := hid (hnly.out.below b5)
             have kq5 : Hid (Kp w.heap.size wc w5) := hid (Kp.ofBelow b5 _)
             have hb5 := hid (hbxy.out.trans (b5.mono hbxy.out.size))
             clear b5 hleg hlsy hnly hbxy z1 z2 z3 z4 z5 z6 z7 z8
             go_wp2_with fail
             refine (hcnt.out w5 hls5.out.ta hnl5.out).mono ?_
             rintro x w6 ⟨rfl, b6⟩
             obtain ⟨w7, hw7⟩ : ∃ w7, w6.alloc (.cells #[.int .i64 (V : Int), .int .i64 (E1 : Int), .int .i64 (F1 : Int), .int .i64 (C1 : Int)] 32) = w7 := ⟨_, rfl⟩
             have k7 : Hid (w7.heap[w6.heap.size]? = some (.cells #[.int .i64 (V : Int), .int .i64 (E1 : Int), .int .i64 (F1 : Int), .int .i64 (C1 : Int)] 32 (0, 0))) := by rw [← hw7]; exact hid (MapKept.heap_alloc w6 _).1
             have b7 : Below w5.heap.size w5 w7 := by rw [← hw7]; exact b6.trans ((balloc w6 _).mono b6.size)
             have hls7 := hid (hls5.out.more b7)
             have hnl7 := hid (hnl5.out.below b7)
             have kq7 : Hid (Kp w.heap.size wc w7) := hid (kq5.out.trans (Kp.ofBelow b7 _))
             have hb7 := hid (hb5.out.trans (b7.mono hb5.out.size))
             replace hw7 := hid hw7
             obtain ⟨D1, hD1⟩ : ∃ D1, w6.heap.size = D1 := ⟨_, rfl⟩
             clear b6 b7 hls5 hnl5 kq5 hb5 hcnt
             go_upto_region 19 with fail
             rw [hw7.out]
             rw [hD1] at k7
             try rw [hD1]
             clear hw7 hD1
             rcases hfr.out with hfr1 | ⟨k, hfrk, hk8, hkn⟩
             · subst hfr1
               clear hfr
               go_wp2_with fail
               refine (hsu.out _).mono ?_
               rintro x w9 ⟨rfl, b9⟩
               have hb9 := hid (hb7.out.trans (b9.mono hb7.out.size))
               clear b9
               go_wp2_with fail
               go_ret
               exact ⟨rfl, hb9.out⟩
             · subst hfrk
               have t1 : decide ((k : Int) < 0) = false := decide_eq_false (by omega)
               have hkn1 : ¬ In V R (2 * k + 1) := fun z => hkn ((htw.out k hk8).2 z)
               obtain ⟨ad2, cap2, hrt7, g0, g1⟩ := hls7.out.rt
               have hgrp := hid (rgroups_ok _ 8 V R w7 hrt7 htn.out htw.out (by decide) hV1 (by omega) (len16 htn.out))
               have hlay := hid (fun y (hy : TA y w0.heap.size tb V 8 R) => lay_ok hy k pu qu pb qb hk8 hkn hkn1 hpc.out hqc.out)
               have hsteps := lay_steps htn.out htw.out hk8 hpu hqu hpc.out.mem hqc.out.mem (co_none_of hpc.out) (co_none_of hqc.out) hkn
               have hlw := hid (htn.out.lay htw.out hk8 hpu hqu hpc.out.mem hqc.out.mem hkn).2.1
               obtain ⟨R', hR'⟩ : ∃ R', layR R k pu qu (co pb) (co qb) = R' := ⟨_, rfl⟩
               rw [hR'] at hsteps hlay hlw
               have hcnt := hid (fun y (hy : TA y w0.heap.size tb V 8 R') (hn : NL y u10 (List.range V)) => scount_all hy hlw.out (by decide) hV1 (by omega) u10 hn.rn)
               obtain ⟨F2, hF2⟩ : ∃ F2, iso R' V + (fcs V R' (2 * 8)).length = F2 := ⟨_, rfl⟩
               obtain ⟨C2, hC2⟩ : ∃ C2, cc V 8 R' = C2 := ⟨_, rfl⟩
               have hE2 : (es V R' 8).length = E1 + 1 := by rw [hsteps.1, hE1]
               rw [hE2, hF2, hC2] at hcnt
               have hne : lb V 8 R pu ≠ lb V 8 R qu → s = true ∧ C2 + 1 = C1 ∧ F2 + 1 = F1 := fun q => by
                 obtain ⟨_, q2, q3⟩ := hsteps.2.1 q
                 refine ⟨hs.out.2 (.inl q), by omega, by omega⟩
               have heq : lb V 8 R pu = lb V 8 R qu → C2 = C1 ∧ (s = true → F2 = F1 + 1) ∧ (s = false → F2 + 1 = F1) := fun q => by
                 obtain ⟨q2, q3, q4⟩ := hsteps.2.2 q
                 refine ⟨by omega, fun e => ?_, fun e => ?_⟩
                 · have := q3 ((hs.out.1 e).resolve_left (fun z => z q))
                   omega
                 · have := q4 (fun o => by have := hs.out.2 (.inr o); rw [e] at this; cases this)
                   omega
               obtain ⟨fp, hfp⟩ : ∃ fp, lb V 8 R pu = fp := ⟨_, rfl⟩
               obtain ⟨fq, hfq⟩ : ∃ fq, lb V 8 R qu = fq := ⟨_, rfl⟩
               rw [hfp, hfq] at hne heq
               replace hfp := hid hfp
               replace hfq := hid hfq
               replace hne := hid hne
               replace heq := hid heq
               clear hsteps hkn hkn1 hfr hpc hqc hR' hF2 hC2 hE2 hE1 hF1 hC1 hrt7 hs
               go_wp2_with fail
               refine hgrp.out.mono ?_
               rintro x w8 ⟨gv, rfl, hgl, b8⟩
               have hls8 := hid (hls7.out.more b8)
               have hnl8 := hid (hnl7.out.below b8)
               have kq8 : Hid (Kp w.heap.size wc w8) := hid (kq7.out.trans (Kp.ofBelow b8 _))
               have k8 : Hid (w8.heap[D1]? = some (.cells #[.int .i64 (V : Int), .int .i64 (E1 : Int), .int .i64 (F1 : Int), .int .i64 (C1 : Int)] 32 (0, 0))) := hid ((b8.block _ (Array.getElem?_eq_some_iff.1 k7.out).1).trans k7.out)
               have hb8 := hid (hb7.out.trans (b8.mono hb7.out.size))
               replace hgl := hid hgl
               obtain ⟨gb, gcap, hgv, _⟩ := hgl.out
               subst hgv
               clear b8 hls7 hnl7 kq7 k7 hb7 hgrp g0 g1
               obtain ⟨⟨z1, z2⟩, ⟨z3, z4⟩, ⟨z5, z6⟩, z7, z8⟩ := hblk.out _ kq8.out
               go_wp2_with fail
               refine (hlay.out w8 hls8.out.ta).mono ?_
               rintro x w9 ⟨rfl, t9, kp9⟩
               have hnl9 := hid (hnl8.out.al kp9.al)
               have hbo9 : w0.heap.size ≤ w8.heap.size := hls8.out.bel.size
               have kq9 : Hid (Kp w.heap.size wc w9) := hid (kq8.out.trans (Kp.down kp9 hw0le))
               have k9 : Hid (w9.heap[D1]? = some (.cells #[.int .i64 (V : Int), .int .i64 (E1 : Int), .int .i64 (F1 : Int), .int .i64 (C1 : Int)] 32 (0, 0))) := hid (kp_cells k8.out kp9 (by decide) (by decide) (by decide))
               have hgl9 := hid (hgl.out.kp kp9)
               have hb9 := hid (hb8.out.trans ((Kp.down kp9 hw0le).below (hb8.out.size)))
               replace t9 := hid t9
               clear kp9 hls8 hnl8 kq8 k8 hgl hb8 hlay z1 z2 z3 z4 z5 z6 z7 z8
               go_wp2_with fail
               refine (hcnt.out w9 t9.out hnl9.out).mono ?_
               rintro x w10 ⟨rfl, b10⟩
               obtain ⟨w11, hw11⟩ : ∃ w11, w10.alloc (.cells #[.int .i64 (V : Int), .int .i64 ((E1 + 1 : Nat) : Int), .int .i64 (F2 : Int), .int .i64 (C2 : Int)] 32) = w11 := ⟨_, rfl⟩
               have k11 : w11.heap[w10.heap.size]? = some (.cells #[.int .i64 (V : Int), .int .i64 ((E1 + 1 : Nat) : Int), .int .i64 (F2 : Int), .int .i64 (C2 : Int)] 32 (0, 0)) := by rw [← hw11]; exact (MapKept.heap_alloc w10 _).1
               have b11 : Below w9.heap.size w9 w11 := by rw [← hw11]; exact b10.trans ((balloc w10 _).mono b10.size)
               have kq11 : Hid (Kp w.heap.size wc w11) := hid (kq9.out.trans (Kp.ofBelow b11 _))
               have kc11 := (b11.block _ (Array.getElem?_eq_some_iff.1 k9.out).1).trans k9.out
               have hgl11 : Hid (Un.Ls w11 (.slice (some ⟨gb, 0, none⟩) V gcap) V (lb V 8 R)) := hid (hgl9.out.kp (Kp.ofBelow b11 0))
               have hb11 := hid (hb9.out.trans (b11.mono hb9.out.size))
               replace hw11 := hid hw11
               rw [show ((E1 + 1 : Nat) : Int) = (E1 : Int) + 1 by omega] at k11 hw11
               obtain ⟨⟨x0, x1, x2, x3⟩, _⟩ := blk4 kc11
               obtain ⟨⟨y0, y1, y2, y3⟩, _⟩ := blk4 k11
               have lpu : w11.cell? ⟨gb, pu, none⟩ = some (.int .i64 (fp : Int)) := by
                 obtain ⟨b', c', e', _, _, _, _, _, hc'⟩ := hgl11.out
                 cases e'
                 rw [hc' pu hpu, hfp.out]
               have lqu : w11.cell? ⟨gb, qu, none⟩ = some (.int .i64 (fq : Int)) := by
                 obtain ⟨b', c', e', _, _, _, _, _, hc'⟩ := hgl11.out
                 cases e'
                 rw [hc' qu hqu, hfq.out]
               obtain ⟨⟨z1, z2⟩, ⟨z3, z4⟩, ⟨z5, z6⟩, z7, z8⟩ := hblk.out _ kq11.out
               have u1 : (0 : Int) ≤ (pu : Int) := by omega
               have u2 : (pu : Int) < (V : Int) := by omega
               have u3 : (0 : Int) ≤ (qu : Int) := by omega
               have u4 : (qu : Int) < (V : Int) := by omega
               have hfin : Hid (∀ m, Below w.heap.size w (w11.drewN m)) := hid (fun m => belowN hb11.out m)
               clear b10 b11 k11 kc11 k9 kq9 hnl9 t9 hgl9 hb9 hcnt hgl11 hblk
               go_upto_region 25 with fail
               rw [hw11.out]
               clear hw11
               have hE9 : E1 ≤ 9 := by omega
               go_upto_region 27 with fail
               have c1 : (0 : Int) ≤ (C1 : Int) := by omega
               have c2 : (C1 : Int) ≤ 6 := by omega
               have f1 : (0 : Int) ≤ (F1 : Int) := by omega
               have f2 : (F1 : Int) ≤ 22 := by omega
               by_cases hq : fp = fq
               · obtain ⟨e1, e2, e3⟩ := heq.out hq
                 have t2 : ((fp : Int) != (fq : Int)) = false := by simp [hq]
                 have q1 : ((C2 : Int) == (C1 : Int)) = true := by simp [e1]
                 clear hne heq hq
                 cases s with
                 | true =>
                   have q2 : ((F2 : Int) == (F1 : Int) + 1) = true := by have := e2 rfl; simp; omega
                   clear e1 e2 e3
                   go_quiet (fail)
                   go_wp2_with fail
                   refine (hsu.out _).mono ?_
                   rintro x w12 ⟨rfl, b12⟩
                   have hb12 := hid ((hfin.out _).trans (b12.mono (hfin.out _).size))
                   clear b12
                   go_wp2_with fail
                   go_ret
                   exact ⟨rfl, hb12.out⟩
                 | false =>
                   have q2 : ((F2 : Int) == (F1 : Int) - 1) = true := by have := e3 rfl; simp; omega
                   clear e1 e2 e3
                   go_quiet (fail)
                   go_wp2_with fail
                   refine (hsu.out _).mono ?_
                   rintro x w12 ⟨rfl, b12⟩
                   have hb12 := hid ((hfin.out _).trans (b12.mono (hfin.out _).size))
                   clear b12
                   go_wp2_with fail
                   go_ret
                   exact ⟨rfl, hb12.out⟩
               · obtain ⟨e1, e2, e3⟩ := hne.out hq
                 have t2 : ((fp : Int) != (fq : Int)) = true := by simp; omega
                 have q1 : ((C2 : Int) == (C1 : Int) - 1) = true := by simp; omega
                 have q2 : ((F2 : Int) == (F1 : Int) - 1) = true := by simp; omega
                 subst e1
                 clear hne heq hq e2 e3
                 go_quiet (fail)
                 go_wp2_with fail
                 refine (hsu.out _).mono ?_
                 rintro x w12 ⟨rfl, b12⟩
                 have hb12 := hid ((hfin.out _).trans (b12.mono (hfin.out _).size))
                 clear b12
                 go_wp2_with fail
                 go_ret
                 exact ⟨rfl, hb12.out⟩
end Go.Proofs.YtegljhbjjdfhiaaDoor
