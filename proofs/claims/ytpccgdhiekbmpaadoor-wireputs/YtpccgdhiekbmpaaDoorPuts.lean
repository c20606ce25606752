/- The law 'WirePuts', from the contracts. -/
import Derived.Test.YtpccgdhiekbmpaaDoorRPut
import Derived.Test.YtpccgdhiekbmpaaDoorRTake
import Derived.Test.YtpccgdhiekbmpaaDoorFrame
import Derived.Test.YtpccgdhiekbmpaaDoorErrAs
import Derived.Test.YtpccgdhiekbmpaaDoorSigns0
import Derived.Test.YtpccgdhiekbmpaaDoorRegion
namespace Go.Proofs.YtpccgdhiekbmpaaDoor
open Go.RowKit
set_option linter.unusedVariables false
attribute [local simp] be_length
attribute [local go_sem ↓] Go.wp_at_zero Go.wp_at_succ

set_option maxHeartbeats 400000 in
theorem puts_long (ad : Option Addr) (len cap : Nat) (v n : Int) (w : World) (hl : 20000 < len) :
    Calls Tryd.prog 3 #[.slice ad len cap, .int .u64 v, .int .i64 n] w fun e w' => e = .returned (.bool true) ∧ Below w.heap.size w w' := by
  have h2 : (20000 : Int) < (len : Int) := by omega
  go_enter Tryd.func3, Tryd.ntmps3
  go_wp2_with fail
  refine (sure_any _).mono ?_
  rintro e w2 ⟨rfl, hb2⟩
  go_wp2_with fail
  go_ret
  exact ⟨rfl, hb2⟩

set_option maxHeartbeats 4000000 in
theorem puts_tail (ad : Option Addr) (cap : Nat) (l : List UInt8) (V : Nat) (n : Int) (w : World) (hb : Bytes w ad cap l) (hg : Handle w) (hl : l.length ≤ 20000)
    (X : Int) (E : Value) (F : Int) (LR PB : List UInt8) (rlen plen : Nat) (hrl : Hid (rlen = LR.length)) (hpl : Hid (plen = PB.length))
    (htake : Hid (∀ W, Bytes W ad cap l → Calls Tryd.prog 8 #[.slice ad l.length cap, .int .i64 n] W fun e W' => ∃ ra rc, e = .returned (.tuple #[.int .u64 X, .slice ra rlen rc, E]) ∧ Bytes W' ra rc LR ∧ Below W.heap.size W W'))
    (hrtake : Hid (∀ W, Bytes W ad cap l → Calls Tryd.prog 9 #[.slice ad l.length cap, .int .i64 n] W fun e W' => ∃ ra rc, e = .returned (.tuple #[.int .u64 X, .slice ra rlen rc, .int .i64 F]) ∧ Bytes W' ra rc LR ∧ Below W.heap.size W W'))
    (hput : Hid (∀ W, Bytes W ad cap l → Calls Tryd.prog 10 #[.slice ad l.length cap, .int .u64 V, .int .i64 n] W fun e W' => ∃ ra rc, e = .returned (.slice ra plen rc) ∧ Bytes W' ra rc PB ∧ Below W.heap.size W W'))
    (hrput : Hid (∀ W, Bytes W ad cap l → Calls Tryd.prog 11 #[.slice ad l.length cap, .int .u64 V, .int .i64 n] W fun e W' => ∃ ra rc, e = .returned (.slice ra plen rc) ∧ Bytes W' ra rc PB ∧ Below W.heap.size W W'))
    (hnum : Hid (∀ W, Handle W → Calls Tryd.prog 12 #[E] W fun e W' => e = .returned (.int .i64 F) ∧ Below W.heap.size W W')) :
    Calls Tryd.prog 3 #[.slice ad l.length cap, .int .u64 V, .int .i64 n] w fun e w' => e = .returned (.bool true) ∧ Below w.heap.size w w' := by
  have hs0 := string_of hb
  go_enter Tryd.func3, Tryd.ntmps3
  go_wp2_with fail
  refine (htake.out _ hb).mono ?_
  rintro e w1 ⟨ra, rc, rfl, hr1, hb1⟩
  clear hs0
  go_wp2_with fail
  refine (hrtake.out _ (hb.below hb1)).mono ?_
  rintro e w2 ⟨ra', rc', rfl, hr2, hb2⟩
  have hbb := hb1.trans (hb2.mono hb1.size)
  have hr1' := hr1.below hb2
  clear hr1 hb1 hb2
  go_wp2_with fail
  have cv0 := True.intro
  have hbl := hb.below hbb
  clear htake hrtake
  refine wp_region_noPanic ?_
  refine wp_region_held_drew (S := fun w' => Below w2.heap.size w2 w') (by kernel_rfl) ((Below.refl _ _).drew) (fun hHeld => ?_)
  refine takeH (i := 0) (v := ?_) (a' := ?_) ({ dst := some 34, op := Op.move (Operand.tmp 0), type := 22, pos := "law.go:38", after := #[], guard := none }) rfl (by kernel_rfl) (by kernel_rfl) (by kernel_rfl) (fun _ _ _ h => h) (by rfl) ?_ (by assumption) ?_ ?_
  rotate_left 2
  · (intro w' hSw; go_simp; try with_reducible rfl)
  · (simp only [Act.put, List.setIfInBounds_toArray, List.set_cons_zero, List.set_cons_succ]; try rfl)
  refine takeH (i := 1) (v := ?_) (a' := ?_) ({ dst := some 35, op := Op.move (Operand.tmp 1), type := 23, pos := "law.go:38", after := #[], guard := none }) rfl (by kernel_rfl) (by kernel_rfl) (by kernel_rfl) (fun _ _ _ h => h) (by rfl) ?_ (by assumption) ?_ ?_
  rotate_left 2
  · (intro w' hSw; go_simp; try with_reducible rfl)
  · (simp only [Act.put, List.setIfInBounds_toArray, List.set_cons_zero, List.set_cons_succ]; try rfl)
  refine takeH (i := 2) (v := ?_) (a' := ?_) ({ dst := some 36, op := Op.move (Operand.tmp 2), type := 3, pos := "law.go:38", after := #[], guard := none }) rfl (by kernel_rfl) (by kernel_rfl) (by kernel_rfl) (fun _ _ _ h => h) (by rfl) ?_ (by assumption) ?_ ?_
  rotate_left 2
  · (intro w' hSw; go_simp; try with_reducible rfl)
  · (simp only [Act.put, List.setIfInBounds_toArray, List.set_cons_zero, List.set_cons_succ]; try rfl)
  refine takeH (i := 5) (v := ?_) (a' := ?_) ({ dst := some 39, op := Op.move (Operand.tmp 0), type := 22, pos := "law.go:38", after := #[], guard := none }) rfl (by kernel_rfl) (by kernel_rfl) (by kernel_rfl) (fun _ _ _ h => h) (by rfl) ?_ (by assumption) ?_ ?_
  rotate_left 2
  · (intro w' hSw; go_simp; try with_reducible rfl)
  · (simp only [Act.put, List.setIfInBounds_toArray, List.set_cons_zero, List.set_cons_succ]; try rfl)
  refine takeH (i := 6) (v := ?_) (a' := ?_) ({ dst := some 40, op := Op.move (Operand.tmp 1), type := 23, pos := "law.go:38", after := #[], guard := none }) rfl (by kernel_rfl) (by kernel_rfl) (by kernel_rfl) (fun _ _ _ h => h) (by rfl) ?_ (by assumption) ?_ ?_
  rotate_left 2
  · (intro w' hSw; go_simp; try with_reducible rfl)
  · (simp only [Act.put, List.setIfInBounds_toArray, List.set_cons_zero, List.set_cons_succ]; try rfl)
  refine takeH (i := 7) (v := ?_) (a' := ?_) ({ dst := some 41, op := Op.move (Operand.tmp 2), type := 3, pos := "law.go:38", after := #[], guard := none }) rfl (by kernel_rfl) (by kernel_rfl) (by kernel_rfl) (fun _ _ _ h => h) (by rfl) ?_ (by assumption) ?_ ?_
  rotate_left 2
  · (intro w' hSw; go_simp; try with_reducible rfl)
  · (simp only [Act.put, List.setIfInBounds_toArray, List.set_cons_zero, List.set_cons_succ]; try rfl)
  refine wpAnyH_ready (rs := [3]) (by kernel_rfl) (by simp) ?_
  refine AllReadyH.cons (o := { dst := some 37, op := Op.call { callee := Callee.value (Operand.func 10), args := #[Operand.tmp 34, Operand.tmp 35, Operand.tmp 36], argTypes := #[22, 23, 3] }, type := 22, pos := "law.go:38", after := #[{ on := 0, ground := Ground.data }, { on := 1, ground := Ground.data }, { on := 2, ground := Ground.data }], guard := none }) rfl (fun K hK => ?_) AllReadyH.nil
  go_simp
  refine (hput.out _ (hb.below hbb.drew)).mono ?_
  rintro e w3 ⟨pa, pc, rfl, hp3, hb3⟩
  go_wp2_with fail
  refine hK.out _ _ ((Below.refl w2.heap.size w2).drew.trans hb3) (fun hHeld => ?_)
  clear hK K
  try simp only [Act.put, List.setIfInBounds_toArray, List.set_cons_zero, List.set_cons_succ]
  refine stronger (fun w' => Below w3.heap.size w3 w') (fun w' h => ((Below.refl w2.heap.size w2).drew.trans hb3).trans (h.mono hb3.size)) ?_
  clear hHeld
  have hHeld := Below.refl w3.heap.size w3
  have cv3 : ∀ w', Below w3.heap.size w3 w' → (convert 22 9 (.slice pa plen pc)).run Tryd.prog w' = .ok (.string ⟨PB.toArray⟩) w' := fun w' h => string_at (hp3.below h) hpl.out
  refine takeH (i := 4) (v := ?_) (a' := ?_) ({ dst := some 38, op := Op.convert 22 9 (Operand.tmp 37), type := 9, pos := "law.go:38", after := #[{ on := 3, ground := Ground.data }], guard := none }) rfl (by kernel_rfl) (by kernel_rfl) (by kernel_rfl) (fun _ _ _ h => h) (by rfl) ?_ (by assumption) ?_ ?_
  rotate_left 2
  · (intro w' hSw; go_simp; try with_reducible rfl)
  · (simp only [Act.put, List.setIfInBounds_toArray, List.set_cons_zero, List.set_cons_succ]; try rfl)
  refine wpAnyH_ready (rs := [8]) (by kernel_rfl) (by simp) ?_
  refine AllReadyH.cons (o := { dst := some 42, op := Op.call { callee := Callee.value (Operand.func 11), args := #[Operand.tmp 39, Operand.tmp 40, Operand.tmp 41], argTypes := #[22, 23, 3] }, type := 22, pos := "law.go:38", after := #[{ on := 5, ground := Ground.data }, { on := 6, ground := Ground.data }, { on := 7, ground := Ground.data }, { on := 3, ground := Ground.chain }], guard := none }) rfl (fun K hK => ?_) AllReadyH.nil
  go_simp
  refine (hrput.out _ (hbl.below ((Below.refl w2.heap.size w2).drew.trans hb3))).mono ?_
  rintro e w4 ⟨qa, qc, rfl, hp4, hb4⟩
  go_wp2_with fail
  refine hK.out _ _ (hb4) (fun hHeld => ?_)
  clear hK K
  try simp only [Act.put, List.setIfInBounds_toArray, List.set_cons_zero, List.set_cons_succ]
  refine stronger (fun w' => Below w4.heap.size w4 w') (fun w' h => hb4.trans (h.mono hb4.size)) ?_
  clear hHeld
  have hHeld := Below.refl w4.heap.size w4
  have hb24 : Below w2.heap.size w2 w4 := ((Below.refl w2.heap.size w2).drew.trans hb3).trans (hb4.mono hb3.size)
  have cv4 : ∀ w', Below w4.heap.size w4 w' → (convert 22 9 (.slice qa plen qc)).run Tryd.prog w' = .ok (.string ⟨PB.toArray⟩) w' := fun w' h => string_at (hp4.below h) hpl.out
  have cv5 : ∀ w', Below w4.heap.size w4 w' → (convert 22 9 (.slice ra rlen rc)).run Tryd.prog w' = .ok (.string ⟨LR.toArray⟩) w' := fun w' h => string_at ((hr1'.below hb24).below h) hrl.out
  have cv6 : ∀ w', Below w4.heap.size w4 w' → (convert 22 9 (.slice ra' rlen rc')).run Tryd.prog w' = .ok (.string ⟨LR.toArray⟩) w' := fun w' h => string_at ((hr2.below hb24).below h) hrl.out
  clear cv3 hput hrput
  refine takeH (i := 9) (v := ?_) (a' := ?_) ({ dst := some 43, op := Op.convert 22 9 (Operand.tmp 42), type := 9, pos := "law.go:38", after := #[{ on := 8, ground := Ground.data }], guard := none }) rfl (by kernel_rfl) (by kernel_rfl) (by kernel_rfl) (fun _ _ _ h => h) (by rfl) ?_ (by assumption) ?_ ?_
  rotate_left 2
  · (intro w' hSw; go_simp; try with_reducible rfl)
  · (simp only [Act.put, List.setIfInBounds_toArray, List.set_cons_zero, List.set_cons_succ]; try rfl)
  refine takeH (i := 10) (v := ?_) (a' := ?_) ({ dst := some 44, op := Op.binOp BinOp.eql 9 (Operand.tmp 38) (Operand.tmp 43) 9, type := 4, pos := "law.go:38", after := #[{ on := 4, ground := Ground.data }, { on := 9, ground := Ground.data }], guard := none }) rfl (by kernel_rfl) (by kernel_rfl) (by kernel_rfl) (fun _ _ _ h => h) (by rfl) ?_ (by assumption) ?_ ?_
  rotate_left 2
  · (intro w' hSw; go_simp; try with_reducible rfl)
  · (simp only [Act.put, List.setIfInBounds_toArray, List.set_cons_zero, List.set_cons_succ]; try rfl)
  refine takeH (i := 11) (v := ?_) (a' := ?_) ({ dst := some 45, op := Op.move (Operand.tmp 44), type := 4, pos := "law.go:38", after := #[{ on := 10, ground := Ground.data }, { on := 8, ground := Ground.chain }], guard := none }) rfl (by kernel_rfl) (by kernel_rfl) (by kernel_rfl) (fun _ _ _ h => h) (by rfl) ?_ (by assumption) ?_ ?_
  rotate_left 2
  · (intro w' hSw; go_simp; try with_reducible rfl)
  · (simp only [Act.put, List.setIfInBounds_toArray, List.set_cons_zero, List.set_cons_succ]; try rfl)
  refine takeH (i := 12) (v := ?_) (a' := ?_) ({ dst := some 46, op := Op.move (Operand.tmp 8), type := 23, pos := "law.go:38", after := #[{ on := 11, ground := Ground.guard }], guard := some (11, true) }) rfl (by kernel_rfl) (by kernel_rfl) (by kernel_rfl) (fun _ _ _ h => h) (by rfl) ?_ (by assumption) ?_ ?_
  rotate_left 2
  · (intro w' hSw; go_simp; try with_reducible rfl)
  · (simp only [Act.put, List.setIfInBounds_toArray, List.set_cons_zero, List.set_cons_succ]; try rfl)
  refine takeH (i := 13) (v := ?_) (a' := ?_) ({ dst := some 47, op := Op.move (Operand.tmp 11), type := 23, pos := "law.go:38", after := #[{ on := 11, ground := Ground.guard }], guard := some (11, true) }) rfl (by kernel_rfl) (by kernel_rfl) (by kernel_rfl) (fun _ _ _ h => h) (by rfl) ?_ (by assumption) ?_ ?_
  rotate_left 2
  · (intro w' hSw; go_simp; try with_reducible rfl)
  · (simp only [Act.put, List.setIfInBounds_toArray, List.set_cons_zero, List.set_cons_succ]; try rfl)
  refine takeH (i := 14) (v := ?_) (a' := ?_) ({ dst := some 48, op := Op.binOp BinOp.eql 23 (Operand.tmp 46) (Operand.tmp 47) 23, type := 4, pos := "law.go:38", after := #[{ on := 12, ground := Ground.data }, { on := 13, ground := Ground.data }, { on := 11, ground := Ground.guard }], guard := some (11, true) }) rfl (by kernel_rfl) (by kernel_rfl) (by kernel_rfl) (fun _ _ _ h => h) (by rfl) ?_ (by assumption) ?_ ?_
  rotate_left 2
  · (intro w' hSw; go_simp; try with_reducible rfl)
  · (simp only [Act.put, List.setIfInBounds_toArray, List.set_cons_zero, List.set_cons_succ]; try rfl)
  refine takeH (i := 15) (v := ?_) (a' := ?_) ({ dst := some 49, op := Op.pick (Operand.tmp 45) (Operand.tmp 48) (Operand.const (Value.bool false)), type := 4, pos := "law.go:38", after := #[{ on := 11, ground := Ground.data }, { on := 14, ground := Ground.data }], guard := none }) rfl (by kernel_rfl) (by kernel_rfl) (by kernel_rfl) (fun _ _ _ h => h) (by rfl) ?_ (by assumption) ?_ ?_
  rotate_left 2
  · (intro w' hSw; go_simp; try with_reducible rfl)
  · (simp only [Act.put, List.setIfInBounds_toArray, List.set_cons_zero, List.set_cons_succ]; try rfl)
  refine takeH (i := 16) (v := ?_) (a' := ?_) ({ dst := some 50, op := Op.move (Operand.tmp 49), type := 4, pos := "law.go:38", after := #[{ on := 15, ground := Ground.data }, { on := 11, ground := Ground.chain }], guard := none }) rfl (by kernel_rfl) (by kernel_rfl) (by kernel_rfl) (fun _ _ _ h => h) (by rfl) ?_ (by assumption) ?_ ?_
  rotate_left 2
  · (intro w' hSw; go_simp; try with_reducible rfl)
  · (simp only [Act.put, List.setIfInBounds_toArray, List.set_cons_zero, List.set_cons_succ]; try rfl)
  refine takeH (i := 17) (v := ?_) (a' := ?_) ({ dst := some 51, op := Op.move (Operand.tmp 9), type := 22, pos := "law.go:38", after := #[{ on := 16, ground := Ground.guard }], guard := some (16, true) }) rfl (by kernel_rfl) (by kernel_rfl) (by kernel_rfl) (fun _ _ _ h => h) (by rfl) ?_ (by assumption) ?_ ?_
  rotate_left 2
  · (intro w' hSw; go_simp; try with_reducible rfl)
  · (simp only [Act.put, List.setIfInBounds_toArray, List.set_cons_zero, List.set_cons_succ]; try rfl)
  refine takeH (i := 18) (v := ?_) (a' := ?_) ({ dst := some 52, op := Op.convert 22 9 (Operand.tmp 51), type := 9, pos := "law.go:38", after := #[{ on := 17, ground := Ground.data }, { on := 16, ground := Ground.guard }], guard := some (16, true) }) rfl (by kernel_rfl) (by kernel_rfl) (by kernel_rfl) (fun _ _ _ h => h) (by rfl) ?_ (by assumption) ?_ ?_
  rotate_left 2
  · (intro w' hSw; go_simp; try with_reducible rfl)
  · (simp only [Act.put, List.setIfInBounds_toArray, List.set_cons_zero, List.set_cons_succ]; try rfl)
  refine takeH (i := 19) (v := ?_) (a' := ?_) ({ dst := some 53, op := Op.move (Operand.tmp 12), type := 22, pos := "law.go:38", after := #[{ on := 16, ground := Ground.guard }], guard := some (16, true) }) rfl (by kernel_rfl) (by kernel_rfl) (by kernel_rfl) (fun _ _ _ h => h) (by rfl) ?_ (by assumption) ?_ ?_
  rotate_left 2
  · (intro w' hSw; go_simp; try with_reducible rfl)
  · (simp only [Act.put, List.setIfInBounds_toArray, List.set_cons_zero, List.set_cons_succ]; try rfl)
  refine takeH (i := 20) (v := ?_) (a' := ?_) ({ dst := some 54, op := Op.convert 22 9 (Operand.tmp 53), type := 9, pos := "law.go:38", after := #[{ on := 19, ground := Ground.data }, { on := 16, ground := Ground.guard }], guard := some (16, true) }) rfl (by kernel_rfl) (by kernel_rfl) (by kernel_rfl) (fun _ _ _ h => h) (by rfl) ?_ (by assumption) ?_ ?_
  rotate_left 2
  · (intro w' hSw; go_simp; try with_reducible rfl)
  · (simp only [Act.put, List.setIfInBounds_toArray, List.set_cons_zero, List.set_cons_succ]; try rfl)
  refine takeH (i := 21) (v := ?_) (a' := ?_) ({ dst := some 55, op := Op.binOp BinOp.eql 9 (Operand.tmp 52) (Operand.tmp 54) 9, type := 4, pos := "law.go:38", after := #[{ on := 18, ground := Ground.data }, { on := 20, ground := Ground.data }, { on := 16, ground := Ground.guard }], guard := some (16, true) }) rfl (by kernel_rfl) (by kernel_rfl) (by kernel_rfl) (fun _ _ _ h => h) (by rfl) ?_ (by assumption) ?_ ?_
  rotate_left 2
  · (intro w' hSw; go_simp; try with_reducible rfl)
  · (simp only [Act.put, List.setIfInBounds_toArray, List.set_cons_zero, List.set_cons_succ]; try rfl)
  refine takeH (i := 22) (v := ?_) (a' := ?_) ({ dst := some 56, op := Op.pick (Operand.tmp 50) (Operand.tmp 55) (Operand.const (Value.bool false)), type := 4, pos := "law.go:38", after := #[{ on := 16, ground := Ground.data }, { on := 21, ground := Ground.data }], guard := none }) rfl (by kernel_rfl) (by kernel_rfl) (by kernel_rfl) (fun _ _ _ h => h) (by rfl) ?_ (by assumption) ?_ ?_
  rotate_left 2
  · (intro w' hSw; go_simp; try with_reducible rfl)
  · (simp only [Act.put, List.setIfInBounds_toArray, List.set_cons_zero, List.set_cons_succ]; try rfl)
  refine takeH (i := 23) (v := ?_) (a' := ?_) ({ dst := some 57, op := Op.move (Operand.tmp 56), type := 4, pos := "law.go:38", after := #[{ on := 22, ground := Ground.data }, { on := 16, ground := Ground.chain }], guard := none }) rfl (by kernel_rfl) (by kernel_rfl) (by kernel_rfl) (fun _ _ _ h => h) (by rfl) ?_ (by assumption) ?_ ?_
  rotate_left 2
  · (intro w' hSw; go_simp; try with_reducible rfl)
  · (simp only [Act.put, List.setIfInBounds_toArray, List.set_cons_zero, List.set_cons_succ]; try rfl)
  refine takeH (i := 24) (v := ?_) (a' := ?_) ({ dst := some 58, op := Op.move (Operand.tmp 10), type := 26, pos := "law.go:38", after := #[{ on := 23, ground := Ground.guard }], guard := some (23, true) }) rfl (by kernel_rfl) (by kernel_rfl) (by kernel_rfl) (fun _ _ _ h => h) (by rfl) ?_ (by assumption) ?_ ?_
  rotate_left 2
  · (intro w' hSw; go_simp; try with_reducible rfl)
  · (simp only [Act.put, List.setIfInBounds_toArray, List.set_cons_zero, List.set_cons_succ]; try rfl)
  refine takeH (i := 26) (v := ?_) (a' := ?_) ({ dst := some 60, op := Op.move (Operand.tmp 13), type := 3, pos := "law.go:38", after := #[{ on := 23, ground := Ground.guard }], guard := some (23, true) }) rfl (by kernel_rfl) (by kernel_rfl) (by kernel_rfl) (fun _ _ _ h => h) (by rfl) ?_ (by assumption) ?_ ?_
  rotate_left 2
  · (intro w' hSw; go_simp; try with_reducible rfl)
  · (simp only [Act.put, List.setIfInBounds_toArray, List.set_cons_zero, List.set_cons_succ]; try rfl)
  refine wpAnyH_ready (rs := [25]) (by kernel_rfl) (by simp) ?_
  refine AllReadyH.cons (o := { dst := some 59, op := Op.call { callee := Callee.value (Operand.func 12), args := #[Operand.tmp 58], argTypes := #[26] }, type := 3, pos := "law.go:38", after := #[{ on := 24, ground := Ground.data }, { on := 23, ground := Ground.chain }, { on := 23, ground := Ground.guard }], guard := some (23, true) }) rfl (fun K hK => ?_) AllReadyH.nil
  go_simp
  refine (hnum.out _ ((hg.below hbb).below hb24)).mono ?_
  rintro e w5 ⟨rfl, hb5⟩
  go_wp2_with fail
  refine hK.out _ _ (hb5) (fun hHeld => ?_)
  clear hK K
  try simp only [Act.put, List.setIfInBounds_toArray, List.set_cons_zero, List.set_cons_succ]
  refine stronger (fun w' => Below w5.heap.size w5 w') (fun w' h => hb5.trans (h.mono hb5.size)) ?_
  clear hHeld
  have hHeld := Below.refl w5.heap.size w5
  have hb25 : Below w2.heap.size w2 w5 := hb24.trans (hb5.mono hb24.size)
  have cv7 : ∀ w', Below w5.heap.size w5 w' → (convert 22 9 (.slice ad l.length cap)).run Tryd.prog w' = .ok (.string ⟨l.toArray⟩) w' := fun w' h => string_of ((hbl.below hb25).below h)
  clear cv4 cv5 cv6 hnum
  refine takeH (i := 27) (v := ?_) (a' := ?_) ({ dst := some 61, op := Op.binOp BinOp.eql 3 (Operand.tmp 59) (Operand.tmp 60) 3, type := 4, pos := "law.go:38", after := #[{ on := 25, ground := Ground.data }, { on := 26, ground := Ground.data }, { on := 23, ground := Ground.guard }], guard := some (23, true) }) rfl (by kernel_rfl) (by kernel_rfl) (by kernel_rfl) (fun _ _ _ h => h) (by rfl) ?_ (by assumption) ?_ ?_
  rotate_left 2
  · (intro w' hSw; go_simp; try with_reducible rfl)
  · (simp only [Act.put, List.setIfInBounds_toArray, List.set_cons_zero, List.set_cons_succ]; try rfl)
  refine takeH (i := 28) (v := ?_) (a' := ?_) ({ dst := some 62, op := Op.pick (Operand.tmp 57) (Operand.tmp 61) (Operand.const (Value.bool false)), type := 4, pos := "law.go:38", after := #[{ on := 23, ground := Ground.data }, { on := 27, ground := Ground.data }], guard := none }) rfl (by kernel_rfl) (by kernel_rfl) (by kernel_rfl) (fun _ _ _ h => h) (by rfl) ?_ (by assumption) ?_ ?_
  rotate_left 2
  · (intro w' hSw; go_simp; try with_reducible rfl)
  · (simp only [Act.put, List.setIfInBounds_toArray, List.set_cons_zero, List.set_cons_succ]; try rfl)
  refine takeH (i := 29) (v := ?_) (a' := ?_) ({ dst := some 63, op := Op.move (Operand.tmp 62), type := 4, pos := "law.go:38", after := #[{ on := 28, ground := Ground.data }, { on := 25, ground := Ground.chain }], guard := none }) rfl (by kernel_rfl) (by kernel_rfl) (by kernel_rfl) (fun _ _ _ h => h) (by rfl) ?_ (by assumption) ?_ ?_
  rotate_left 2
  · (intro w' hSw; go_simp; try with_reducible rfl)
  · (simp only [Act.put, List.setIfInBounds_toArray, List.set_cons_zero, List.set_cons_succ]; try rfl)
  refine takeH (i := 30) (v := ?_) (a' := ?_) ({ dst := some 64, op := Op.move (Operand.tmp 1), type := 23, pos := "law.go:38", after := #[{ on := 29, ground := Ground.guard }], guard := some (29, true) }) rfl (by kernel_rfl) (by kernel_rfl) (by kernel_rfl) (fun _ _ _ h => h) (by rfl) ?_ (by assumption) ?_ ?_
  rotate_left 2
  · (intro w' hSw; go_simp; try with_reducible rfl)
  · (simp only [Act.put, List.setIfInBounds_toArray, List.set_cons_zero, List.set_cons_succ]; try rfl)
  refine takeH (i := 32) (v := ?_) (a' := ?_) ({ dst := some 66, op := Op.move (Operand.tmp 1), type := 23, pos := "law.go:38", after := #[{ on := 29, ground := Ground.guard }], guard := some (29, true) }) rfl (by kernel_rfl) (by kernel_rfl) (by kernel_rfl) (fun _ _ _ h => h) (by rfl) ?_ (by assumption) ?_ ?_
  rotate_left 2
  · (intro w' hSw; go_simp; try with_reducible rfl)
  · (simp only [Act.put, List.setIfInBounds_toArray, List.set_cons_zero, List.set_cons_succ]; try rfl)
  refine wpAnyH_ready (rs := [31]) (by kernel_rfl) (by simp) ?_
  refine AllReadyH.cons (o := { dst := some 65, op := Op.call { callee := Callee.value (Operand.func 13), args := #[Operand.tmp 64], argTypes := #[23] }, type := 21, pos := "law.go:38", after := #[{ on := 30, ground := Ground.data }, { on := 29, ground := Ground.chain }, { on := 29, ground := Ground.guard }], guard := some (29, true) }) rfl (fun K hK => ?_) AllReadyH.nil
  go_simp
  refine (signed_any _ _).mono ?_
  rintro e w6 ⟨rfl, rfl⟩
  go_wp2_with fail
  refine hK.out _ _ (Below.refl _ _) (fun hHeld => ?_)
  clear hK K
  try simp only [Act.put, List.setIfInBounds_toArray, List.set_cons_zero, List.set_cons_succ]
  refine wpAnyH_ready (rs := [33]) (by kernel_rfl) (by simp) ?_
  refine AllReadyH.cons (o := { dst := some 67, op := Op.call { callee := Callee.value (Operand.func 14), args := #[Operand.tmp 66], argTypes := #[23] }, type := 21, pos := "law.go:38", after := #[{ on := 32, ground := Ground.data }, { on := 31, ground := Ground.chain }, { on := 29, ground := Ground.guard }], guard := some (29, true) }) rfl (fun K hK => ?_) AllReadyH.nil
  go_simp
  refine (rsigned_any _ _).mono ?_
  rintro e w6 ⟨rfl, rfl⟩
  go_wp2_with fail
  refine hK.out _ _ (Below.refl _ _) (fun hHeld => ?_)
  clear hK K
  try simp only [Act.put, List.setIfInBounds_toArray, List.set_cons_zero, List.set_cons_succ]
  refine takeH (i := 34) (v := ?_) (a' := ?_) ({ dst := some 68, op := Op.binOp BinOp.eql 21 (Operand.tmp 65) (Operand.tmp 67) 21, type := 4, pos := "law.go:38", after := #[{ on := 31, ground := Ground.data }, { on := 33, ground := Ground.data }, { on := 29, ground := Ground.guard }], guard := some (29, true) }) rfl (by kernel_rfl) (by kernel_rfl) (by kernel_rfl) (fun _ _ _ h => h) (by rfl) ?_ (by assumption) ?_ ?_
  rotate_left 2
  · (intro w' hSw; go_simp; try with_reducible rfl)
  · (simp only [Act.put, List.setIfInBounds_toArray, List.set_cons_zero, List.set_cons_succ]; try rfl)
  refine takeH (i := 35) (v := ?_) (a' := ?_) ({ dst := some 69, op := Op.pick (Operand.tmp 63) (Operand.tmp 68) (Operand.const (Value.bool false)), type := 4, pos := "law.go:38", after := #[{ on := 29, ground := Ground.data }, { on := 34, ground := Ground.data }], guard := none }) rfl (by kernel_rfl) (by kernel_rfl) (by kernel_rfl) (fun _ _ _ h => h) (by rfl) ?_ (by assumption) ?_ ?_
  rotate_left 2
  · (intro w' hSw; go_simp; try with_reducible rfl)
  · (simp only [Act.put, List.setIfInBounds_toArray, List.set_cons_zero, List.set_cons_succ]; try rfl)
  refine takeH (i := 36) (v := ?_) (a' := ?_) ({ dst := some 70, op := Op.move (Operand.tmp 69), type := 4, pos := "law.go:38", after := #[{ on := 35, ground := Ground.data }, { on := 33, ground := Ground.chain }], guard := none }) rfl (by kernel_rfl) (by kernel_rfl) (by kernel_rfl) (fun _ _ _ h => h) (by rfl) ?_ (by assumption) ?_ ?_
  rotate_left 2
  · (intro w' hSw; go_simp; try with_reducible rfl)
  · (simp only [Act.put, List.setIfInBounds_toArray, List.set_cons_zero, List.set_cons_succ]; try rfl)
  refine takeH (i := 37) (v := ?_) (a' := ?_) ({ dst := some 71, op := Op.move (Operand.tmp 0), type := 22, pos := "law.go:38", after := #[{ on := 36, ground := Ground.guard }], guard := some (36, true) }) rfl (by kernel_rfl) (by kernel_rfl) (by kernel_rfl) (fun _ _ _ h => h) (by rfl) ?_ (by assumption) ?_ ?_
  rotate_left 2
  · (intro w' hSw; go_simp; try with_reducible rfl)
  · (simp only [Act.put, List.setIfInBounds_toArray, List.set_cons_zero, List.set_cons_succ]; try rfl)
  refine takeH (i := 38) (v := ?_) (a' := ?_) ({ dst := some 72, op := Op.convert 22 9 (Operand.tmp 71), type := 9, pos := "law.go:38", after := #[{ on := 37, ground := Ground.data }, { on := 36, ground := Ground.guard }], guard := some (36, true) }) rfl (by kernel_rfl) (by kernel_rfl) (by kernel_rfl) (fun _ _ _ h => h) (by rfl) ?_ (by assumption) ?_ ?_
  rotate_left 2
  · (intro w' hSw; go_simp; try with_reducible rfl)
  · (simp only [Act.put, List.setIfInBounds_toArray, List.set_cons_zero, List.set_cons_succ]; try rfl)
  refine takeH (i := 39) (v := ?_) (a' := ?_) ({ dst := some 73, op := Op.move (Operand.tmp 7), type := 9, pos := "law.go:38", after := #[{ on := 36, ground := Ground.guard }], guard := some (36, true) }) rfl (by kernel_rfl) (by kernel_rfl) (by kernel_rfl) (fun _ _ _ h => h) (by rfl) ?_ (by assumption) ?_ ?_
  rotate_left 2
  · (intro w' hSw; go_simp; try with_reducible rfl)
  · (simp only [Act.put, List.setIfInBounds_toArray, List.set_cons_zero, List.set_cons_succ]; try rfl)
  refine takeH (i := 40) (v := ?_) (a' := ?_) ({ dst := some 74, op := Op.binOp BinOp.eql 9 (Operand.tmp 72) (Operand.tmp 73) 9, type := 4, pos := "law.go:38", after := #[{ on := 38, ground := Ground.data }, { on := 39, ground := Ground.data }, { on := 36, ground := Ground.guard }], guard := some (36, true) }) rfl (by kernel_rfl) (by kernel_rfl) (by kernel_rfl) (fun _ _ _ h => h) (by rfl) ?_ (by assumption) ?_ ?_
  rotate_left 2
  · (intro w' hSw; go_simp; try with_reducible rfl)
  · (simp only [Act.put, List.setIfInBounds_toArray, List.set_cons_zero, List.set_cons_succ]; try rfl)
  refine takeH (i := 41) (v := ?_) (a' := ?_) ({ dst := some 75, op := Op.pick (Operand.tmp 70) (Operand.tmp 74) (Operand.const (Value.bool false)), type := 4, pos := "law.go:38", after := #[{ on := 36, ground := Ground.data }, { on := 40, ground := Ground.data }], guard := none }) rfl (by kernel_rfl) (by kernel_rfl) (by kernel_rfl) (fun _ _ _ h => h) (by rfl) ?_ (by assumption) ?_ ?_
  rotate_left 2
  · (intro w' hSw; go_simp; try with_reducible rfl)
  · (simp only [Act.put, List.setIfInBounds_toArray, List.set_cons_zero, List.set_cons_succ]; try rfl)
  refine takeH (i := 42) (v := ?_) (a' := ?_) ({ dst := some 76, op := Op.move (Operand.tmp 75), type := 4, pos := "law.go:38", after := #[{ on := 41, ground := Ground.data }, { on := 36, ground := Ground.chain }], guard := none }) rfl (by kernel_rfl) (by kernel_rfl) (by kernel_rfl) (fun _ _ _ h => h) (by rfl) ?_ (by assumption) ?_ ?_
  rotate_left 2
  · (intro w' hSw; go_simp; try with_reducible rfl)
  · (simp only [Act.put, List.setIfInBounds_toArray, List.set_cons_zero, List.set_cons_succ]; try rfl)
  refine wpAnyH_ready (rs := [43]) (by kernel_rfl) (by simp) ?_
  refine AllReadyH.cons (o := { dst := some 77, op := Op.call { callee := Callee.value (Operand.func 7), args := #[], argTypes := #[] }, type := 4, pos := "law.go:38", after := #[{ on := 42, ground := Ground.chain }, { on := 42, ground := Ground.guard }], guard := some (42, true) }) rfl (fun K hK => ?_) AllReadyH.nil
  go_simp
  refine (sure_any _).mono ?_
  rintro e w6 ⟨rfl, hb6⟩
  go_wp2_with fail
  refine hK.out _ _ (hb6) (fun hHeld => ?_)
  clear hK K
  try simp only [Act.put, List.setIfInBounds_toArray, List.set_cons_zero, List.set_cons_succ]
  refine takeH (i := 44) (v := ?_) (a' := ?_) ({ dst := some 78, op := Op.pick (Operand.tmp 76) (Operand.tmp 77) (Operand.const (Value.bool false)), type := 4, pos := "law.go:38", after := #[{ on := 42, ground := Ground.data }, { on := 43, ground := Ground.data }], guard := none }) rfl (by kernel_rfl) (by kernel_rfl) (by kernel_rfl) (fun _ _ _ h => h) (by rfl) ?_ (by assumption) ?_ ?_
  rotate_left 2
  · (intro w' hSw; go_simp; try with_reducible rfl)
  · (simp only [Act.put, List.setIfInBounds_toArray, List.set_cons_zero, List.set_cons_succ]; try rfl)
  refine takeH (i := 45) (v := ?_) (a' := ?_) ({ dst := some 6, op := Op.assign (Operand.tmp 78), type := 4, pos := "law.go:38", after := #[{ on := 44, ground := Ground.data }, { on := 43, ground := Ground.chain }, { on := 0, ground := Ground.phase }, { on := 1, ground := Ground.phase }, { on := 2, ground := Ground.phase }, { on := 3, ground := Ground.phase }, { on := 4, ground := Ground.phase }, { on := 5, ground := Ground.phase }, { on := 6, ground := Ground.phase }, { on := 7, ground := Ground.phase }, { on := 8, ground := Ground.phase }, { on := 9, ground := Ground.phase }, { on := 10, ground := Ground.phase }, { on := 11, ground := Ground.phase }, { on := 12, ground := Ground.phase }, { on := 13, ground := Ground.phase }, { on := 14, ground := Ground.phase }, { on := 15, ground := Ground.phase }, { on := 16, ground := Ground.phase }, { on := 17, ground := Ground.phase }, { on := 18, ground := Ground.phase }, { on := 19, ground := Ground.phase }, { on := 20, ground := Ground.phase }, { on := 21, ground := Ground.phase }, { on := 22, ground := Ground.phase }, { on := 23, ground := Ground.phase }, { on := 24, ground := Ground.phase }, { on := 25, ground := Ground.phase }, { on := 26, ground := Ground.phase }, { on := 27, ground := Ground.phase }, { on := 28, ground := Ground.phase }, { on := 29, ground := Ground.phase }, { on := 30, ground := Ground.phase }, { on := 31, ground := Ground.phase }, { on := 32, ground := Ground.phase }, { on := 33, ground := Ground.phase }, { on := 34, ground := Ground.phase }, { on := 35, ground := Ground.phase }, { on := 36, ground := Ground.phase }, { on := 37, ground := Ground.phase }, { on := 38, ground := Ground.phase }, { on := 39, ground := Ground.phase }, { on := 40, ground := Ground.phase }, { on := 41, ground := Ground.phase }, { on := 42, ground := Ground.phase }, { on := 43, ground := Ground.phase }, { on := 44, ground := Ground.phase }], guard := none }) rfl (by kernel_rfl) (by kernel_rfl) (by kernel_rfl) (fun _ _ _ h => h) (by rfl) ?_ (by assumption) ?_ ?_
  rotate_left 2
  · (intro w' hSw; go_simp; try with_reducible rfl)
  · (simp only [Act.put, List.setIfInBounds_toArray, List.set_cons_zero, List.set_cons_succ]; try rfl)
  refine wpAnyH_done (by kernel_rfl) ?_ _
  refine NoPanic.normal ?_
  go_wp2_with fail
  go_ret
  exact ⟨rfl, hbb.trans ((hb25.trans (hb6.mono hb25.size)).mono hbb.size)⟩

end Go.Proofs.YtpccgdhiekbmpaaDoor
