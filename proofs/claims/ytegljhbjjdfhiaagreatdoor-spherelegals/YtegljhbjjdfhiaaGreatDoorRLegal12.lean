/- The document's Legal, walked. -/
import Derived.Test.YtegljhbjjdfhiaaGreatDoorRGroups12
import Derived.Test.YtegljhbjjdfhiaaGreatDoorRSame11
namespace Go.Proofs.YtegljhbjjdfhiaaGreatDoor
open Go.RowKit
set_option linter.unusedVariables false

set_option maxRecDepth 100000 in
set_option maxHeartbeats 4000000 in
theorem rlegal_ok (tv : Value) (E V u v : Nat) (a b : Int) (s : Bool) (R : Nat → List Nat) (w : World) (hv : RT w tv E V R) (ht : Tn V E R) (hw : Tw V E R) (ha : Co V R (u : Int) a) (hb : Co V R (v : Int) b) (hu : u < V) (hv' : v < V) (hs : s = true ↔ lb V E R u ≠ lb V E R v ∨ One V R u v (co a) (co b)) (hE : E ≤ 1000) (hV : V ≤ 1000) (hl : ∀ u, u < V → (R u).length ≤ 1000) :
    Calls Tryz.prog 9 #[tv, .agg #[.int .i64 (u : Int), .int .i64 a], .agg #[.int .i64 (v : Int), .int .i64 b]] w fun e w' => e = .returned (.bool s) ∧ Below w.heap.size w w' := by
  have hgr := hid (fun y (hy : Below w.heap.size w y) => rgroups_ok tv E V R y (hv.below hy) ht hw hE (by omega) hV hl)
  have hsm := hid (fun (s' : Bool) (hs' : s' = true ↔ One V R u v (co a) (co b)) y (hy : Below w.heap.size w y) => rsame_ok tv E V u v a b s' R y (hv.below hy) ht hw ha hb hs' hE hV hl)
  obtain ⟨lv, rfl, hr⟩ := hv
  have hk := K3.new w E lv (u : Int) a (v : Int) b
  have hbz : Below w.heap.size w (((w.alloc (.cells #[.int .i64 (E : Int), lv] 29)).alloc (.cells #[.int .i64 (u : Int), .int .i64 a] 23)).alloc (.cells #[.int .i64 (v : Int), .int .i64 b] 23)) := ((balloc w _).alloc (by simp) _).alloc (by simp; omega) _
  obtain ⟨w1, hw1⟩ : ∃ w1, ((w.alloc (.cells #[.int .i64 (E : Int), lv] 29)).alloc (.cells #[.int .i64 (u : Int), .int .i64 a] 23)).alloc (.cells #[.int .i64 (v : Int), .int .i64 b] 23) = w1 := ⟨_, rfl⟩
  rw [hw1] at hbz hk
  replace hw1 := hid hw1
  replace hbz := hid hbz
  obtain ⟨c0, c1, c2, c3, c4, c5⟩ := hk.cells
  replace hk := hid hk
  replace hs := hid hs
  clear hr ht hw ha hb hl
  go_enter Tryz.func9, Tryz.ntmps9
  go_upto_region 1 with fail
  rw [hw1.out]
  go_wp2_with fail
  refine (hgr.out w1 hbz.out).mono ?_
  rintro x w2 ⟨gv, rfl, hgl, b2⟩
  have hb2 := hid (hbz.out.trans (b2.mono hbz.out.size))
  have hk2 := hid (hk.out.below b2)
  obtain ⟨g, cap, rfl, hg1, hg2, _, _, _, hc⟩ := hgl
  unfold maxLen at hg2
  have cu := hc u hu
  have cv := hc v hv'
  have hF : Hid (∀ y, Below w2.heap.size w2 y → y.cell? ⟨w.heap.size, 0, none⟩ = some (.int .i64 (E : Int)) ∧ y.cell? ⟨w.heap.size, 1, none⟩ = some lv ∧ y.cell? ⟨w.heap.size + 1, 0, none⟩ = some (.int .i64 (u : Int)) ∧ y.cell? ⟨w.heap.size + 1, 1, none⟩ = some (.int .i64 a) ∧ y.cell? ⟨w.heap.size + 2, 0, none⟩ = some (.int .i64 (v : Int)) ∧ y.cell? ⟨w.heap.size + 2, 1, none⟩ = some (.int .i64 b) ∧ y.cell? ⟨g, u, none⟩ = some (.int .i64 (lb V E R u : Int)) ∧ y.cell? ⟨g, v, none⟩ = some (.int .i64 (lb V E R v : Int))) := hid (fun y hy => by
    obtain ⟨x0, x1, x2, x3, x4, x5⟩ := (hk2.out.below hy).cells
    exact ⟨x0, x1, x2, x3, x4, x5, (hy.cell (World.block_lt_of_cell? _ _ cu)).trans cu, (hy.cell (World.block_lt_of_cell? _ _ cv)).trans cv⟩)
  have i1 : (0 : Int) ≤ (u : Int) := by omega
  have i2 : (u : Int) < (V : Int) := by omega
  have i3 : (0 : Int) ≤ (v : Int) := by omega
  have i4 : (v : Int) < (V : Int) := by omega
  clear c0 c1 c2 c3 c4 c5 b2 hgr hc cu cv hk2
  by_cases hl : lb V E R u = lb V E R v
  · have hso := hid (hsm.out s (hs.out.trans ⟨fun q => q.elim (fun z => absurd hl z) id, .inr⟩))
    rw [hl] at hF
    generalize lb V E R v = z at hF
    have t1 : ((z : Int) != (z : Int)) = false := by simp
    clear hl hs hsm
    go_upto_region 2 with fail
    go_region_held3 (fun y => y.cell? ⟨w.heap.size, 0, none⟩ = some (.int .i64 (E : Int)) ∧ y.cell? ⟨w.heap.size, 1, none⟩ = some lv ∧ y.cell? ⟨w.heap.size + 1, 0, none⟩ = some (.int .i64 (u : Int)) ∧ y.cell? ⟨w.heap.size + 1, 1, none⟩ = some (.int .i64 a) ∧ y.cell? ⟨w.heap.size + 2, 0, none⟩ = some (.int .i64 (v : Int)) ∧ y.cell? ⟨w.heap.size + 2, 1, none⟩ = some (.int .i64 b) ∧ y.cell? ⟨g, u, none⟩ = some (.int .i64 (z : Int)) ∧ y.cell? ⟨g, v, none⟩ = some (.int .i64 (z : Int))) (first | exact hF.out _ (Below.refl _ _).drew | exact hF.out _ b3.out | go_keep) ((go_at_call 20; refine (hso.out _ hb2.out.drew).mono ?_; rintro x w3 ⟨rfl, bq⟩; have b3 : Hid (Below w2.heap.size w2 w3) := hid ((Below.refl w2.heap.size w2).drew.trans bq); clear bq))
    have hb3 := hid (hb2.out.trans (b3.out.mono hb2.out.size))
    go_wp2_with fail
    go_ret
    exact ⟨rfl, hb3.out⟩
  · obtain rfl : s = true := hs.out.2 (.inl hl)
    have t1 : ((lb V E R u : Int) != (lb V E R v : Int)) = true := by simp; omega
    have t2 : ¬ ((lb V E R u : Int) = (lb V E R v : Int)) := by omega
    have hb3 : Hid (Below w.heap.size w w2.drew) := hid hb2.out.drew
    generalize lb V E R u = z at *
    generalize lb V E R v = z' at *
    clear hl hs hsm
    obtain ⟨x0, x1, x2, x3, x4, x5, x6, x7⟩ := hF.out _ (Below.refl _ _)
    have hb4 : Hid (∀ m, Below w.heap.size w (w2.drewN m)) := hid (fun m => belowN hb2.out m)
    go_upto_region 2 with fail
    go_quiet (fail)
    go_wp2_with fail
    go_ret
    exact ⟨rfl, hb4.out _⟩

end Go.Proofs.YtegljhbjjdfhiaaGreatDoor
