/- The law's sameCommand, walked. -/
import Derived.Test.YtmmpkhoejcfdmaaDoorLaws19
import Derived.Deep.QuietTactic
import Derived.BigQuiet
import Derived.ChangeKeysEq
namespace Go.Proofs.YtmmpkhoejcfdmaaDoor
open Go.RowKit
set_option linter.unusedVariables false

theorem infoInt : (Tryd.prog.info? 3).isSome = true := by kernel_rfl
theorem partA (x y : Int) (w : World) : (part 3 #[.int .i64 x, .int .i64 y] 0).run Tryd.prog w = .ok (.int .i64 x) w := by kernel_rfl
theorem partB (x y : Int) (w : World) : (part 3 #[.int .i64 x, .int .i64 y] 1).run Tryd.prog w = .ok (.int .i64 y) w := by kernel_rfl
theorem cellsInt : Tryd.prog.cellsOf 3 = 1 := by kernel_rfl
theorem eqInt (d : Nat) (x : Int) (w : World) : (Op.equalIn (d + 1) 3 (.int .i64 x) (.int .i64 x)).run Tryd.prog w = .ok true w := by
  simp [Op.equalIn, run_underlying Tryd.underlying3]
theorem eqS2 (x y : Int) (w : World) : (Op.equalIn 10000 26 (.agg #[.int .i64 x, .int .i64 y]) (.agg #[.int .i64 x, .int .i64 y])).run Tryd.prog w = .ok true w := by
  obtain ⟨i, hi⟩ := Option.isSome_iff_exists.1 infoInt
  rw [run_equalIn_array w 9999 #[.int .i64 x, .int .i64 y] #[.int .i64 x, .int .i64 y] Tryd.underlying26 hi, cellsInt]
  rw [show List.range 2 = [0, 1] from rfl]
  simp [Op.eqItems, partA, partB, eqInt 9998]
attribute [local go_sem] eqS2

set_option maxRecDepth 100000 in
set_option maxHeartbeats 4000000 in
theorem same_ok (c : Cm) (ad1 ad2 : Option Addr) (n1 n2 cap1 cap2 : Nat) (w : World) (h1 : Bytes w ad1 cap1 c.d) (h2 : Bytes w ad2 cap2 c.d) (e1 : n1 = c.d.length) (e2 : n2 = c.d.length) :
    Calls Tryd.prog 14 #[cv c (.slice ad1 n1 cap1), cv c (.slice ad2 n2 cap2)] w fun e w' => e = .returned (.bool true) ∧ Below w.heap.size w w' := by
  have b1 := balloc w (.cells (ccs c (.slice ad1 n1 cap1)) 34)
  have hC1 := CB.mk (new_of w (ccs c (.slice ad1 n1 cap1)) 34)
  have b2 := balloc (w.alloc (.cells (ccs c (.slice ad1 n1 cap1)) 34)) (.cells (ccs c (.slice ad2 n2 cap2)) 29)
  have hR2 := RB.mk (new_of (w.alloc (.cells (ccs c (.slice ad1 n1 cap1)) 34)) (ccs c (.slice ad2 n2 cap2)) 29)
  have hC2 := hC1.more b2
  have b12 := b1.trans (b2.mono b1.size)
  have hs : (w.alloc (.cells (ccs c (.slice ad1 n1 cap1)) 34)).heap.size = w.heap.size + 1 := by simp
  rw [hs] at hR2
  have hz1 := hid (h1.below b12)
  have hz2 := hid (h2.below b12)
  replace e1 := hid e1
  replace e2 := hid e2
  clear h1 h2 b1 b2 hC1 hs
  go_enter Tryd.func14, Tryd.ntmps14
  go_upto_region 1 with fail
  obtain ⟨w2, hw2⟩ : ∃ w2, (w.alloc (.cells (ccs c (.slice ad1 n1 cap1)) 34)).alloc (.cells (ccs c (.slice ad2 n2 cap2)) 29) = w2 := ⟨_, rfl⟩
  rw [hw2] at hC2 hR2 b12 hz1 hz2 ⊢
  clear hw2
  obtain ⟨B, hB⟩ : ∃ B, w.heap.size = B := ⟨_, rfl⟩
  rw [hB] at hC2 hR2 ⊢
  obtain ⟨D, hD⟩ : ∃ D, B + 1 = D := ⟨_, rfl⟩
  rw [hD] at hR2 ⊢
  replace hB := hid hB
  clear hD
  obtain ⟨c0, c1, c2, c3, c4, c5, c6, c7, c8⟩ := hC2.cells
  obtain ⟨r0, r1, r2, r3, r4, r5, r6, r7, r8⟩ := hR2.cells
  have hst := hid (fun m => string_at (hz1.out.below (below_drewN (Below.refl w2.heap.size w2) m)) e1.out)
  have hst2 := hid (fun m => string_at (hz2.out.below (below_drewN (Below.refl w2.heap.size w2) m)) e2.out)
  have hbz := hid (fun m => below_drewN b12 m)
  clear hC2 hR2 hz1 hz2 b12
  go_wp2_with fail
  refine wp_loop_rounds 3 ?_
  rw [rounds_succ]
  go_wp2_with fail
  go_quiet (fail)
  go_wp2_with fail
  rw [rounds_succ]
  go_wp2_with fail
  go_quiet (fail)
  go_wp2_with fail
  rw [rounds_succ]
  have hst' := hst.out
  have hst2' := hst2.out
  go_wp2_with fail
  go_ret
  exact ⟨rfl, hbz.out _⟩

end Go.Proofs.YtmmpkhoejcfdmaaDoor
