/- sphere.Legal, walked. -/
import Derived.Test.YtegljhbjjdfhiaaDoorFAt11
import Derived.Test.YtegljhbjjdfhiaaDoorBsmall
namespace Go.Proofs.YtegljhbjjdfhiaaDoor
open Go.RowKit
set_option linter.unusedVariables false

set_option maxRecDepth 100000 in
set_option maxHeartbeats 2000000 in
/-- face.Same's errors; both corners of one face. -/
theorem slegal_fst {tb : Nat} (a0 a1 b0 b1 : Int) (s : Bool) (r : Value) (w : World) (hr : (s = false ∧ ∃ z, r = .iface 66 (.int .i64 z)) ∨ (s = true ∧ r = .nilIface)) (hc : ∀ y, Below w.heap.size w y → Calls Tryd.prog 27 #[.pointer (some ⟨tb, 0, none⟩), .agg #[.int .i64 a0, .int .i64 a1], .agg #[.int .i64 b0, .int .i64 b1]] y fun x w' => x = .returned (.tuple #[.bool s, r]) ∧ Below y.heap.size y w') :
    Calls Tryd.prog 15 #[.pointer (some ⟨tb, 0, none⟩), .agg #[.int .i64 a0, .int .i64 a1], .agg #[.int .i64 b0, .int .i64 b1]] w fun x w' => x = .returned (.tuple #[.bool s, r]) ∧ Below w.heap.size w w' := by
  have hk := hid (C2.new w a0 a1 b0 b1)
  have hb0 : Hid (Below w.heap.size w ((w.alloc (.cells #[.int .i64 a0, .int .i64 a1] 51)).alloc (.cells #[.int .i64 b0, .int .i64 b1] 51))) := hid (((Below.refl w.heap.size w).alloc (Nat.le_refl _) _).alloc (by simp) _)
  obtain ⟨w0, hw0⟩ : ∃ w0, (w.alloc (.cells #[.int .i64 a0, .int .i64 a1] 51)).alloc (.cells #[.int .i64 b0, .int .i64 b1] 51) = w0 := ⟨_, rfl⟩
  rw [hw0] at hb0 hk
  replace hw0 := hid hw0
  obtain ⟨c0, c1, c2, c3⟩ := hk.out.cells
  replace hc := hid (hc _ hb0.out)
  rcases hr with ⟨rfl, z, rfl⟩ | ⟨rfl, rfl⟩
  all_goals
    go_enter Tryd.func15, Tryd.ntmps15
    go_upto_region 1 with fail
    rw [hw0.out]
    go_wp2_with fail
    refine hc.out.mono ?_
    rintro x w1 ⟨rfl, b1⟩
    have hb1 := hid (hb0.out.trans (b1.mono hb0.out.size))
    clear b1
    go_wp2_with fail
    go_ret2
    exact ⟨rfl, hb1.out⟩

section
variable {w : World} {lo tb V E : Nat} {R : Nat → List Nat}

set_option maxRecDepth 100000 in
set_option maxHeartbeats 2000000 in
theorem slegal_ok (h : TA w lo tb V E R) (hw : Tw V E R) (hE8 : E ≤ 1000) (u v : Nat) (hu : u < V) (hv : v < V) (a b : Int) (s : Bool) (ha : Co V R (u : Int) a) (hb : Co V R (v : Int) b) (hs : s = true ↔ lb V E R u ≠ lb V E R v ∨ One V R u v (co a) (co b)) :
    Calls Tryd.prog 15 #[.pointer (some ⟨tb, 0, none⟩), .agg #[.int .i64 (u : Int), .int .i64 a], .agg #[.int .i64 (v : Int), .int .i64 b]] w fun x w' => x = .returned (.tuple #[.bool s, .nilIface]) ∧ Below w.heap.size w w' := by
  by_cases ho : One V R u v (co a) (co b)
  · obtain rfl : s = true := hs.2 (.inr ho)
    exact slegal_fst _ _ _ _ true .nilIface w (.inr ⟨rfl, rfl⟩) (fun y hy => fsame_ok (h.more hy) hw u v a b true ha hb (by simp [ho]))
  · have hs2 : s = !decide (lb V E R u = lb V E R v) := by
      by_cases e : lb V E R u = lb V E R v
      · have : s ≠ true := fun q => by rcases hs.1 q with q | q; exact q e; exact ho q
        simp [e, this]
      · have := hs.2 (.inl e)
        simp [e, this]
    have hk := hid (C2.new w (u : Int) a (v : Int) b)
    have hb0 : Hid (Below w.heap.size w ((w.alloc (.cells #[.int .i64 (u : Int), .int .i64 a] 51)).alloc (.cells #[.int .i64 (v : Int), .int .i64 b] 51))) := hid (((Below.refl w.heap.size w).alloc (Nat.le_refl _) _).alloc (by simp) _)
    obtain ⟨w0, hw0⟩ : ∃ w0, (w.alloc (.cells #[.int .i64 (u : Int), .int .i64 a] 51)).alloc (.cells #[.int .i64 (v : Int), .int .i64 b] 51) = w0 := ⟨_, rfl⟩
    rw [hw0] at hb0 hk
    replace hw0 := hid hw0
    obtain ⟨c0, c1, c2, c3⟩ := hk.out.cells
    have hc := hid (fsame_ok (h.more hb0.out) hw u v a b false ha hb (by simp [ho]))
    have hgr := hid (fun y (hy : Below w.heap.size w y) => joined_ok (h.more hy) hw hE8 (by omega))
    replace hs2 := hid hs2
    clear h hw hs ho ha hb
    go_enter Tryd.func15, Tryd.ntmps15
    go_upto_region 1 with fail
    rw [hw0.out]
    go_wp2_with fail
    refine hc.out.mono ?_
    rintro x w1 ⟨rfl, b1⟩
    have hb1 := hid (hb0.out.trans (b1.mono hb0.out.size))
    have hk1 := hid (hk.out.below b1)
    clear b1 c0 c1 c2 c3 hk
    go_wp2_with fail
    refine (hgr.out _ hb1.out).mono ?_
    rintro x w2 ⟨gb, rfl, hg⟩
    have hb2 := hid (hb1.out.trans (hg.bel.mono hb1.out.size))
    obtain ⟨d0, d1, d2, d3⟩ := (hk1.out.below hg.bel).cells
    have hsm := hid (hg.same (Below.refl _ _) u v hu hv)
    clear hg
    go_wp2_with fail
    refine hsm.out.mono ?_
    rintro x w3 ⟨rfl, b3⟩
    have hb3 := hid (hb2.out.trans (b3.mono hb2.out.size))
    clear b3
    go_wp2_with fail
    go_ret2
    exact ⟨by rw [hs2.out]; rfl, hb3.out⟩
end
end Go.Proofs.YtegljhbjjdfhiaaDoor
