/- New Rings; Merge; split and merged whatever comes. -/
import Derived.Test.YtiiklklokkcnpaaDoorRing6
import Derived.Test.YtiiklklokkcnpaaDoorNew4
namespace Go.Proofs.YtiiklklokkcnpaaDoor
open Go.RowKit
set_option linter.unusedVariables false

/-- What stands at a place of an array of two. -/
theorem pair_at (x y : Int) (w : World) : (Instr.index 54 (.agg #[.int .i64 x, .int .i64 y]) (.int .i64 0)).run Tryd.prog w = .ok (.int .i64 x) w ∧ (Instr.index 54 (.agg #[.int .i64 x, .int .i64 y]) (.int .i64 1)).run Tryd.prog w = .ok (.int .i64 y) w := by
  have hi := info_parts infoInt
  obtain ⟨i0, hif, hz0, hz1, hz2⟩ := hi
  constructor <;> simp [Instr.index, asIntOf, run_underlying Tryd.underlying54, part, Go.sizeOf, typeInfo, hif, hz1, isAgg, run_underlying Tryd.underlying3, go_sem]

def TT (k : Nat) (seq : Nat → List Nat) (x y : Nat) (sq : Nat → List Nat) : Prop := sq = if k = 0 then seq else if k = 1 then turnS seq x else turnS (turnS seq x) y

section
variable {lo rb fb n : Nat} {w w0 : World} {v : Nat → Int} {seq : Nat → List Nat}

set_option maxRecDepth 100000 in
set_option maxHeartbeats 1000000 in
theorem RG.merge (h : RG lo w rb fb n v seq w0) (x y : Nat) (hx : x < n) (hy : y < n) (hin : y + 1 ∉ seq (x + 1)) :
    Calls Tryd.prog 10 #[.pointer (some ⟨rb, 0, none⟩), .int .i64 (x : Int), .int .i64 (y : Int)] w0 fun e w' => e = .returned .nilIface ∧ RG lo w rb fb n v (mrgS seq (x + 1) (y + 1)) w' ∧ Keep w0 w' := by
  have p := h.fs.part
  have hne : seq (x + 1) ≠ seq (y + 1) := fun e => hin ((p.one (by omega) (by omega)).1 e)
  have hs := hid (h.same x y hx hy false (decide_eq_false hne))
  obtain ⟨m1, m2⟩ := merge_is p (show x + 1 ≠ 0 by omega) (show y + 1 ≠ 0 by omega) hne
  replace m1 := hid m1
  replace m2 := hid m2
  clear h hin hne p
  go_enter Tryd.func10, Tryd.ntmps10
  go_wp2_with fail
  refine hs.out.mono ?_
  rintro e w2 ⟨rfl, g2, k2⟩
  have st2 : Hid (∃ sq, TT 0 seq (x + 1) (y + 1) sq ∧ RG lo w rb fb n v sq w2 ∧ Keep w0 w2) := hid ⟨seq, rfl, g2, k2⟩
  clear hs g2 k2
  go_wp2_with fail
  go_loopw [10, 11, 27] (fun _ _ u wr => ∃ k : Nat, k ≤ 2 ∧ u = .int .i64 (k : Int) ∧ Hid (∃ sq, TT k seq (x + 1) (y + 1) sq ∧ RG lo w rb fb n v sq wr ∧ Keep w0 wr)) (fun _ _ u _ => 2 - (intOf u).toNat)
  case atStart => exact ⟨0, by omega, by go_num, st2⟩
  case round =>
    clear st2
    obtain ⟨k, hk, rfl, hst⟩ := hrel
    have hkc : k = 0 ∨ k = 1 ∨ k = 2 := by omega
    rcases hkc with rfl | rfl | rfl
    · obtain ⟨sq, h0, g3, k3⟩ := hst.out
      have h0 : sq = seq := h0
      rw [h0] at g3
      clear h0
      have hi0 := (pair_at (x : Int) (y : Int) wr).1
      have ht := hid (g3.turn x hx)
      have k3 := hid k3
      clear hst g3
      go_wp2_with fail
      refine ht.out.mono ?_
      rintro e w4 ⟨rfl, g4, k4⟩
      have st4 : Hid (∃ sq, TT 1 seq (x + 1) (y + 1) sq ∧ RG lo w rb fb n v sq w4 ∧ Keep w0 w4) := hid ⟨_, rfl, g4, k3.out.trans k4⟩
      clear ht g4 k4
      go_wp2_with fail
      go_roundw
      case rel => exact ⟨1, by omega, by go_num, st4⟩
      case measure => simp [intOf]
    · obtain ⟨sq, h0, g3, k3⟩ := hst.out
      have h0 : sq = turnS seq (x + 1) := h0
      rw [h0] at g3
      clear h0
      have hi0 := (pair_at (x : Int) (y : Int) wr).2
      have ht := hid (g3.turn y hy)
      have k3 := hid k3
      clear hst g3
      go_wp2_with fail
      refine ht.out.mono ?_
      rintro e w4 ⟨rfl, g4, k4⟩
      have st4 : Hid (∃ sq, TT 2 seq (x + 1) (y + 1) sq ∧ RG lo w rb fb n v sq w4 ∧ Keep w0 w4) := hid ⟨_, rfl, g4, k3.out.trans k4⟩
      clear ht g4 k4
      go_wp2_with fail
      go_roundw
      case rel => exact ⟨2, by omega, by go_num, st4⟩
      case measure => simp [intOf]
    · obtain ⟨sq, h0, g3, k3⟩ := hst.out
      have h0 : sq = turnS (turnS seq (x + 1)) (y + 1) := h0
      rw [h0] at g3
      clear h0
      have hk3 := hid (kept_ok g3.rb)
      have hj := hid (g3.fs.join x y hx hy m2.out)
      have g3 := hid g3
      have k3 := hid k3
      clear hst
      go_wp2_with fail
      refine hk3.out.mono ?_
      rintro e w4 ⟨rfl, rfl⟩
      go_wp2_with fail
      refine hj.out.mono ?_
      rintro e w5 ⟨rfl, h5, k5⟩
      rw [m1.out] at h5
      have fin := hid (And.intro (g3.out.after k5 h5) (k3.out.trans k5))
      clear hj hk3 h5 k5
      go_wp2_with fail
      go_ret
      exact ⟨rfl, fin.out⟩

/-- Split, or not; merged, or not: Rings they are. -/
theorem RG.splitAny (h : RG lo w rb fb n v seq w0) (x y : Nat) (hx : x < n) (hy : y < n) :
    Calls Tryd.prog 11 #[.pointer (some ⟨rb, 0, none⟩), .int .i64 (x : Int), .int .i64 (y : Int)] w0 fun e w' => ∃ u, e = .returned u ∧ ∃ seq', RG lo w rb fb n v seq' w' := by
  by_cases e : y + 1 ∈ seq (x + 1)
  · by_cases e2 : x = y
    · subst e2
      refine (h.split_self x hx).mono ?_
      rintro e w' ⟨rfl, h1, k1⟩
      exact ⟨_, rfl, _, h1⟩
    · refine (h.split x y hx hy e2 e).mono ?_
      rintro e w' ⟨rfl, h1, k1⟩
      exact ⟨_, rfl, _, h1⟩
  · refine (h.split_apart x y hx hy e).mono ?_
    rintro e w' ⟨rfl, h1, k1⟩
    exact ⟨_, rfl, _, h1⟩

theorem RG.mergeAny (h : RG lo w rb fb n v seq w0) (x y : Nat) (hx : x < n) (hy : y < n) :
    Calls Tryd.prog 10 #[.pointer (some ⟨rb, 0, none⟩), .int .i64 (x : Int), .int .i64 (y : Int)] w0 fun e w' => ∃ u, e = .returned u ∧ ∃ seq', RG lo w rb fb n v seq' w' := by
  by_cases e : y + 1 ∈ seq (x + 1)
  · refine (h.merge_same x y hx hy e).mono ?_
    rintro e w' ⟨rfl, h1, k1⟩
    exact ⟨_, rfl, _, h1⟩
  · refine (h.merge x y hx hy e).mono ?_
    rintro e w' ⟨rfl, h1, k1⟩
    exact ⟨_, rfl, _, h1⟩
end

set_option maxRecDepth 100000 in
set_option maxHeartbeats 1000000 in
theorem gnew_ok (n : Nat) (w : World) (h1 : 1 ≤ n) (h2 : n ≤ 8388608) : Calls Tryd.prog 7 #[.int .i64 (n : Int)] w fun e w' => ∃ rb fb, e = .returned (.tuple #[.pointer (some ⟨rb, 0, none⟩), .nilIface]) ∧ RG w.heap.size w rb fb n zero one w' := by
  have hn := hid (new_ok n w h1 h2)
  go_enter Tryd.func7, Tryd.ntmps7
  go_wp2_with fail
  refine hn.out.mono ?_
  rintro e w1 ⟨fb, rfl, f1⟩
  have fin : Hid (RG w.heap.size w w1.heap.size fb n zero one (w1.alloc (.cells #[.pointer (some ⟨fb, 0, none⟩)] 61))) := hid ⟨f1.alloc _, heap_alloc_new w1 _⟩
  clear hn f1
  go_wp2_with fail
  go_ret2
  exact ⟨_, fb, rfl, fin.out⟩

set_option maxRecDepth 100000 in
set_option maxHeartbeats 1000000 in
theorem gnew_bad (n : Int) (w : World) (hn : n < 1 ∨ 8388608 < n) : Calls Tryd.prog 7 #[.int .i64 n] w fun e w' => e = .returned (.tuple #[.pointer none, .iface 62 (.int .i64 1)]) ∧ w = w' := by
  have hb := hid (new_bad n w hn)
  clear hn
  go_enter Tryd.func7, Tryd.ntmps7
  go_wp2_with fail
  refine hb.out.mono ?_
  rintro e w1 ⟨rfl, rfl⟩
  go_wp2_with fail
  go_ret2
  exact ⟨rfl, rfl⟩

end Go.Proofs.YtiiklklokkcnpaaDoor
