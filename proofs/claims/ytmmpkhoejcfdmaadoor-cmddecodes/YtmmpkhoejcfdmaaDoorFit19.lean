/- cmd's fit, all, holds, Check, walked. -/
import Derived.Test.YtmmpkhoejcfdmaaDoorParts19
namespace Go.Proofs.YtmmpkhoejcfdmaaDoor
open Go.RowKit
set_option linter.unusedVariables false

set_option maxRecDepth 100000 in
set_option maxHeartbeats 4000000 in
theorem fit_ok (p : Pt) (s0 s1 : Int) (h2 : p.h ≤ 2) (hs : p.s = 0 ∨ 1 ≤ p.h) (w : World) :
    Calls Tryd.prog 23 #[p.v, .agg #[.int .i64 s0, .int .i64 s1]] w fun e w' => e = .returned (.bool (fit p s0 s1)) ∧ Below w.heap.size w w' := by
  obtain ⟨h, s, b, d⟩ := p
  dsimp only at h2 hs
  by_cases hz : s = 0
  · subst hz
    go_enter Tryd.func23, Tryd.ntmps23
    go_wp2_with fail
    go_ret
    exact ⟨rfl, (below1 _).alloc (by simp) _⟩
  · have hz' : ¬ (s : Int) = 0 := by omega
    obtain ⟨z, hzz⟩ : ∃ z : Int, (s : Int) = z := ⟨_, rfl⟩
    have hf : ∀ x, x = fit ⟨h, s, b, d⟩ s0 s1 → fit ⟨h, s, b, d⟩ s0 s1 = x := fun x e => e.symm
    have a0 : (s0 < 0) ∨ (¬ s0 < 0 ∧ z ≤ s0) ∨ (¬ s0 < 0 ∧ ¬ z ≤ s0) := by omega
    have a1 : (s1 < 0) ∨ (¬ s1 < 0 ∧ z ≤ s1) ∨ (¬ s1 < 0 ∧ ¬ z ≤ s1) := by omega
    rcases (by omega : h = 1 ∨ h = 2) with rfl | rfl
    · rcases a0 with c | ⟨c, c'⟩ | ⟨c, c'⟩
      · have e : fit ⟨1, s, b, d⟩ s0 s1 = false := Bool.eq_false_iff.2 (fun q => by rw [fit_iff] at q; dsimp only at q; omega)
        rw [e]; show Calls _ _ #[.agg #[.int .i64 ((1 : Nat) : Int), .int .i64 (s : Int), .bool b, .bool d], _] _ _; rw [hzz] at hz' ⊢; clear hf hzz hs hz e a1 h2
        go_enter Tryd.func23, Tryd.ntmps23
        go_wp2_with fail
        refine wp_loop_rounds 2 ?_
        rw [rounds_succ]
        go_wp2_with fail
        go_ret
        exact ⟨rfl, (below1 _).alloc (by simp) _⟩
      · have e : fit ⟨1, s, b, d⟩ s0 s1 = false := Bool.eq_false_iff.2 (fun q => by rw [fit_iff] at q; dsimp only at q; omega)
        rw [e]; show Calls _ _ #[.agg #[.int .i64 ((1 : Nat) : Int), .int .i64 (s : Int), .bool b, .bool d], _] _ _; rw [hzz] at hz' ⊢; clear hf hzz hs hz e a1 h2
        go_enter Tryd.func23, Tryd.ntmps23
        go_wp2_with fail
        refine wp_loop_rounds 2 ?_
        rw [rounds_succ]
        go_wp2_with fail
        go_ret
        exact ⟨rfl, (below1 _).alloc (by simp) _⟩
      · have e : fit ⟨1, s, b, d⟩ s0 s1 = true := fit_iff.2 (by dsimp only; omega)
        rw [e]; show Calls _ _ #[.agg #[.int .i64 ((1 : Nat) : Int), .int .i64 (s : Int), .bool b, .bool d], _] _ _; rw [hzz] at hz' ⊢; clear hf hzz hs hz e a1 h2
        go_enter Tryd.func23, Tryd.ntmps23
        go_wp2_with fail
        refine wp_loop_rounds 2 ?_
        rw [rounds_succ]
        go_wp2_with fail
        rw [rounds_succ]
        go_wp2_with fail
        go_ret
        exact ⟨rfl, (below1 _).alloc (by simp) _⟩
    · rcases a0 with c | ⟨c, c'⟩ | ⟨c, c'⟩
      · have e : fit ⟨2, s, b, d⟩ s0 s1 = false := Bool.eq_false_iff.2 (fun q => by rw [fit_iff] at q; dsimp only at q; omega)
        rw [e]; show Calls _ _ #[.agg #[.int .i64 ((2 : Nat) : Int), .int .i64 (s : Int), .bool b, .bool d], _] _ _; rw [hzz] at hz' ⊢; clear hf hzz hs hz e a1 h2
        go_enter Tryd.func23, Tryd.ntmps23
        go_wp2_with fail
        refine wp_loop_rounds 2 ?_
        rw [rounds_succ]
        go_wp2_with fail
        go_ret
        exact ⟨rfl, (below1 _).alloc (by simp) _⟩
      · have e : fit ⟨2, s, b, d⟩ s0 s1 = false := Bool.eq_false_iff.2 (fun q => by rw [fit_iff] at q; dsimp only at q; omega)
        rw [e]; show Calls _ _ #[.agg #[.int .i64 ((2 : Nat) : Int), .int .i64 (s : Int), .bool b, .bool d], _] _ _; rw [hzz] at hz' ⊢; clear hf hzz hs hz e a1 h2
        go_enter Tryd.func23, Tryd.ntmps23
        go_wp2_with fail
        refine wp_loop_rounds 2 ?_
        rw [rounds_succ]
        go_wp2_with fail
        go_ret
        exact ⟨rfl, (below1 _).alloc (by simp) _⟩
      · rcases a1 with g | ⟨g, g'⟩ | ⟨g, g'⟩
        · have e : fit ⟨2, s, b, d⟩ s0 s1 = false := Bool.eq_false_iff.2 (fun q => by rw [fit_iff] at q; dsimp only at q; omega)
          rw [e]; show Calls _ _ #[.agg #[.int .i64 ((2 : Nat) : Int), .int .i64 (s : Int), .bool b, .bool d], _] _ _; rw [hzz] at hz' ⊢; clear hf hzz hs hz e h2
          go_enter Tryd.func23, Tryd.ntmps23
          go_wp2_with fail
          refine wp_loop_rounds 3 ?_
          rw [rounds_succ]
          go_wp2_with fail
          rw [rounds_succ]
          go_wp2_with fail
          go_ret
          exact ⟨rfl, (below1 _).alloc (by simp) _⟩
        · have e : fit ⟨2, s, b, d⟩ s0 s1 = false := Bool.eq_false_iff.2 (fun q => by rw [fit_iff] at q; dsimp only at q; omega)
          rw [e]; show Calls _ _ #[.agg #[.int .i64 ((2 : Nat) : Int), .int .i64 (s : Int), .bool b, .bool d], _] _ _; rw [hzz] at hz' ⊢; clear hf hzz hs hz e h2
          go_enter Tryd.func23, Tryd.ntmps23
          go_wp2_with fail
          refine wp_loop_rounds 3 ?_
          rw [rounds_succ]
          go_wp2_with fail
          rw [rounds_succ]
          go_wp2_with fail
          go_ret
          exact ⟨rfl, (below1 _).alloc (by simp) _⟩
        · have e : fit ⟨2, s, b, d⟩ s0 s1 = true := fit_iff.2 (by dsimp only; omega)
          rw [e]; show Calls _ _ #[.agg #[.int .i64 ((2 : Nat) : Int), .int .i64 (s : Int), .bool b, .bool d], _] _ _; rw [hzz] at hz' ⊢; clear hf hzz hs hz e h2
          go_enter Tryd.func23, Tryd.ntmps23
          go_wp2_with fail
          refine wp_loop_rounds 3 ?_
          rw [rounds_succ]
          go_wp2_with fail
          rw [rounds_succ]
          go_wp2_with fail
          rw [rounds_succ]
          go_wp2_with fail
          go_ret
          exact ⟨rfl, (below1 _).alloc (by simp) _⟩

set_option maxRecDepth 100000 in
set_option maxHeartbeats 4000000 in
theorem holds_ok (p : Pt) (n : Nat) (h2 : p.h ≤ 2) (w : World) :
    Calls Tryd.prog 27 #[p.v, .int .i64 (n : Int)] w fun e w' => e = .returned (.bool (holds p n)) ∧ Below w.heap.size w w' := by
  have hsz := hid (size_ok p h2)
  by_cases hd : p.d = true
  · have e : Hid (holds p n = decide ((n : Int) ≤ 67108863)) := by
      show _ = _
      unfold holds
      rw [if_pos hd]
      exact decide_eq_decide.2 (by omega)
    show Calls _ _ #[.agg #[.int .i64 (p.h : Int), .int .i64 (p.s : Int), .bool p.w, .bool p.d], _] _ _
    rw [hd]
    go_enter Tryd.func27, Tryd.ntmps27
    go_wp2_with fail
    go_ret
    rw [e.out]
    exact ⟨rfl, below1 _⟩
  · have hd' : p.d = false := by simpa using hd
    have e : Hid (holds p n = decide ((n : Int) = (szp p : Int))) := by
      show _ = _
      unfold holds
      rw [if_neg hd]
      rw [Bool.eq_iff_iff]
      simp
      omega
    have hv : p.v = .agg #[.int .i64 (p.h : Int), .int .i64 (p.s : Int), .bool p.w, .bool false] := by rw [← hd']
    rw [hv] at hsz ⊢
    clear hd
    go_enter Tryd.func27, Tryd.ntmps27
    go_wp2_with (go_at_call 19; refine (hsz.out _).mono ?_; rintro e1 w1 ⟨rfl, b1⟩)
    go_ret
    rw [e.out]
    exact ⟨congrArg (fun b => Ending.returned (Value.bool b)) (by rw [Bool.eq_iff_iff]; simp), (below1 _).trans (b1.mono (by simp))⟩

end Go.Proofs.YtmmpkhoejcfdmaaDoor
