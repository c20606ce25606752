/- What a code's commands have: cmd's partsOf, size, fit, holds. -/
import Derived.Test.YtmmpkhoejcfdmaaDoorCmd19
import Derived.Test.YtmmpkhoejcfdmaaDoorAppendB
import Derived.Test.YtmmpkhoejcfdmaaDoorCopied
import Derived.Handy
namespace Go.Proofs.YtmmpkhoejcfdmaaDoor
open Go.RowKit
set_option linter.unusedVariables false

/-- What a code's commands have, as a value. -/
abbrev Pt.v (p : Pt) : Value := .agg #[.int .i64 (p.h : Int), .int .i64 (p.s : Int), .bool p.w, .bool p.d]

theorem pt_all {k : Int} {p : Pt} (h : pt k = some p) : (k = 1 ∨ k = 2 ∨ k = 3 ∨ k = 4 ∨ k = 5 ∨ k = 6 ∨ k = 7 ∨ k = 8 ∨ k = 9 ∨ k = 10 ∨ k = 11 ∨ k = 12 ∨ k = 13 ∨ k = 14 ∨ k = 15 ∨ k = 16 ∨ k = 17) := by
  have := pt_lt h
  omega

theorem below1 {w : World} (o : Obj) : Below w.heap.size w (w.alloc o) := (Below.refl _ _).alloc (Nat.le_refl _) _

set_option maxRecDepth 100000 in
set_option maxHeartbeats 4000000 in
theorem parts_some {k : Int} {p : Pt} (h : pt k = some p) (w : World) :
    Calls Tryd.prog 18 #[.int .i64 k] w fun e w' => e = .returned (.tuple #[p.v, .bool true]) ∧ Below w.heap.size w w' := by
  rcases pt_all h with rfl | rfl | rfl | rfl | rfl | rfl | rfl | rfl | rfl | rfl | rfl | rfl | rfl | rfl | rfl | rfl | rfl
  all_goals
    simp [pt] at h
    subst h
    go_enter Tryd.func18, Tryd.ntmps18
    go_wp2_with fail
    go_returns
    exact ⟨rfl, below1 _⟩

set_option maxRecDepth 100000 in
set_option maxHeartbeats 4000000 in
theorem parts_none {k : Int} (h : pt k = none) (w : World) :
    Calls Tryd.prog 18 #[.int .i64 k] w fun e w' => e = .returned (.tuple #[.agg #[.int .i64 0, .int .i64 0, .bool false, .bool false], .bool false]) ∧ Below w.heap.size w w' := by
  have hk := pt_none.1 h
  have e1 : ¬ k = 1 := by omega
  have e2 : ¬ k = 2 := by omega
  have e3 : ¬ k = 3 := by omega
  have e4 : ¬ k = 4 := by omega
  have e5 : ¬ k = 5 := by omega
  have e6 : ¬ k = 6 := by omega
  have e7 : ¬ k = 7 := by omega
  have e8 : ¬ k = 8 := by omega
  have e9 : ¬ k = 9 := by omega
  have e10 : ¬ k = 10 := by omega
  have e11 : ¬ k = 11 := by omega
  have e12 : ¬ k = 12 := by omega
  have e13 : ¬ k = 13 := by omega
  have e14 : ¬ k = 14 := by omega
  have e15 : ¬ k = 15 := by omega
  have e16 : ¬ k = 16 := by omega
  have e17 : ¬ k = 17 := by omega
  clear hk h
  go_enter Tryd.func18, Tryd.ntmps18
  go_wp2_with fail
  go_returns
  exact ⟨rfl, below1 _⟩

set_option maxRecDepth 100000 in
set_option maxHeartbeats 4000000 in
theorem size_ok (p : Pt) (h2 : p.h ≤ 2) (w : World) :
    Calls Tryd.prog 19 #[p.v] w fun e w' => e = .returned (.int .i64 (szp p : Int)) ∧ Below w.heap.size w w' := by
  obtain ⟨h, s, b, d⟩ := p
  dsimp only at h2
  have hs : s = 0 ∨ 0 < (s : Int) := by omega
  unfold szp
  rcases (by omega : h = 0 ∨ h = 1 ∨ h = 2) with rfl | rfl | rfl
  all_goals
    rcases hs with rfl | hs
    all_goals
      try have hs' : 0 < s := by omega
      cases b
      all_goals
        go_enter Tryd.func19, Tryd.ntmps19
        go_wp2_with fail
        go_ret
        exact ⟨by simp [*], below1 _⟩

end Go.Proofs.YtmmpkhoejcfdmaaDoor
