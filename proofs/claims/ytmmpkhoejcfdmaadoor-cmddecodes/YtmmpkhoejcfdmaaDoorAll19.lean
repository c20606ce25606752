/- cmd's all, walked. -/
import Derived.Test.YtmmpkhoejcfdmaaDoorParts19
namespace Go.Proofs.YtmmpkhoejcfdmaaDoor
open Go.RowKit
set_option linter.unusedVariables false

/-- A command as a value. -/
abbrev cv (c : Cm) (dv : Value) : Value := .agg #[.int .i64 c.code, .int .u32 (c.a0 : Int), .int .u32 (c.p0 : Int), .int .u32 (c.a1 : Int), .int .u32 (c.p1 : Int), .int .i64 c.s0, .int .i64 c.s1, .int .i32 c.w, dv]

theorem idxA (a b c d : Int) (w : World) : (Instr.index 32 (.agg #[.int .u32 a, .int .u32 b, .int .u32 c, .int .u32 d]) (.int .i64 0)).run Tryd.prog w = .ok (.agg #[.int .u32 a, .int .u32 b]) w := by kernel_rfl
theorem idxB (a b c d : Int) (w : World) : (Instr.index 32 (.agg #[.int .u32 a, .int .u32 b, .int .u32 c, .int .u32 d]) (.int .i64 1)).run Tryd.prog w = .ok (.agg #[.int .u32 c, .int .u32 d]) w := by kernel_rfl
attribute [local go_sem] idxA idxB

theorem pt_eight {k : Int} {p : Pt} (h : pt k = some p) : p = ⟨0, 0, false, false⟩ ∨ p = ⟨1, 0, false, false⟩ ∨ p = ⟨2, 0, false, false⟩ ∨ p = ⟨1, 0, true, false⟩ ∨ p = ⟨1, 2, false, false⟩ ∨ p = ⟨2, 2, false, false⟩ ∨ p = ⟨2, 3, true, false⟩ ∨ p = ⟨0, 0, false, true⟩ := by
  unfold pt at h
  repeat' split at h
  all_goals first | (exfalso; simp at h; done) | (injection h with h; subst h; simp)

set_option maxRecDepth 100000 in
set_option maxHeartbeats 8000000 in
theorem all_ok {q : Int} {p : Pt} (hp : pt q = some p) (c : Cm) (ad : Option Addr) (n cap : Nat) (hn : c.d.length = n) (w : World) :
    Calls Tryd.prog 24 #[p.v, cv c (.slice ad n cap)] w fun e w' => e = .returned (.bool (all p c)) ∧ Below w.heap.size w w' := by
  obtain ⟨k, a0, p0, a1, p1, s0, s1, wt, l⟩ := c
  dsimp only at hn
  rcases pt_eight hp with rfl | rfl | rfl | rfl | rfl | rfl | rfl | rfl
  all_goals
    clear hp
    have hl : Hid (l = [] ↔ n = 0) := by rw [← List.length_eq_zero_iff, hn]; exact Iff.rfl
    clear hn
    go_enter Tryd.func24, Tryd.ntmps24
    go_wp2_with fail
    refine wp_loop_rounds 3 ?_
    rw [rounds_succ]
    go_wp2_with fail
    all_goals try (rw [rounds_succ]; go_wp2_with fail)
    all_goals try (rw [rounds_succ]; go_wp2_with fail)
    all_goals
      go_ret
      refine ⟨congrArg (fun b => Ending.returned (Value.bool b)) ?_, ?_⟩
      · rw [Bool.eq_iff_iff, all_iff]
        have hl' := hl.out
        clear hl
        simp_all
      · first
          | exact ((below1 _).alloc (by simp) _).alloc (by simp; omega) _
          | exact (((below1 _).alloc (by simp) _).alloc (by simp; omega) _).alloc (by simp; omega) _

end Go.Proofs.YtmmpkhoejcfdmaaDoor
