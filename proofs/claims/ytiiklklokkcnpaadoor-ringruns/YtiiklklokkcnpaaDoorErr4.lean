/- The errors of the calls that ask a closure. -/
import Derived.Test.YtiiklklokkcnpaaDoorApi1
namespace Go.Proofs.YtiiklklokkcnpaaDoor
open Go.RowKit
set_option linter.unusedVariables false

set_option maxRecDepth 100000 in
set_option maxHeartbeats 400000 in
theorem list_nil (x : Int) (w0 : World) : Calls Tryd.prog 38 #[.pointer none, .int .i64 x] w0 fun e w' => e = .returned (.tuple #[.slice none 0 0, .iface 62 (.int .i64 1)]) ∧ Below w0.heap.size w0 w' := by
  go_enter Tryd.func38, Tryd.ntmps38
  go_wp2_with fail
  refine (size_nil x _).mono ?_
  rintro e w1 ⟨rfl, b1⟩
  go_wp2_with fail
  go_ret2
  exact ⟨rfl, b1⟩

set_option maxRecDepth 100000 in
set_option maxHeartbeats 400000 in
theorem at_nil (x k : Int) (w0 : World) : Calls Tryd.prog 42 #[.pointer none, .int .i64 x, .int .i64 k] w0 fun e w' => e = .returned (.tuple #[.int .i64 0, .iface 62 (.int .i64 1)]) ∧ Below w0.heap.size w0 w' := by
  go_enter Tryd.func42, Tryd.ntmps42
  go_wp2_with fail
  refine (size_nil x _).mono ?_
  rintro e w1 ⟨rfl, b1⟩
  go_wp2_with fail
  go_ret2
  exact ⟨rfl, ((Below.refl _ _).alloc (Nat.le_refl _) _).trans (b1.mono (by simp))⟩

section
variable {lo fb n : Nat} {w w0 : World} {v : Nat → Int} {seq : Nat → List Nat}







end

end Go.Proofs.YtiiklklokkcnpaaDoor
