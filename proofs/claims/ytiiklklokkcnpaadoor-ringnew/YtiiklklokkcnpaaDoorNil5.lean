/- The calls of nil Rings. -/
import Derived.Test.YtiiklklokkcnpaaDoorRing6
namespace Go.Proofs.YtiiklklokkcnpaaDoor
open Go.RowKit
set_option linter.unusedVariables false

set_option maxRecDepth 100000 in
set_option maxHeartbeats 1000000 in
theorem gsame_nil (x y : Int) (w0 : World) :
    Calls Tryd.prog 20 #[.pointer none, .int .i64 x, .int .i64 y] w0 fun e w' => e = .returned (.tuple #[.bool false, (.iface 62 (.int .i64 1))]) ∧ Below w0.heap.size w0 w' := by
  go_enter Tryd.func20, Tryd.ntmps20
  go_wp2_with fail
  refine (kept_nil _).mono ?_
  rintro e w1 ⟨rfl, rfl⟩
  go_wp2_with fail
  refine (same_nil x y _).mono ?_
  rintro e w2 ⟨rfl, b2⟩
  go_wp2_with fail
  go_ret2
  exact ⟨rfl, b2⟩

set_option maxRecDepth 100000 in
set_option maxHeartbeats 1000000 in
theorem gfront_nil (x : Int) (w0 : World) :
    Calls Tryd.prog 24 #[.pointer none, .int .i64 x] w0 fun e w' => e = .returned (.tuple #[.int .i64 0, (.iface 62 (.int .i64 1))]) ∧ Below w0.heap.size w0 w' := by
  go_enter Tryd.func24, Tryd.ntmps24
  go_wp2_with fail
  refine (kept_nil _).mono ?_
  rintro e w1 ⟨rfl, rfl⟩
  go_wp2_with fail
  refine (at_nil x 0 _).mono ?_
  rintro e w2 ⟨rfl, b2⟩
  go_wp2_with fail
  go_ret2
  exact ⟨rfl, b2⟩

set_option maxRecDepth 100000 in
set_option maxHeartbeats 1000000 in
theorem gplace_nil (x : Int) (w0 : World) :
    Calls Tryd.prog 59 #[.pointer none, .int .i64 x] w0 fun e w' => e = .returned (.tuple #[.int .i64 0, .int .i64 0, (.iface 62 (.int .i64 1))]) ∧ Below w0.heap.size w0 w' := by
  go_enter Tryd.func59, Tryd.ntmps59
  go_wp2_with fail
  refine (kept_nil _).mono ?_
  rintro e w1 ⟨rfl, rfl⟩
  go_wp2_with fail
  refine (rank_nil x _).mono ?_
  rintro e w2 ⟨rfl, b2⟩
  go_wp2_with fail
  go_ret3
  exact ⟨rfl, b2⟩

set_option maxRecDepth 100000 in
set_option maxHeartbeats 1000000 in
theorem gbeside_nil (x s : Int) (w0 : World) :
    Calls Tryd.prog 41 #[.pointer none, .int .i64 x, .int .i64 s] w0 fun e w' => e = .returned (.tuple #[.int .i64 0, (.iface 62 (.int .i64 1))]) ∧ Below w0.heap.size w0 w' := by
  go_enter Tryd.func41, Tryd.ntmps41
  go_wp2_with fail
  refine (gplace_nil x _).mono ?_
  rintro e w1 ⟨rfl, b1⟩
  go_wp2_with fail
  go_ret2
  exact ⟨rfl, b1⟩

set_option maxRecDepth 100000 in
set_option maxHeartbeats 1000000 in
theorem gnext_nil (x : Int) (w0 : World) :
    Calls Tryd.prog 23 #[.pointer none, .int .i64 x] w0 fun e w' => e = .returned (.tuple #[.int .i64 0, (.iface 62 (.int .i64 1))]) ∧ Below w0.heap.size w0 w' := by
  go_enter Tryd.func23, Tryd.ntmps23
  go_wp2_with fail
  refine (gbeside_nil x 1 _).mono ?_
  rintro e w1 ⟨rfl, b1⟩
  go_wp2_with fail
  go_ret2
  exact ⟨rfl, b1⟩

set_option maxRecDepth 100000 in
set_option maxHeartbeats 1000000 in
theorem gwalk_nil (x : Int) (w0 : World) :
    Calls Tryd.prog 22 #[.pointer none, .int .i64 x] w0 fun e w' => e = .returned (.tuple #[.slice none 0 0, (.iface 62 (.int .i64 1))]) ∧ Below w0.heap.size w0 w' := by
  go_enter Tryd.func22, Tryd.ntmps22
  go_wp2_with fail
  refine (kept_nil _).mono ?_
  rintro e w1 ⟨rfl, rfl⟩
  go_wp2_with fail
  refine (list_nil x _).mono ?_
  rintro e w2 ⟨rfl, b2⟩
  go_wp2_with fail
  go_ret2
  exact ⟨rfl, b2⟩

set_option maxRecDepth 100000 in
set_option maxHeartbeats 1000000 in
theorem gsplit_nil (x y : Int) (w0 : World) :
    Calls Tryd.prog 11 #[.pointer none, .int .i64 x, .int .i64 y] w0 fun e w' => e = .returned ((.iface 62 (.int .i64 1))) ∧ Below w0.heap.size w0 w' := by
  go_enter Tryd.func11, Tryd.ntmps11
  go_wp2_with fail
  refine (gsame_nil x y _).mono ?_
  rintro e w1 ⟨rfl, b1⟩
  go_wp2_with fail
  go_ret
  exact ⟨rfl, b1⟩

set_option maxRecDepth 100000 in
set_option maxHeartbeats 1000000 in
theorem gmerge_nil (x y : Int) (w0 : World) :
    Calls Tryd.prog 10 #[.pointer none, .int .i64 x, .int .i64 y] w0 fun e w' => e = .returned ((.iface 62 (.int .i64 1))) ∧ Below w0.heap.size w0 w' := by
  go_enter Tryd.func10, Tryd.ntmps10
  go_wp2_with fail
  refine (gsame_nil x y _).mono ?_
  rintro e w1 ⟨rfl, b1⟩
  go_wp2_with fail
  go_ret
  exact ⟨rfl, b1⟩

set_option maxRecDepth 100000 in
set_option maxHeartbeats 1000000 in
theorem gapart_nil (x : Int) (w0 : World) :
    Calls Tryd.prog 13 #[.pointer none, .int .i64 x] w0 fun e w' => e = .returned ((.iface 62 (.int .i64 1))) ∧ Below w0.heap.size w0 w' := by
  go_enter Tryd.func13, Tryd.ntmps13
  go_wp2_with fail
  refine (gnext_nil x _).mono ?_
  rintro e w1 ⟨rfl, b1⟩
  go_wp2_with fail
  go_ret
  exact ⟨rfl, b1⟩

set_option maxRecDepth 100000 in
set_option maxHeartbeats 1000000 in
theorem gturn_nil (x : Int) (w0 : World) :
    Calls Tryd.prog 15 #[.pointer none, .int .i64 x] w0 fun e w' => e = .returned ((.iface 62 (.int .i64 1))) ∧ Below w0.heap.size w0 w' := by
  go_enter Tryd.func15, Tryd.ntmps15
  go_wp2_with fail
  refine (gfront_nil x _).mono ?_
  rintro e w1 ⟨rfl, b1⟩
  go_wp2_with fail
  go_ret
  exact ⟨rfl, b1⟩

end Go.Proofs.YtiiklklokkcnpaaDoor
