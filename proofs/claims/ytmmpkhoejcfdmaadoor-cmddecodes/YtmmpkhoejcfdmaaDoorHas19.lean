/- The document's has, walked. -/
import Derived.Test.YtmmpkhoejcfdmaaDoorLaws19
namespace Go.Proofs.YtmmpkhoejcfdmaaDoor
open Go.RowKit
set_option linter.unusedVariables false

/-- The greatest side, as the document has it. -/
def sd (p : Pt) : Int := if p.s = 0 then -1 else if p.s = 2 then 1 else 2

set_option maxRecDepth 100000 in
set_option maxHeartbeats 4000000 in
theorem has_some {k : Int} {p : Pt} (h : pt k = some p) (w : World) :
    Calls Tryd.prog 21 #[.int .i64 k] w fun e w' => e = .returned (.tuple #[.int .i64 (p.h : Int), .int .i64 (sd p), .bool p.w, .bool p.d]) ∧ Below w.heap.size w w' := by
  rcases pt_all h with rfl | rfl | rfl | rfl | rfl | rfl | rfl | rfl | rfl | rfl | rfl | rfl | rfl | rfl | rfl | rfl | rfl
  all_goals
    simp [pt] at h
    subst h
    go_enter Tryd.func21, Tryd.ntmps21
    go_wp2_with fail
    go_returns
    exact ⟨rfl, below1 _⟩

end Go.Proofs.YtmmpkhoejcfdmaaDoor
