/- The document's Lay, walked. -/
import Derived.Test.YtboafgimjadboaaGreatDoorBput
import Derived.Test.YtboafgimjadboaaGreatDoorPut10
import Derived.Deep.CutBlock
namespace Go.Proofs.YtboafgimjadboaaGreatDoor
open Go.RowKit
set_option linter.unusedVariables false

/-- What Lay keeps: its arguments in blocks of their own, and the answer's. -/
def Fk (s : Nat) (E : Nat) (lv : Value) (a0 a1 b0 b1 : Int) (y : World) : Prop :=
  y.heap[s]? = some (.cells #[.int .i64 (E : Int), lv] 76 (0, 0)) ∧ y.heap[s + 1]? = some (.cells #[.int .i64 a0, .int .i64 a1] 197 (0, 0)) ∧ y.heap[s + 2]? = some (.cells #[.int .i64 b0, .int .i64 b1] 197 (0, 0)) ∧ y.heap[s + 3]? = some (.cells #[.int .i64 0, .slice none 0 0] 76 (0, 0))

end Go.Proofs.YtboafgimjadboaaGreatDoor
