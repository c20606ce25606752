/- 'told', walked. -/
import Derived.Test.YtdlggnibgnflnabDoorDoL10
namespace Go.Proofs.YtdlggnibgnflnabDoor
open Go.RowKit
set_option linter.unusedVariables false

theorem At.notin {V : Nat} {R : Nat → List Nat} {k : Nat} {r s : Int} (hin : ¬ In V R k) (hat : At V R (k : Int) r s) : r = -1 ∧ s = -1 := by
  refine At.none (fun u hu x hx hxe => hin ⟨u, hu, ?_⟩) hat
  obtain rfl : x = k := by omega
  exact hx

theorem lf_length (l : List Nat) : (lf l).length = l.length := by unfold lf; exact rot_len _ _















end Go.Proofs.YtdlggnibgnflnabDoor
