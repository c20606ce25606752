/- From the reading of an argument that is a model, by value, to its parts. -/
import Derived.Test.YtboafgimjadboaaGreatDoorBmm
import Derived.ProofKit
import Derived.OpenShut
import Derived.Deep.Slices
import Derived.Deep.SlicePairs
namespace Go.Proofs.YtboafgimjadboaaGreatDoor
open Go.ChangeShapes Go.WideShapes Go.ChangeAt Go.RowKit
set_option linter.unusedVariables false

end Go.Proofs.YtboafgimjadboaaGreatDoor
