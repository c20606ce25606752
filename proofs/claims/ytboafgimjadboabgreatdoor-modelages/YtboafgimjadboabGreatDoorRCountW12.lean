/- The document's Count, walked. -/
import Derived.Test.YtboafgimjadboabGreatDoorRCount12
import Derived.Deep.CutBlock
namespace Go.Proofs.YtboafgimjadboabGreatDoor
open Go.RowKit
set_option linter.unusedVariables false

