/- The document's Next and Walk round a face, walked. -/
import Derived.Test.YtghpjljnbdjmaaaGreatDoorBface
import Derived.Test.YtghpjljnbdjmaaaGreatDoorBwith
namespace Go.Proofs.YtghpjljnbdjmaaaGreatDoor
open Go.RowKit
set_option linter.unusedVariables false

open Pq (fl fl_length fl_succ)





end Go.Proofs.YtghpjljnbdjmaaaGreatDoor
