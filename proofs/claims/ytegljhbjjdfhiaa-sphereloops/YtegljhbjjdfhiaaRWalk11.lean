/- The document's Next and Walk round a face, walked. -/
import Derived.Test.YtegljhbjjdfhiaaBwith
import Derived.Test.YtegljhbjjdfhiaaBface
namespace Go.Proofs.Ytegljhbjjdfhiaa
open Go.RowKit
set_option linter.unusedVariables false

open Pq (fl fl_length fl_succ)





end Go.Proofs.Ytegljhbjjdfhiaa
