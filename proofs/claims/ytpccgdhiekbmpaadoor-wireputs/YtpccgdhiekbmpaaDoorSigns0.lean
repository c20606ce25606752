/- What 'wire.Signed' answers. -/
import Derived.Test.YtpccgdhiekbmpaaDoorRows
import Derived.WalkKit
namespace Go.Proofs.YtpccgdhiekbmpaaDoor
open Go.RowKit

set_option maxHeartbeats 400000 in
theorem signed_any (x : Int) (w : World) :
    Calls Tryd.prog 13 #[.int .u64 x] w fun e w' => e = .returned (.int .i32 (wrap32 (IntKind.u32.wrap x))) ∧ w = w' := by
  go_enter Tryd.func13, Tryd.ntmps13
  go_wp2
  go_ret
  exact ⟨rfl, rfl⟩

end Go.Proofs.YtpccgdhiekbmpaaDoor
