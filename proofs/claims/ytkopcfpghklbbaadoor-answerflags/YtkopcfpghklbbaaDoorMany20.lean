/- answer's reader: many, where there may be none; slices.Grow by nothing. -/
import Derived.Test.YtkopcfpghklbbaaDoorRd20
import Derived.Test.YtkopcfpghklbbaaDoorText20
namespace Go.Proofs.YtkopcfpghklbbaaDoor
open Go.RowKit
set_option linter.unusedVariables false

set_option maxRecDepth 100000 in
set_option maxHeartbeats 4000000 in
theorem many0_ok (rb : Nat) (h : Nat) (i n c s d : Bool) (w : World) :
    Calls Tryd.prog 48 #[.pointer (some ⟨rb, 0, none⟩), .agg #[.int .i64 (h : Int), .bool false, .bool false, .bool i, .bool n, .bool c, .bool s, .bool d]] w fun e w' => e = .returned (.int .i64 0) ∧ Below w.heap.size w w' := by
  go_enter Tryd.func48, Tryd.ntmps48
  go_wp2_with fail
  go_ret
  exact ⟨rfl, below20 _⟩

set_option maxRecDepth 100000 in
set_option maxHeartbeats 4000000 in
theorem grow0_ok (w : World) : Calls Tryd.prog 49 #[.slice none 0 0, .int .i64 0] w fun e w' => e = .returned (.slice none 0 0) ∧ w' = w := by
  go_enter Tryd.func49, Tryd.ntmps49
  go_wp2_with fail
  go_ret
  exact ⟨rfl, rfl⟩

/-- What Decode answers, of what was read: the answer, or none. -/
def dend (k : Int) (X : An) (q : Bool) (L : List UInt8) (e : Ending) (w' : World) : Prop :=
  (chk20 k X = 0 ∧ q = false ∧ L = [] ∧ ∃ (ha : Option Addr) (hn hc : Nat) (da : Option Addr) (dn dc : Nat) (ba : Option Addr) (bn bc : Nat), e = .returned (.tuple #[av X (.slice ha hn hc) (.slice da dn dc) (.slice ba bn bc), .nilIface]) ∧ HV w' ha hn hc X.hs ∧ DV w' da dn dc X.ds ∧ X.d.length = bn ∧ Bytes w' ba bc X.d) ∨
  (¬ (chk20 k X = 0 ∧ q = false ∧ L = []) ∧ e = .returned (.tuple #[av az (.slice none 0 0) (.slice none 0 0) (.slice none 0 0), .iface 93 (.int .i64 3)]))

set_option maxRecDepth 100000 in
set_option maxHeartbeats 4000000 in
/-- No code. -/
theorem dec_code (k : Int) (hk : ¬ (0 ≤ k ∧ k ≤ 17)) (ad : Option Addr) (n cap : Nat) (w : World) :
    Calls Tryd.prog 17 #[.int .i64 k, .slice ad n cap] w fun e w' => e = .returned (.tuple #[av az (.slice none 0 0) (.slice none 0 0) (.slice none 0 0), .iface 93 (.int .i64 10)]) ∧ Below w.heap.size w w' := by
  have hic := hid (iscode_ok k)
  have r1 : decide (0 ≤ k ∧ k ≤ 17) = false := decide_eq_false hk
  rw [r1] at hic
  clear r1 hk
  go_enter Tryd.func17, Tryd.ntmps17
  go_wp2_with fail
  refine (hic.out _).mono ?_
  rintro e w2 ⟨rfl, rfl⟩
  go_wp2_with fail
  go_returns
  exact ⟨rfl, below20 _⟩

end Go.Proofs.YtkopcfpghklbbaaDoor
