/- Wrong sizes and wrong places. -/
import Derived.Test.YtjkiagjgnfaknaaDoorState3
namespace Go.Proofs.YtjkiagjgnfaknaaDoor
open Go.RowKit

set_option maxHeartbeats 1000000 in
theorem new_bad (n : Int) (w : World) (h : n < 1 ∨ 1048576 < n) : Calls Tryd.prog 22 #[.int .i64 n] w fun e w' => e = .returned (.tuple #[.pointer none, .iface 66 (.int .i64 1)]) ∧ w = w' := by
  rcases h with h | h
  · have t : decide (n < 1) = true := decide_eq_true h
    go_enter Tryd.func22, Tryd.ntmps22
    go_wp2_with fail
    go_ret2
    exact ⟨rfl, rfl⟩
  · have t : decide (n < 1) = false := decide_eq_false (by omega)
    have t2 : decide (1048576 < n) = true := decide_eq_true h
    go_enter Tryd.func22, Tryd.ntmps22
    go_wp2_with fail
    go_ret2
    exact ⟨rfl, rfl⟩

set_option maxRecDepth 100000 in

set_option maxHeartbeats 1000000 in
theorem load3_size (n : Int) (ad : Option Addr) (len cap : Nat) (w : World) (h : n < 1 ∨ 1048576 < n) :
    Calls Tryd.prog 4 #[.int .i64 n, .slice ad len cap] w fun e w' => e = .returned (.tuple #[.pointer none, .iface 66 (.int .i64 1)]) ∧ Below w.heap.size w w' := by
  have hnb := new_bad n w h
  clear h
  go_enter Tryd.func4, Tryd.ntmps4
  go_wp2_with fail
  refine hnb.mono ?_
  rintro e w' ⟨rfl, rfl⟩
  clear hnb
  go_wp2_with fail
  go_ret2
  exact ⟨rfl, Below.refl _ _⟩

set_option maxHeartbeats 1000000 in
theorem load3_bad (n : Nat) (ad : Option Addr) (ps : List (Int × Int)) (cap : Nat) (w : World) (h : Prow w ad ps) (h1 : 1 ≤ n) (hn : n ≤ 1048576) (hf : ¬ Fair n ps) :
    Calls Tryd.prog 4 #[.int .i64 (n : Int), .slice ad ps.length cap] w fun e w' => e = .returned (.tuple #[.pointer none, .iface 66 (.int .i64 1)]) ∧ Below w.heap.size w w' := by
  have hmay : Hid (mayB n ps = false) := by
    cases hm : mayB n ps with
    | false => exact hid rfl
    | true => exact absurd ((mayB_fair n ps h.num).1 hm) hf
  clear hf
  go_enter Tryd.func4, Tryd.ntmps4
  go_wp2_with fail
  refine (new_ok n _ h1 hn).mono ?_
  rintro e w1 ⟨sb, rfl, s1, b1⟩
  have hmb := mayBe_ok n ad ps cap _ (h.below b1)
  rw [hmay.out] at hmb
  clear s1 h
  go_wp2_with fail
  refine hmb.mono ?_
  rintro e w2 ⟨rfl, b2⟩
  have hb := b1.trans (b2.mono b1.size)
  clear hmb b1 b2
  go_wp2_with fail
  go_ret2
  exact ⟨rfl, hb⟩

set_option maxHeartbeats 1000000 in
theorem new3_bad (n : Int) (w : World) (h : n < 1 ∨ 1048576 < n) :
    Calls Tryd.prog 33 #[.int .i64 n] w fun e w' => e = .returned (.tuple #[.pointer none, .iface 66 (.int .i64 1)]) ∧ Below w.heap.size w w' := by
  have hl := load3_size n none 0 0 w h
  clear h
  go_enter Tryd.func33, Tryd.ntmps33
  go_wp2_with fail
  refine hl.mono ?_
  rintro e w1 ⟨rfl, h3⟩
  clear hl
  go_wp2_with fail
  go_ret2
  exact ⟨rfl, h3⟩

/-- From world to world, all that is made is new. -/
structure SE (w wr : World) : Prop where
  env : Env wr
  below : Below w.heap.size w wr

theorem SE.more {w wr w' : World} (h : SE w wr) (hb : Below wr.heap.size wr w') : SE w w' := ⟨h.env.below hb, h.below.trans (hb.mono h.below.size)⟩

end Go.Proofs.YtjkiagjgnfaknaaDoor
