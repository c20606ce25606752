/- At and List of an item that is none. -/
import Derived.Test.YtiiklklokkcnpaaDoorErr4
namespace Go.Proofs.YtiiklklokkcnpaaDoor
open Go.RowKit
set_option linter.unusedVariables false

section
variable {lo fb n : Nat} {w w0 : World} {v : Nat → Int} {seq : Nat → List Nat}

set_option maxRecDepth 100000 in
set_option maxHeartbeats 400000 in
theorem FS.at_bad (h : FS lo w fb n v seq w0) (x k : Int) (hx : ¬ (0 ≤ x ∧ x < (n : Int))) : Calls Tryd.prog 42 #[.pointer (some ⟨fb, 0, none⟩), .int .i64 x, .int .i64 k] w0 fun e w' => e = .returned (.tuple #[.int .i64 0, .iface 62 (.int .i64 12)]) ∧ FS lo w fb n v seq w' ∧ Keep w0 w' := by
  have hb := hid ((h.alloc (.cells #[.pointer (some ⟨fb, 0, none⟩)] 57)).size_bad x hx)
  have kin := hid ((Keep.refl w0).alloc (.cells #[.pointer (some ⟨fb, 0, none⟩)] 57))
  clear h hx
  go_enter Tryd.func42, Tryd.ntmps42
  go_wp2_with fail
  refine hb.out.mono ?_
  rintro e w1 ⟨rfl, h1, k1⟩
  have fin := hid (And.intro h1 (kin.out.trans k1))
  clear h1 k1
  go_wp2_with fail
  go_ret2
  exact ⟨rfl, fin.out⟩

set_option maxRecDepth 100000 in
set_option maxHeartbeats 400000 in
theorem FS.list_bad (h : FS lo w fb n v seq w0) (x : Int) (hx : ¬ (0 ≤ x ∧ x < (n : Int))) : Calls Tryd.prog 38 #[.pointer (some ⟨fb, 0, none⟩), .int .i64 x] w0 fun e w' => e = .returned (.tuple #[.slice none 0 0, .iface 62 (.int .i64 12)]) ∧ FS lo w fb n v seq w' ∧ Keep w0 w' := by
  have hb := hid (h.size_bad x hx)
  clear h hx
  go_enter Tryd.func38, Tryd.ntmps38
  go_wp2_with fail
  refine hb.out.mono ?_
  rintro e w1 ⟨rfl, h1, k1⟩
  have fin := hid (And.intro h1 k1)
  clear h1 k1
  go_wp2_with fail
  go_ret2
  exact ⟨rfl, fin.out⟩
end

end Go.Proofs.YtiiklklokkcnpaaDoor
