/- The errors of the calls that ask a closure. -/
import Derived.Test.YtcbkebllbchpiaaDoorApi1
namespace Go.Proofs.YtcbkebllbchpiaaDoor
open Go.RowKit
set_option linter.unusedVariables false

set_option maxRecDepth 100000 in
set_option maxHeartbeats 400000 in
theorem list_nil (x : Int) (w0 : World) : Calls Tryd.prog 23 #[.pointer none, .int .i64 x] w0 fun e w' => e = .returned (.tuple #[.slice none 0 0, .iface 64 (.int .i64 1)]) ∧ Below w0.heap.size w0 w' := by
  go_enter Tryd.func23, Tryd.ntmps23
  go_wp2_with fail
  refine (size_nil x _).mono ?_
  rintro e w1 ⟨rfl, b1⟩
  go_wp2_with fail
  go_ret2
  exact ⟨rfl, b1⟩

set_option maxRecDepth 100000 in
set_option maxHeartbeats 400000 in
theorem at_nil (x k : Int) (w0 : World) : Calls Tryd.prog 24 #[.pointer none, .int .i64 x, .int .i64 k] w0 fun e w' => e = .returned (.tuple #[.int .i64 0, .iface 64 (.int .i64 1)]) ∧ Below w0.heap.size w0 w' := by
  go_enter Tryd.func24, Tryd.ntmps24
  go_wp2_with fail
  refine (size_nil x _).mono ?_
  rintro e w1 ⟨rfl, b1⟩
  go_wp2_with fail
  go_ret2
  exact ⟨rfl, ((Below.refl _ _).alloc (Nat.le_refl _) _).trans (b1.mono (by simp))⟩

section
variable {lo fb n : Nat} {w w0 : World} {v : Nat → Int} {seq : Nat → List Nat}

set_option maxRecDepth 100000 in
set_option maxHeartbeats 400000 in
theorem FS.first_bad (h : FS lo w fb n v seq w0) (x : Int) (B : Nat) (hx : ¬ (0 ≤ x ∧ x < (n : Int))) : Calls Tryd.prog 52 #[.pointer (some ⟨fb, 0, none⟩), .int .i64 x, .func (.func B) #[] #[]] w0 fun e w' => e = .returned (.tuple #[.int .i64 0, .iface 64 (.int .i64 12)]) ∧ FS lo w fb n v seq w' ∧ Keep w0 w' := by
  have hb := hid (((h.alloc (.cells #[.pointer (some ⟨fb, 0, none⟩)] 24)).alloc (.cells #[.func (.func B) #[] #[]] 90)).bad1 x hx)
  have fin := hid ((((h.alloc (.cells #[.pointer (some ⟨fb, 0, none⟩)] 24)).alloc (.cells #[.func (.func B) #[] #[]] 90)).alloc (.cells #[.int .i64 x] 3)))
  have kin := hid (((Keep.refl w0).alloc (.cells #[.pointer (some ⟨fb, 0, none⟩)] 24)).alloc (.cells #[.func (.func B) #[] #[]] 90) |>.alloc (.cells #[.int .i64 x] 3))
  clear h hx
  rw [show ((w0.alloc (.cells #[.pointer (some ⟨fb, 0, none⟩)] 24)).alloc (.cells #[.func (.func B) #[] #[]] 90)).heap.size = w0.heap.size + 1 + 1 from by simp] at hb
  go_enter Tryd.func52, Tryd.ntmps52
  go_wp2_with fail
  refine hb.out.mono ?_
  rintro e w1 ⟨rfl, rfl⟩
  go_wp2_with fail
  go_ret2
  exact ⟨rfl, fin.out, kin.out⟩

set_option maxRecDepth 100000 in
set_option maxHeartbeats 400000 in
theorem FS.least_bad (h : FS lo w fb n v seq w0) (x : Int) (hx : ¬ (0 ≤ x ∧ x < (n : Int))) : Calls Tryd.prog 28 #[.pointer (some ⟨fb, 0, none⟩), .int .i64 x] w0 fun e w' => e = .returned (.tuple #[.int .i64 0, .iface 64 (.int .i64 12)]) ∧ FS lo w fb n v seq w' ∧ Keep w0 w' := by
  have hb := hid (h.first_bad x 53 hx)
  clear h hx
  go_enter Tryd.func28, Tryd.ntmps28
  go_wp2_with fail
  refine hb.out.mono ?_
  rintro e w1 ⟨rfl, h1, k1⟩
  have fin := hid (And.intro h1 k1)
  clear h1 k1
  go_wp2_with fail
  go_ret2
  exact ⟨rfl, fin.out⟩

set_option maxRecDepth 100000 in
set_option maxHeartbeats 400000 in
theorem FS.most_bad (h : FS lo w fb n v seq w0) (x : Int) (hx : ¬ (0 ≤ x ∧ x < (n : Int))) : Calls Tryd.prog 29 #[.pointer (some ⟨fb, 0, none⟩), .int .i64 x] w0 fun e w' => e = .returned (.tuple #[.int .i64 0, .iface 64 (.int .i64 12)]) ∧ FS lo w fb n v seq w' ∧ Keep w0 w' := by
  have hb := hid (h.first_bad x 54 hx)
  clear h hx
  go_enter Tryd.func29, Tryd.ntmps29
  go_wp2_with fail
  refine hb.out.mono ?_
  rintro e w1 ⟨rfl, h1, k1⟩
  have fin := hid (And.intro h1 k1)
  clear h1 k1
  go_wp2_with fail
  go_ret2
  exact ⟨rfl, fin.out⟩
end

end Go.Proofs.YtcbkebllbchpiaaDoor
