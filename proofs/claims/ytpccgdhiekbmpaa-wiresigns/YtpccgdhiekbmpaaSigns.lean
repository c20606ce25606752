/- What 'wire.Signed' answers, and the law 'WireSigns'. -/
import Derived.Test.YtpccgdhiekbmpaaTake
import Derived.Test.YtpccgdhiekbmpaaFrame
namespace Go.Proofs.Ytpccgdhiekbmpaa
open Go.RowKit
attribute [local simp] be_length

set_option maxHeartbeats 400000 in
theorem signed_any (x : Int) (w : World) :
    Calls Try.prog 10 #[.int .u64 x] w fun e w' => e = .returned (.int .i32 (wrap32 (IntKind.u32.wrap x))) ∧ w = w' := by
  go_enter Try.func10, Try.ntmps10
  go_wp2
  go_ret
  exact ⟨rfl, rfl⟩

set_option maxHeartbeats 400000 in
theorem signs_walk (v : Int) (V X : Nat) (w : World) (hv : IntKind.u32.wrap v = (V : Int)) (hw : IntKind.u64.wrap (V : Int) = (V : Int)) (HX : Hid (V % 256 ^ 4 = X)) (hs : (wrap32 (IntKind.u32.wrap (X : Int)) == v) = true) :
    Calls Try.prog 4 #[.int .i32 v] w fun e w' => e = .returned (.bool true) ∧ Below w.heap.size w w' := by
  go_enter Try.func4, Try.ntmps4
  go_wp2_with fail
  refine (put_nil _ _ V 4 _ rfl (by omega) (by omega) (by omega)).mono ?_
  rintro e w1 ⟨g1, rfl, hp1, hb1⟩
  go_wp2_with fail
  refine (take_be _ _ _ _ 4 V _ rfl (by omega) hp1 (by omega) (by omega)).mono ?_
  rintro e w2 ⟨g2, rfl, hb2⟩
  rw [HX.out]
  have hbb := hb1.trans (hb2.mono hb1.size)
  clear hp1 hb1 hb2
  go_wp2_with fail
  refine (signed_any _ _).mono ?_
  rintro e w3 ⟨rfl, rfl⟩
  go_wp2_with fail
  refine (sure_any _).mono ?_
  rintro e w3 ⟨rfl, hb3⟩
  go_wp2_with fail
  go_ret
  exact ⟨rfl, hbb.trans (hb3.mono hbb.size)⟩

theorem signs_any (v : Int) (w0 : (Lit.int .i32 v).wf = true) (w : World) :
    Calls Try.prog 4 #[.int .i32 v] w fun e w' => e = .returned (.bool true) ∧ Below w.heap.size w w' := by
  obtain ⟨V, h1, h2, h3, h4⟩ := signs_of w0
  rw [h3] at h4
  exact signs_walk v V V w h1 h2 h3 h4

end Go.Proofs.Ytpccgdhiekbmpaa
