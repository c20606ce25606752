/- 'Places' of an Arena. -/
import Derived.Test.YtjkiagjgnfaknaaDoorDrop3
namespace Go.Proofs.YtjkiagjgnfaknaaDoor
open Go.RowKit

theorem places3_nil (w : World) : Calls Tryd.prog 16 #[.pointer none] w fun e w' => e = .returned (.slice none 0 0) ∧ w = w' := by
  go_enter Tryd.func16, Tryd.ntmps16
  go_wp2_with fail
  go_ret
  exact ⟨rfl, rfl⟩

set_option maxHeartbeats 1000000 in
theorem places3_ok (lo hi ab n : Nat) (ob : Option Nat) (ps : List (Int × Int)) (w : World) (h : Arena w lo hi ab ob n ps) :
    Calls Tryd.prog 16 #[.pointer (some ⟨ab, 0, none⟩)] w fun e w' => ∃ ad cap, e = .returned (.slice ad ps.length cap) ∧ Prow w' ad ps ∧ (ad = none → cap = 0) ∧ (∀ a, ad = some a → w.heap.size ≤ a.block) ∧ Below w.heap.size w w' := by
  obtain ⟨ad, cap, hc, hp, _, h0⟩ := h.slice
  have hl := h.2.le
  have hn := h.pos.2.1
  have hnum := hid h.2.num
  clear h
  have hcl := clone_ok ad ps cap w hp (by omega) h0
  clear hp
  go_enter Tryd.func16, Tryd.ntmps16
  go_wp2_with fail
  refine hcl.mono ?_
  rintro e w2 ⟨v, rfl, hown, b2⟩
  have hr := hid hown.2
  have hlt := hid (fun k hk => (hown.lt k hk).1)
  obtain ⟨ad2, cap2, rfl, hob, hp2⟩ := Prow.ofRow hown hnum.out
  have hp2h := hid hp2
  have hobh := hid hob
  clear hown hp2 hcl hob
  go_wp2_with fail
  go_ret
  refine ⟨ad2, cap2, rfl, hp2h.out, fun e => ?_, fun a e => hlt.out _ (by rw [hobh.out, e]; rfl), b2⟩
  subst e
  rcases hr.out with ⟨e, _⟩ | ⟨g, c, cur, e, _⟩
  · injection e
  · injection e with e1; cases e1

end Go.Proofs.YtjkiagjgnfaknaaDoor
