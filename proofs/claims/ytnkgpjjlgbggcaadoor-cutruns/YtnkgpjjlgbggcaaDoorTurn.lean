/- 'turn' and 'where', walked. -/
import Derived.Test.YtnkgpjjlgbggcaaDoorTally
namespace Go.Proofs.YtnkgpjjlgbggcaaDoor
open Go.RowKit

/-- What 'turn' makes of the table. -/
def turnT (T : Tb) (x : Nat) : Tb := if x = 0 then T else upd T x { T x with t := !(T x).t }

set_option maxRecDepth 100000 in
set_option maxHeartbeats 4000000 in
theorem turn_ok (fb nb n N x : Nat) (T : Tb) (w : World) (h : Fo w fb nb n N T) (hx : x < N) :
    Calls Tryd.prog 51 #[.pointer (some ⟨fb, 0, none⟩), .int .i32 (x : Int)] w fun e w' => e = .returned (.tuple #[]) ∧ Fo w' fb nb n N (turnT T x) ∧ Turned (fun k => k = nb) w w' := by
  have hbig := h.big
  by_cases h0 : x = 0
  · subst h0
    go_enter Tryd.func51, Tryd.ntmps51
    go_wp2_with fail
    go_end0
    exact ⟨rfl, h, Turned.refl _ _⟩
  · have c1 := h.c1
    have ct := h.t hx
    have ft := h.fro (x * 9 + 8)
    have q1 : (0 : Int) ≤ (x : Int) := by omega
    have q2 : (x : Int) < (N : Int) := by omega
    have q3 : ((x : Int) != 0) = true := by simp; omega
    have hh := hid h
    have h0h := hid h0
    have hne := hid h.ne
    obtain ⟨b, hb⟩ : ∃ b, (T x).t = b := ⟨_, rfl⟩
    rw [hb] at ct
    have hbh := hid hb
    clear h hb h0
    have hk : Hid (∀ u, (w.setCell ⟨nb, x * 9 + 8, none⟩ u).drew.cell? ⟨fb, 1, none⟩ = some (.slice (some ⟨nb, 0, none⟩) N N)) := fun u => by
      rw [kdrew, World.cell?_setCell_far _ _ _ _ (fun e => hne.out e.symm)]; exact hh.out.c1
    go_enter Tryd.func51, Tryd.ntmps51
    go_wp2_with fail
    go_region
    all_goals
      go_wp2_with fail
      go_end0
      refine ⟨rfl, ?_, ?_⟩
      · unfold turnT
        rw [if_neg h0h.out]
        exact (hh.out.set 8 { T x with t := !(T x).t } hx (by decide) (by rw [hbh.out]; rfl)).drew
      · exact ((Turned.refl (fun k => k = nb) w).setCell (p := ⟨nb, x * 9 + 8, none⟩) rfl _).drew

/-- A side as a number. -/
def sI (s : Bool) : Int := if s then 1 else 0

end Go.Proofs.YtnkgpjjlgbggcaaDoor
