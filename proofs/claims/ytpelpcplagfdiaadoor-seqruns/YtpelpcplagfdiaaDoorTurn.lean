/- 'turn' and 'where', walked. -/
import Derived.Test.YtpelpcplagfdiaaDoorTally
namespace Go.Proofs.YtpelpcplagfdiaaDoor
open Go.RowKit

/-- What 'turn' makes of the table. -/
def turnT (T : Tb) (x : Nat) : Tb := if x = 0 then T else upd T x { T x with t := !(T x).t }

set_option maxRecDepth 100000 in
set_option maxHeartbeats 4000000 in
theorem turn_ok (fb nb n N x : Nat) (T : Tb) (w : World) (h : Fo w fb nb n N T) (hx : x < N) :
    Calls Tryd.prog 27 #[.pointer (some ⟨fb, 0, none⟩), .int .i32 (x : Int)] w fun e w' => e = .returned (.tuple #[]) ∧ Fo w' fb nb n N (turnT T x) ∧ Turned (fun k => k = nb) w w' := by
  have hbig := h.big
  by_cases h0 : x = 0
  · subst h0
    go_enter Tryd.func27, Tryd.ntmps27
    go_wp2_with fail
    go_end0
    exact ⟨rfl, h, Turned.refl _ _⟩
  · have c1 := h.c1
    have ct := h.t hx
    have ft := h.fro (x * 9 + 8)
    have q1 : (0 : Int) ≤ (x : Int) := by omega
    have q2 : (x : Int) < (N : Int) := by omega
    have q3 : ((x : Int) != 0) = true := by simp; omega
    have hh := hid h
    have h0h := hid h0
    have hne := hid h.ne
    obtain ⟨b, hb⟩ : ∃ b, (T x).t = b := ⟨_, rfl⟩
    rw [hb] at ct
    have hbh := hid hb
    clear h hb h0
    have hk : Hid (∀ u, (w.setCell ⟨nb, x * 9 + 8, none⟩ u).drew.cell? ⟨fb, 1, none⟩ = some (.slice (some ⟨nb, 0, none⟩) N N)) := fun u => by
      rw [kdrew, World.cell?_setCell_far _ _ _ _ (fun e => hne.out e.symm)]; exact hh.out.c1
    go_enter Tryd.func27, Tryd.ntmps27
    go_wp2_with fail
    go_region
    all_goals
      go_wp2_with fail
      go_end0
      refine ⟨rfl, ?_, ?_⟩
      · unfold turnT
        rw [if_neg h0h.out]
        exact (hh.out.set 8 { T x with t := !(T x).t } hx (by decide) (by rw [hbh.out]; rfl)).drew
      · exact ((Turned.refl (fun k => k = nb) w).setCell (p := ⟨nb, x * 9 + 8, none⟩) rfl _).drew

/-- A side as a number. -/
def sI (s : Bool) : Int := if s then 1 else 0

set_option maxRecDepth 100000 in
set_option maxHeartbeats 4000000 in
theorem where_ok (fb nb n N x : Nat) (T : Tb) (w : World) (h : Fo w fb nb n N T) (hx : x < N) (hu : (T x).up < N) :
    Calls Tryd.prog 57 #[.pointer (some ⟨fb, 0, none⟩), .int .i32 (x : Int)] w fun e w' => e = .returned (.int .i64 (sI (whr T x))) ∧ w' = w.drew := by
  have hbig := h.big
  have c1 := h.c1
  have cu := h.up hx
  have cr := h.r hu
  obtain ⟨U, hU⟩ : ∃ U, (T x).up = U := ⟨_, rfl⟩
  have hw : Hid (whr T x = decide ((T U).r = x)) := hid (by unfold whr; rw [hU])
  rw [hU] at cu cr hu
  obtain ⟨R, hR⟩ : ∃ R, (T U).r = R := ⟨_, rfl⟩
  rw [hR] at cr
  rw [hR] at hw
  have q1 : (0 : Int) ≤ (x : Int) := by omega
  have q2 : (x : Int) < (N : Int) := by omega
  have q3 : (0 : Int) ≤ (U : Int) := by omega
  have q4 : (U : Int) < (N : Int) := by omega
  clear hU hR h
  by_cases e : R = x
  · subst e
    go_enter Tryd.func57, Tryd.ntmps57
    go_wp2_with fail
    go_region
    all_goals
      go_wp2_with fail
      go_ret
      exact ⟨by rw [hw.out]; simp [sI], rfl⟩
  · have t1 : ((R : Int) == (x : Int)) = false := by simp; omega
    have eh := hid e
    clear e
    go_enter Tryd.func57, Tryd.ntmps57
    go_wp2_with fail
    go_region
    all_goals
      go_wp2_with fail
      go_ret
      exact ⟨by rw [hw.out, decide_eq_false eh.out]; rfl, rfl⟩

end Go.Proofs.YtpelpcplagfdiaaDoor
