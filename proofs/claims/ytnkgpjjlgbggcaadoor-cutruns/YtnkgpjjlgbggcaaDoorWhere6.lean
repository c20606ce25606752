/- 'where', walked. -/
import Derived.Test.YtnkgpjjlgbggcaaDoorExpo6
namespace Go.Proofs.YtnkgpjjlgbggcaaDoor
open Go.RowKit
set_option linter.unusedVariables false

/-- On which side of the one above a spot is, as a number. -/
def wI (T : Tb) (x : Nat) : Int := if (T (T x).up).l = x then 0 else if (T (T x).up).r = x then 1 else 2

set_option maxRecDepth 100000 in
set_option maxHeartbeats 4000000 in
theorem where_ok (fb nb n N x : Nat) (T : Tb) (w : World) (h : Fo w fb nb n N T) (hx : x < N) (hu : (T x).up < N) :
    Calls Tryd.prog 43 #[.pointer (some ⟨fb, 0, none⟩), .int .i32 (x : Int)] w fun e w' => e = .returned (.int .i64 (wI T x)) ∧ w' = w.drew := by
  have hbig := h.big
  have c1 := h.c1
  have cu := h.up hx
  have cl := h.l hu
  have cr : w.cell? ⟨nb, (T x).up * 9 + 6 + 1, none⟩ = some (.int .i32 ((T (T x).up).r : Int)) := h.r hu
  obtain ⟨U, hU⟩ : ∃ U, (T x).up = U := ⟨_, rfl⟩
  have hw : Hid (wI T x = if (T U).l = x then 0 else if (T U).r = x then 1 else 2) := hid (by unfold wI; rw [hU])
  rw [hU] at cu cr cl hu
  obtain ⟨R, hR⟩ : ∃ R, (T U).r = R := ⟨_, rfl⟩
  obtain ⟨L, hL⟩ : ∃ L, (T U).l = L := ⟨_, rfl⟩
  rw [hR] at cr
  rw [hL] at cl
  rw [hR, hL] at hw
  have q1 : (0 : Int) ≤ (x : Int) := by omega
  have q2 : (x : Int) < (N : Int) := by omega
  have q3 : (0 : Int) ≤ (U : Int) := by omega
  have q4 : (U : Int) < (N : Int) := by omega
  have k1 : w.drew.cell? ⟨nb, U * 9 + 6, none⟩ = some (.int .i32 (L : Int)) := cl
  have k2 : w.drew.cell? ⟨nb, U * 9 + 6 + 1, none⟩ = some (.int .i32 (R : Int)) := cr
  clear hU hR hL h
  by_cases e : x = L
  · subst e
    go_enter Tryd.func43, Tryd.ntmps43
    go_wp2_with fail
    go_region
    all_goals
      go_wp2_with fail
      go_ret
      exact ⟨by rw [hw.out]; simp, rfl⟩
  · have t1 : ((x : Int) == (L : Int)) = false := by simp; omega
    have eh := hid (Ne.symm e)
    clear e
    by_cases e : x = R
    · subst e
      go_enter Tryd.func43, Tryd.ntmps43
      go_wp2_with fail
      go_region
      all_goals
        go_wp2_with fail
        go_ret
        exact ⟨by rw [hw.out, if_neg eh.out]; simp, rfl⟩
    · have t2 : ((x : Int) == (R : Int)) = false := by simp; omega
      have eh2 := hid (Ne.symm e)
      clear e
      go_enter Tryd.func43, Tryd.ntmps43
      go_wp2_with fail
      go_region
      all_goals
        go_wp2_with fail
        go_ret
        exact ⟨by rw [hw.out, if_neg eh.out, if_neg eh2.out]; rfl, rfl⟩

section
variable {T : Tb} {v : Nat → Int} {sub seq : Nat → List Nat} {N : Nat} {pp par : Nat → Nat}

theorem Lc.where_top (h : Lc N T v sub seq pp par) {x : Nat} (hx : x ≠ 0) (hu : (T x).up = 0) : wI (real T pp) x = 2 := by
  unfold wI
  rw [real_up0 hu]
  have hk : ∀ s, (T (pp x)).k s ≠ x := fun s e => by
    by_cases h0 : pp x = 0
    · rw [h0, h.gd.inv.none] at e
      cases s <;> exact hx e.symm
    · have := h.gd.inv.upk (pp x) h0 s (by rw [e]; exact hx)
      rw [e, hu] at this
      exact h0 this.symm
  rw [if_neg (show ¬ (real T pp (pp x)).l = x from hk false), if_neg (show ¬ (real T pp (pp x)).r = x from hk true)]

theorem Lc.where_in (h : Lc N T v sub seq pp par) {x : Nat} (hx : x ≠ 0) (hu : (T x).up ≠ 0) : wI (real T pp) x = sI (whr T x) := by
  unfold wI
  rw [real_up1 hu]
  have ho := h.gd.inv.onSide hx hu
  have hkd := h.gd.inv.kids hu (whr T x) (by rw [ho]; exact hx)
  rw [ho] at hkd
  cases hw : whr T x with
  | false =>
    rw [hw] at ho
    rw [if_pos (show (real T pp (T x).up).l = x from ho)]; rfl
  | true =>
    rw [hw] at ho hkd
    rw [if_neg (show ¬ (real T pp (T x).up).l = x from hkd), if_pos (show (real T pp (T x).up).r = x from ho)]; rfl
end

end Go.Proofs.YtnkgpjjlgbggcaaDoor
