/- The reference's Most and Find, walked. -/
import Derived.Test.YtnkgpjjlgbggcaaDoorRsum4
namespace Go.Proofs.YtnkgpjjlgbggcaaDoor
open Go.RowKit
set_option linter.unusedVariables false

set_option maxRecDepth 100000 in
set_option maxHeartbeats 2000000 in
theorem rmost_ok (g o cap h m : Nat) (l : List Nat) (v : Nat → Int) (w : World) (hl : Ir w g o l) (hv : Vr w h m v) (hm : m ≤ 1000000) (hin : ∀ z, z ∈ l → z ≠ 0 ∧ z ≤ m) (hlen : l.length ≤ 1000000) (hne : l ≠ []) :
    Calls Tryd.prog 33 #[.slice (some ⟨g, o, none⟩) l.length cap, .slice (some ⟨h, 0, none⟩) m m] w fun e w' => ∃ d : Nat, e = .returned (.int .i64 (d : Int)) ∧ Fst (fun z => -(v z)) l (d + 1) ∧ Below w.heap.size w w' := by
  have hl := hid hl
  have hv := hid hv
  have hin := hid hin
  have hlp : 0 < l.length := by
    cases l with
    | nil => exact absurd rfl hne
    | cons _ _ => simp
  obtain ⟨z0, hz0⟩ : ∃ z0, l[0]? = some z0 := ⟨_, List.getElem?_eq_getElem hlp⟩
  have hz0n := (hin.out z0 (List.mem_of_getElem? hz0)).1
  obtain ⟨d0, rfl⟩ : ∃ d, z0 = d + 1 := ⟨z0 - 1, by omega⟩
  have c0 := hl.out 0 d0 hz0
  rw [Nat.add_zero] at c0
  have i0 : (0 : Int) < (l.length : Int) := by omega
  have st : Hid (Fst (fun z => -(v z)) (l.take 1) (d0 + 1)) := hid (by
    rw [List.take_add_one, hz0]
    exact ⟨[], [], by simp, by simp, by simp⟩)
  have hz0 := hid hz0
  clear hz0n
  go_enter Tryd.func33, Tryd.ntmps33
  go_wp2_with fail
  go_loopw [5, 6] (fun s u wr => ∃ (i d : Nat), i ≤ l.length ∧ s = .int .i64 (d : Int) ∧ u = .int .i64 (i : Int) ∧ Hid (Fst (fun z => -(v z)) (l.take (max i 1)) (d + 1)) ∧ Hid (Below w.heap.size w wr)) (fun _ u _ => l.length - (intOf u).toNat)
  case atStart => exact ⟨0, d0, by omega, rfl, by go_num, st, hid (Below.refl _ _)⟩
  case round =>
    clear c0
    obtain ⟨i, d, hi, rfl, rfl, hf, hb⟩ := hrel
    rcases Nat.lt_or_ge i l.length with hil | hig
    · obtain ⟨z, hz⟩ : ∃ z, l[i]? = some z := ⟨_, List.getElem?_eq_getElem hil⟩
      obtain ⟨hz0', hzm⟩ := hin.out z (List.mem_of_getElem? hz)
      obtain ⟨k, rfl⟩ : ∃ k, z = k + 1 := ⟨z - 1, by omega⟩
      have hdm := (hin.out (d + 1) (List.mem_of_mem_take hf.out.mem)).2
      have cell_of : ∀ p x, w.cell? p = some x → wr.cell? p = some x := fun p x hp => (hb.out.cell (World.block_lt_of_cell? w p hp)).trans hp
      have c1 := cell_of _ _ (hl.out i k hz)
      have c2 := cell_of _ _ (hv.out k (by omega))
      have c3 := cell_of _ _ (hv.out d (by omega))
      have i1 : (0 : Int) ≤ (i : Int) := by omega
      have i2 : (i : Int) < (l.length : Int) := by omega
      have i3 : (0 : Int) ≤ (k : Int) := by omega
      have i4 : (k : Int) < (m : Int) := by omega
      have i5 : (0 : Int) ≤ (d : Int) := by omega
      have i6 : (d : Int) < (m : Int) := by omega
      obtain ⟨V, hV⟩ : ∃ V, v (k + 1) = V := ⟨_, rfl⟩
      obtain ⟨U, hU⟩ : ∃ U, v (d + 1) = U := ⟨_, rfl⟩
      have hVh := hid hV
      have hUh := hid hU
      rw [hV] at c2
      rw [hU] at c3
      have hz := hid hz
      have hbd := hid hb.out.drew
      clear hz0' hzm hV hU cell_of
      by_cases hlt : U < V
      · have t1 : decide (U < V) = true := decide_eq_true hlt
        have hi0 : i ≠ 0 := fun e => by
          subst e
          have e1 : k + 1 = d + 1 := by
            have := hf.out.mem
            rw [show max 0 1 = 1 from rfl, List.take_add_one, hz.out] at this
            simp at this
            omega
          rw [← hVh.out, ← hUh.out, e1] at hlt
          omega
        have nx : Hid (Fst (fun z => -(v z)) (l.take (max (i + 1) 1)) (k + 1)) := hid (by
          rw [show max (i + 1) 1 = i + 1 from by omega, List.take_add_one, hz.out]
          have := hf.out
          rw [show max i 1 = i from by omega] at this
          exact this.turn (by show -(v (k + 1)) < -(v (d + 1)); rw [hVh.out, hUh.out]; omega))
        have c1d : wr.drew.cell? ⟨g, o + i, none⟩ = some (.int .i64 (k : Int)) := c1
        go_wp2_with fail
        go_region
        all_goals
          go_wp2_with fail
          go_roundw
          case rel => exact ⟨i + 1, k, by omega, rfl, by go_num, nx, hbd⟩
          case measure => simp [intOf]; omega
      · have t1 : decide (U < V) = false := decide_eq_false hlt
        have nx : Hid (Fst (fun z => -(v z)) (l.take (max (i + 1) 1)) (d + 1)) := hid (by
          by_cases hi0 : i = 0
          · subst hi0; exact hf.out
          · rw [show max (i + 1) 1 = i + 1 from by omega, List.take_add_one, hz.out]
            have := hf.out
            rw [show max i 1 = i from by omega] at this
            exact this.stay (by show ¬ -(v (k + 1)) < -(v (d + 1)); rw [hVh.out, hUh.out]; omega))
        go_wp2_with fail
        go_region
        all_goals
          go_wp2_with fail
          go_roundw
          case rel => exact ⟨i + 1, d, by omega, rfl, by go_num, nx, hbd⟩
          case measure => simp [intOf]; omega
    · have e : l.take (max i 1) = l := List.take_of_length_le (by omega)
      go_wp2_with fail
      go_ret
      exact ⟨d, rfl, by have := hf.out; rw [e] at this; exact this, hb.out⟩

/-- Rows of rows. -/
def Rr (w : World) (b : Nat) (ls : List (List Nat)) : Prop := ∀ (i : Nat) (l : List Nat), ls[i]? = some l → ∃ g o cap, w.cell? ⟨b, i, none⟩ = some (.slice (some ⟨g, o, none⟩) l.length cap) ∧ Ir w g o l



end Go.Proofs.YtnkgpjjlgbggcaaDoor
