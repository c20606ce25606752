/- The reference's Sum, Least and Most, walked. -/
import Derived.Test.YtpelpcplagfdiaaDoorLaws4
namespace Go.Proofs.YtpelpcplagfdiaaDoor
open Go.RowKit
set_option linter.unusedVariables false

/-- A row of items that lies in a block from a place on; a row of values. -/
def Ir (w : World) (g o : Nat) (l : List Nat) : Prop := ∀ (j d : Nat), l[j]? = some (d + 1) → w.cell? ⟨g, o + j, none⟩ = some (.int .i64 (d : Int))
def Vr (w : World) (h m : Nat) (v : Nat → Int) : Prop := ∀ d : Nat, d < m → w.cell? ⟨h, d, none⟩ = some (.int .i64 (v (d + 1)))

theorem sum_next (v : Nat → Int) (l : List Nat) (i z : Nat) (h : l[i]? = some z) : sumV v (l.take (i + 1)) = sumV v (l.take i) + v z := by
  rw [List.take_add_one, h, sumV_append]; simp [sumV]
theorem wrap_next (a b : Int) : wrap64 (wrap64 a + b) = wrap64 (a + b) := by
  simp only [wrap64]; omega

set_option maxRecDepth 100000 in
set_option maxHeartbeats 1000000 in
theorem rsum_ok (g o cap h m : Nat) (l : List Nat) (v : Nat → Int) (w : World) (hl : Ir w g o l) (hv : Vr w h m v) (hm : m ≤ 1000000) (hin : ∀ z, z ∈ l → z ≠ 0 ∧ z ≤ m) (hlen : l.length ≤ 1000000) :
    Calls Tryd.prog 36 #[.slice (some ⟨g, o, none⟩) l.length cap, .slice (some ⟨h, 0, none⟩) m m] w fun e w' => e = .returned (.int .i64 (wrap64 (sumV v l))) ∧ w = w' := by
  have hl := hid hl
  have hv := hid hv
  have hin := hid hin
  go_enter Tryd.func36, Tryd.ntmps36
  go_wp2_with fail
  go_loopw [5, 6] (fun s u wr => ∃ (i : Nat) (A : Int), i ≤ l.length ∧ s = .int .i64 A ∧ u = .int .i64 (i : Int) ∧ Hid (A = wrap64 (sumV v (l.take i))) ∧ w = wr) (fun _ u _ => l.length - (intOf u).toNat)
  case atStart => exact ⟨0, 0, by omega, rfl, by go_num, hid (by simp only [List.take_zero, sumV, wrap64]; omega), rfl⟩
  case round =>
    obtain ⟨i, A, hi, rfl, rfl, hA, rfl⟩ := hrel
    rcases Nat.lt_or_ge i l.length with hil | hig
    · obtain ⟨z, hz⟩ : ∃ z, l[i]? = some z := ⟨_, List.getElem?_eq_getElem hil⟩
      obtain ⟨hz0, hzm⟩ := hin.out z (List.mem_of_getElem? hz)
      obtain ⟨d, rfl⟩ : ∃ d, z = d + 1 := ⟨z - 1, by omega⟩
      have c1 := hl.out i d hz
      have c2 := hv.out d (by omega)
      have i1 : (0 : Int) ≤ (i : Int) := by omega
      have i2 : (i : Int) < (l.length : Int) := by omega
      have i3 : (0 : Int) ≤ (d : Int) := by omega
      have i4 : (d : Int) < (m : Int) := by omega
      have hn := hid (sum_next v l i (d + 1) hz)
      obtain ⟨V, hV⟩ : ∃ V, v (d + 1) = V := ⟨_, rfl⟩
      rw [hV] at c2 hn
      clear hz hz0 hzm hV
      go_wp2_with fail
      go_roundw
      case rel => exact ⟨i + 1, wrap64 (A + V), by omega, rfl, by go_num, hid (by rw [hn.out, hA.out, wrap_next]), by trivial⟩
      case measure => simp [intOf]; omega
    · have e : l.take i = l := List.take_of_length_le hig
      go_wp2_with fail
      go_ret
      have hA := hA.out
      rw [e] at hA
      exact ⟨by rw [← hA]; rfl, rfl⟩

/-- The first of the least of a row. -/
def Fst (v : Nat → Int) (l : List Nat) (z : Nat) : Prop := ∃ A B, l = A ++ z :: B ∧ (∀ y, y ∈ A → v z < v y) ∧ ∀ y, y ∈ B → v z ≤ v y
theorem Fst.stay {v : Nat → Int} {l : List Nat} {z y : Nat} (h : Fst v l z) (hy : ¬ v y < v z) : Fst v (l ++ [y]) z := by
  obtain ⟨A, B, rfl, hA, hB⟩ := h
  refine ⟨A, B ++ [y], by simp, hA, fun x hx => ?_⟩
  rcases List.mem_append.1 hx with hx | hx
  · exact hB x hx
  · rw [List.mem_singleton.1 hx]; omega
theorem Fst.turn {v : Nat → Int} {l : List Nat} {z y : Nat} (h : Fst v l z) (hy : v y < v z) : Fst v (l ++ [y]) y := by
  obtain ⟨A, B, rfl, hA, hB⟩ := h
  refine ⟨A ++ z :: B, [], rfl, fun x hx => ?_, fun x hx => by cases hx⟩
  rcases List.mem_append.1 hx with hx | hx
  · have := hA x hx; omega
  · rcases List.mem_cons.1 hx with rfl | hx
    · exact hy
    · have := hB x hx; omega
theorem Fst.mem {v : Nat → Int} {l : List Nat} {z : Nat} (h : Fst v l z) : z ∈ l := by
  obtain ⟨A, B, rfl, _⟩ := h
  simp

set_option maxRecDepth 100000 in
set_option maxHeartbeats 2000000 in
theorem rleast_ok (g o cap h m : Nat) (l : List Nat) (v : Nat → Int) (w : World) (hl : Ir w g o l) (hv : Vr w h m v) (hm : m ≤ 1000000) (hin : ∀ z, z ∈ l → z ≠ 0 ∧ z ≤ m) (hlen : l.length ≤ 1000000) (hne : l ≠ []) :
    Calls Tryd.prog 37 #[.slice (some ⟨g, o, none⟩) l.length cap, .slice (some ⟨h, 0, none⟩) m m] w fun e w' => ∃ d : Nat, e = .returned (.int .i64 (d : Int)) ∧ Fst v l (d + 1) ∧ Below w.heap.size w w' := by
  have hl := hid hl
  have hv := hid hv
  have hin := hid hin
  have hlp : 0 < l.length := by
    cases l with
    | nil => exact absurd rfl hne
    | cons _ _ => simp
  obtain ⟨z0, hz0⟩ : ∃ z0, l[0]? = some z0 := ⟨_, List.getElem?_eq_getElem hlp⟩
  have hz0n := (hin.out z0 (List.mem_of_getElem? hz0)).1
  obtain ⟨d0, rfl⟩ : ∃ d, z0 = d + 1 := ⟨z0 - 1, by omega⟩
  have c0 := hl.out 0 d0 hz0
  rw [Nat.add_zero] at c0
  have i0 : (0 : Int) < (l.length : Int) := by omega
  have st : Hid (Fst v (l.take 1) (d0 + 1)) := hid (by
    rw [List.take_add_one, hz0]
    exact ⟨[], [], by simp, by simp, by simp⟩)
  have hz0 := hid hz0
  clear hz0n
  go_enter Tryd.func37, Tryd.ntmps37
  go_wp2_with fail
  go_loopw [5, 6] (fun s u wr => ∃ (i d : Nat), i ≤ l.length ∧ s = .int .i64 (d : Int) ∧ u = .int .i64 (i : Int) ∧ Hid (Fst v (l.take (max i 1)) (d + 1)) ∧ Hid (Below w.heap.size w wr)) (fun _ u _ => l.length - (intOf u).toNat)
  case atStart => exact ⟨0, d0, by omega, rfl, by go_num, st, hid (Below.refl _ _)⟩
  case round =>
    clear c0
    obtain ⟨i, d, hi, rfl, rfl, hf, hb⟩ := hrel
    rcases Nat.lt_or_ge i l.length with hil | hig
    · obtain ⟨z, hz⟩ : ∃ z, l[i]? = some z := ⟨_, List.getElem?_eq_getElem hil⟩
      obtain ⟨hz0', hzm⟩ := hin.out z (List.mem_of_getElem? hz)
      obtain ⟨k, rfl⟩ : ∃ k, z = k + 1 := ⟨z - 1, by omega⟩
      have hdm := (hin.out (d + 1) (List.mem_of_mem_take hf.out.mem)).2
      have cell_of : ∀ p x, w.cell? p = some x → wr.cell? p = some x := fun p x hp => (hb.out.cell (World.block_lt_of_cell? w p hp)).trans hp
      have c1 := cell_of _ _ (hl.out i k hz)
      have c2 := cell_of _ _ (hv.out k (by omega))
      have c3 := cell_of _ _ (hv.out d (by omega))
      have i1 : (0 : Int) ≤ (i : Int) := by omega
      have i2 : (i : Int) < (l.length : Int) := by omega
      have i3 : (0 : Int) ≤ (k : Int) := by omega
      have i4 : (k : Int) < (m : Int) := by omega
      have i5 : (0 : Int) ≤ (d : Int) := by omega
      have i6 : (d : Int) < (m : Int) := by omega
      obtain ⟨V, hV⟩ : ∃ V, v (k + 1) = V := ⟨_, rfl⟩
      obtain ⟨U, hU⟩ : ∃ U, v (d + 1) = U := ⟨_, rfl⟩
      have hVh := hid hV
      have hUh := hid hU
      rw [hV] at c2
      rw [hU] at c3
      have hz := hid hz
      have hbd := hid hb.out.drew
      clear hz0' hzm hV hU cell_of
      by_cases hlt : V < U
      · have t1 : decide (V < U) = true := decide_eq_true hlt
        have hi0 : i ≠ 0 := fun e => by
          subst e
          have e1 : k + 1 = d + 1 := by
            have := hf.out.mem
            rw [show max 0 1 = 1 from rfl, List.take_add_one, hz.out] at this
            simp at this
            omega
          rw [← hVh.out, ← hUh.out, e1] at hlt
          omega
        have nx : Hid (Fst v (l.take (max (i + 1) 1)) (k + 1)) := hid (by
          rw [show max (i + 1) 1 = i + 1 from by omega, List.take_add_one, hz.out]
          have := hf.out
          rw [show max i 1 = i from by omega] at this
          exact this.turn (by rw [hVh.out, hUh.out]; exact hlt))
        have c1d : wr.drew.cell? ⟨g, o + i, none⟩ = some (.int .i64 (k : Int)) := c1
        go_wp2_with fail
        go_region
        all_goals
          go_wp2_with fail
          go_roundw
          case rel => exact ⟨i + 1, k, by omega, rfl, by go_num, nx, hbd⟩
          case measure => simp [intOf]; omega
      · have t1 : decide (V < U) = false := decide_eq_false hlt
        have nx : Hid (Fst v (l.take (max (i + 1) 1)) (d + 1)) := hid (by
          by_cases hi0 : i = 0
          · subst hi0; exact hf.out
          · rw [show max (i + 1) 1 = i + 1 from by omega, List.take_add_one, hz.out]
            have := hf.out
            rw [show max i 1 = i from by omega] at this
            exact this.stay (by rw [hVh.out, hUh.out]; exact hlt))
        go_wp2_with fail
        go_region
        all_goals
          go_wp2_with fail
          go_roundw
          case rel => exact ⟨i + 1, d, by omega, rfl, by go_num, nx, hbd⟩
          case measure => simp [intOf]; omega
    · have e : l.take (max i 1) = l := List.take_of_length_le (by omega)
      go_wp2_with fail
      go_ret
      exact ⟨d, rfl, by have := hf.out; rw [e] at this; exact this, hb.out⟩

end Go.Proofs.YtpelpcplagfdiaaDoor
