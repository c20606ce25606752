/- The reference's Most and Find, walked. -/
import Derived.Test.YtpelpcplagfdiaaDoorRsum4
namespace Go.Proofs.YtpelpcplagfdiaaDoor
open Go.RowKit
set_option linter.unusedVariables false

set_option maxRecDepth 100000 in
set_option maxHeartbeats 2000000 in
theorem rmost_ok (g o cap h m : Nat) (l : List Nat) (v : Nat → Int) (w : World) (hl : Ir w g o l) (hv : Vr w h m v) (hm : m ≤ 1000000) (hin : ∀ z, z ∈ l → z ≠ 0 ∧ z ≤ m) (hlen : l.length ≤ 1000000) (hne : l ≠ []) :
    Calls Tryd.prog 38 #[.slice (some ⟨g, o, none⟩) l.length cap, .slice (some ⟨h, 0, none⟩) m m] w fun e w' => ∃ d : Nat, e = .returned (.int .i64 (d : Int)) ∧ Fst (fun z => -(v z)) l (d + 1) ∧ Below w.heap.size w w' := by
  have hl := hid hl
  have hv := hid hv
  have hin := hid hin
  have hlp : 0 < l.length := by
    cases l with
    | nil => exact absurd rfl hne
    | cons _ _ => simp
  obtain ⟨z0, hz0⟩ : ∃ z0, l[0]? = some z0 := ⟨_, List.getElem?_eq_getElem hlp⟩
  have hz0n := (hin.out z0 (List.mem_of_getElem? hz0)).1
  obtain ⟨d0, rfl⟩ : ∃ d, z0 = d + 1 := ⟨z0 - 1, by omega⟩
  have c0 := hl.out 0 d0 hz0
  rw [Nat.add_zero] at c0
  have i0 : (0 : Int) < (l.length : Int) := by omega
  have st : Hid (Fst (fun z => -(v z)) (l.take 1) (d0 + 1)) := hid (by
    rw [List.take_add_one, hz0]
    exact ⟨[], [], by simp, by simp, by simp⟩)
  have hz0 := hid hz0
  clear hz0n
  go_enter Tryd.func38, Tryd.ntmps38
  go_wp2_with fail
  go_loopw [5, 6] (fun s u wr => ∃ (i d : Nat), i ≤ l.length ∧ s = .int .i64 (d : Int) ∧ u = .int .i64 (i : Int) ∧ Hid (Fst (fun z => -(v z)) (l.take (max i 1)) (d + 1)) ∧ Hid (Below w.heap.size w wr)) (fun _ u _ => l.length - (intOf u).toNat)
  case atStart => exact ⟨0, d0, by omega, rfl, by go_num, st, hid (Below.refl _ _)⟩
  case round =>
    clear c0
    obtain ⟨i, d, hi, rfl, rfl, hf, hb⟩ := hrel
    rcases Nat.lt_or_ge i l.length with hil | hig
    · obtain ⟨z, hz⟩ : ∃ z, l[i]? = some z := ⟨_, List.getElem?_eq_getElem hil⟩
      obtain ⟨hz0', hzm⟩ := hin.out z (List.mem_of_getElem? hz)
      obtain ⟨k, rfl⟩ : ∃ k, z = k + 1 := ⟨z - 1, by omega⟩
      have hdm := (hin.out (d + 1) (List.mem_of_mem_take hf.out.mem)).2
      have cell_of : ∀ p x, w.cell? p = some x → wr.cell? p = some x := fun p x hp => (hb.out.cell (World.block_lt_of_cell? w p hp)).trans hp
      have c1 := cell_of _ _ (hl.out i k hz)
      have c2 := cell_of _ _ (hv.out k (by omega))
      have c3 := cell_of _ _ (hv.out d (by omega))
      have i1 : (0 : Int) ≤ (i : Int) := by omega
      have i2 : (i : Int) < (l.length : Int) := by omega
      have i3 : (0 : Int) ≤ (k : Int) := by omega
      have i4 : (k : Int) < (m : Int) := by omega
      have i5 : (0 : Int) ≤ (d : Int) := by omega
      have i6 : (d : Int) < (m : Int) := by omega
      obtain ⟨V, hV⟩ : ∃ V, v (k + 1) = V := ⟨_, rfl⟩
      obtain ⟨U, hU⟩ : ∃ U, v (d + 1) = U := ⟨_, rfl⟩
      have hVh := hid hV
      have hUh := hid hU
      rw [hV] at c2
      rw [hU] at c3
      have hz := hid hz
      have hbd := hid hb.out.drew
      clear hz0' hzm hV hU cell_of
      by_cases hlt : U < V
      · have t1 : decide (U < V) = true := decide_eq_true hlt
        have hi0 : i ≠ 0 := fun e => by
          subst e
          have e1 : k + 1 = d + 1 := by
            have := hf.out.mem
            rw [show max 0 1 = 1 from rfl, List.take_add_one, hz.out] at this
            simp at this
            omega
          rw [← hVh.out, ← hUh.out, e1] at hlt
          omega
        have nx : Hid (Fst (fun z => -(v z)) (l.take (max (i + 1) 1)) (k + 1)) := hid (by
          rw [show max (i + 1) 1 = i + 1 from by omega, List.take_add_one, hz.out]
          have := hf.out
          rw [show max i 1 = i from by omega] at this
          exact this.turn (by show -(v (k + 1)) < -(v (d + 1)); rw [hVh.out, hUh.out]; omega))
        have c1d : wr.drew.cell? ⟨g, o + i, none⟩ = some (.int .i64 (k : Int)) := c1
        go_wp2_with fail
        go_region
        all_goals
          go_wp2_with fail
          go_roundw
          case rel => exact ⟨i + 1, k, by omega, rfl, by go_num, nx, hbd⟩
          case measure => simp [intOf]; omega
      · have t1 : decide (U < V) = false := decide_eq_false hlt
        have nx : Hid (Fst (fun z => -(v z)) (l.take (max (i + 1) 1)) (d + 1)) := hid (by
          by_cases hi0 : i = 0
          · subst hi0; exact hf.out
          · rw [show max (i + 1) 1 = i + 1 from by omega, List.take_add_one, hz.out]
            have := hf.out
            rw [show max i 1 = i from by omega] at this
            exact this.stay (by show ¬ -(v (k + 1)) < -(v (d + 1)); rw [hVh.out, hUh.out]; omega))
        go_wp2_with fail
        go_region
        all_goals
          go_wp2_with fail
          go_roundw
          case rel => exact ⟨i + 1, d, by omega, rfl, by go_num, nx, hbd⟩
          case measure => simp [intOf]; omega
    · have e : l.take (max i 1) = l := List.take_of_length_le (by omega)
      go_wp2_with fail
      go_ret
      exact ⟨d, rfl, by have := hf.out; rw [e] at this; exact this, hb.out⟩

/-- Rows of rows. -/
def Rr (w : World) (b : Nat) (ls : List (List Nat)) : Prop := ∀ (i : Nat) (l : List Nat), ls[i]? = some l → ∃ g o cap, w.cell? ⟨b, i, none⟩ = some (.slice (some ⟨g, o, none⟩) l.length cap) ∧ Ir w g o l

set_option maxRecDepth 100000 in
set_option maxHeartbeats 2000000 in
theorem rfind_ok (b capo i0 k0 d : Nat) (ls : List (List Nat)) (l0 : List Nat) (w : World) (hr : Rr w b ls) (hi0 : ls[i0]? = some l0) (hk0 : l0[k0]? = some (d + 1)) (hfi : ∀ i l, i < i0 → ls[i]? = some l → d + 1 ∉ l) (hfk : ∀ k, k < k0 → l0[k]? ≠ some (d + 1)) (hnz : ∀ l, l ∈ ls → 0 ∉ l) (hlen : ls.length ≤ 1000000) (hlens : ∀ l, l ∈ ls → l.length ≤ 1000000) :
    Calls Tryd.prog 15 #[.slice (some ⟨b, 0, none⟩) ls.length capo, .int .i64 (d : Int)] w fun e w' => e = .returned (.tuple #[.int .i64 (i0 : Int), .int .i64 (k0 : Int)]) ∧ w = w' := by
  have hil0 := (List.getElem?_eq_some_iff.1 hi0).1
  have hkl0 := (List.getElem?_eq_some_iff.1 hk0).1
  have hr := hid hr
  have hfi := hid hfi
  have hfk := hid hfk
  have hnz := hid hnz
  have hlens := hid hlens
  have hi0 := hid hi0
  have hk0 := hid hk0
  go_enter Tryd.func15, Tryd.ntmps15
  go_wp2_with fail
  go_loopw [6, 7] (fun u _ wr => ∃ i : Nat, i ≤ i0 ∧ u = .int .i64 (i : Int) ∧ w = wr) (fun u _ _ => i0 - (intOf u).toNat)
  case atStart => exact ⟨0, by omega, by go_num, rfl⟩
  case round =>
    obtain ⟨i, hi, rfl, rfl⟩ := hrel
    have hil : i < ls.length := by omega
    obtain ⟨l, hl⟩ : ∃ l, ls[i]? = some l := ⟨_, List.getElem?_eq_getElem hil⟩
    obtain ⟨g, o, cap, c1, hI⟩ := hr.out i l hl
    have hll := hlens.out l (List.mem_of_getElem? hl)
    have i1 : (0 : Int) ≤ (i : Int) := by omega
    have i2 : (i : Int) < (ls.length : Int) := by omega
    have hI := hid hI
    have hl := hid hl
    go_wp2_with fail
    go_loopw [7] (fun u wr => ∃ k : Nat, k ≤ l.length ∧ (i = i0 → k ≤ k0) ∧ u = .int .i64 (k : Int) ∧ w = wr) (fun u _ => l.length - (intOf u).toNat)
    case atStart => exact ⟨0, by omega, fun _ => by omega, by go_num, rfl⟩
    case round =>
      obtain ⟨k, hk, hkk, rfl, rfl⟩ := hrel
      rcases Nat.lt_or_ge k l.length with hkl | hkg
      · obtain ⟨z, hz⟩ : ∃ z, l[k]? = some z := ⟨_, List.getElem?_eq_getElem hkl⟩
        have hzn : z ≠ 0 := fun e => hnz.out l (List.mem_of_getElem? hl.out) (by rw [← e]; exact List.mem_of_getElem? hz)
        obtain ⟨y, rfl⟩ : ∃ y, z = y + 1 := ⟨z - 1, by omega⟩
        have c2 := hI.out k y hz
        have k1 : (0 : Int) ≤ (k : Int) := by omega
        have k2 : (k : Int) < (l.length : Int) := by omega
        by_cases hyd : y = d
        · subst hyd
          have e1 : i = i0 := by
            rcases Nat.lt_or_ge i i0 with h1 | h1
            · exact absurd (List.mem_of_getElem? hz) (hfi.out i l h1 hl.out)
            · omega
          subst e1
          have e2 : l = l0 := by have := hl.out; rw [hi0.out] at this; injection this with this; exact this.symm
          subst e2
          have e3 : k = k0 := by
            rcases Nat.lt_or_ge k k0 with h1 | h1
            · exact absurd hz (hfk.out k h1)
            · have := hkk rfl; omega
          subst e3
          clear hz
          go_wp2_with fail
          go_ret2
          exact ⟨rfl, rfl⟩
        · have t1 : ((y : Int) == (d : Int)) = false := by rw [beq_eq_false_iff_ne]; omega
          have nx : Hid (i = i0 → k + 1 ≤ k0) := hid (fun e => by
            have h1 := hkk e
            rcases Nat.lt_or_ge k k0 with h2 | h2
            · omega
            · have e3 : k = k0 := by omega
              subst e e3
              have e2 : l = l0 := by have := hl.out; rw [hi0.out] at this; injection this with this; exact this.symm
              subst e2
              rw [hk0.out] at hz
              injection hz with hz
              omega)
          clear hz hkk
          go_wp2_with fail
          go_roundw
          case rel => exact ⟨k + 1, by omega, nx.out, by go_num, by trivial⟩
          case measure => simp [intOf]; omega
      · have hii : i < i0 := by
          rcases Nat.lt_or_ge i i0 with h1 | h1
          · exact h1
          · have e : i = i0 := by omega
            have h2 := hkk e
            subst e
            have e2 : l = l0 := by have := hl.out; rw [hi0.out] at this; injection this with this; exact this.symm
            rw [e2] at hkg
            omega
        clear hkk
        go_wp2_with fail
        go_roundw
        case rel => exact ⟨i + 1, by omega, by go_num, by trivial⟩
        case measure => simp [intOf]; omega

end Go.Proofs.YtpelpcplagfdiaaDoor
