/- The reference's Most and Find, walked. -/
import Derived.Test.YtiiklklokkcnpaaDoorRsum4
namespace Go.Proofs.YtiiklklokkcnpaaDoor
open Go.RowKit
set_option linter.unusedVariables false



/-- Rows of rows. -/
def Rr (w : World) (b : Nat) (ls : List (List Nat)) : Prop := ∀ (i : Nat) (l : List Nat), ls[i]? = some l → ∃ g o cap, w.cell? ⟨b, i, none⟩ = some (.slice (some ⟨g, o, none⟩) l.length cap) ∧ Ir w g o l

set_option maxRecDepth 100000 in
set_option maxHeartbeats 2000000 in
theorem rfind_ok (b capo i0 k0 d : Nat) (ls : List (List Nat)) (l0 : List Nat) (w : World) (hr : Rr w b ls) (hi0 : ls[i0]? = some l0) (hk0 : l0[k0]? = some (d + 1)) (hfi : ∀ i l, i < i0 → ls[i]? = some l → d + 1 ∉ l) (hfk : ∀ k, k < k0 → l0[k]? ≠ some (d + 1)) (hnz : ∀ l, l ∈ ls → 0 ∉ l) (hlen : ls.length ≤ 1000000) (hlens : ∀ l, l ∈ ls → l.length ≤ 1000000) :
    Calls Tryd.prog 19 #[.slice (some ⟨b, 0, none⟩) ls.length capo, .int .i64 (d : Int)] w fun e w' => e = .returned (.tuple #[.int .i64 (i0 : Int), .int .i64 (k0 : Int)]) ∧ w = w' := by
  have hil0 := (List.getElem?_eq_some_iff.1 hi0).1
  have hkl0 := (List.getElem?_eq_some_iff.1 hk0).1
  have hr := hid hr
  have hfi := hid hfi
  have hfk := hid hfk
  have hnz := hid hnz
  have hlens := hid hlens
  have hi0 := hid hi0
  have hk0 := hid hk0
  go_enter Tryd.func19, Tryd.ntmps19
  go_wp2_with fail
  go_loopw [6, 7] (fun u _ wr => ∃ i : Nat, i ≤ i0 ∧ u = .int .i64 (i : Int) ∧ w = wr) (fun u _ _ => i0 - (intOf u).toNat)
  case atStart => exact ⟨0, by omega, by go_num, rfl⟩
  case round =>
    obtain ⟨i, hi, rfl, rfl⟩ := hrel
    have hil : i < ls.length := by omega
    obtain ⟨l, hl⟩ : ∃ l, ls[i]? = some l := ⟨_, List.getElem?_eq_getElem hil⟩
    obtain ⟨g, o, cap, c1, hI⟩ := hr.out i l hl
    have hll := hlens.out l (List.mem_of_getElem? hl)
    have i1 : (0 : Int) ≤ (i : Int) := by omega
    have i2 : (i : Int) < (ls.length : Int) := by omega
    have hI := hid hI
    have hl := hid hl
    go_wp2_with fail
    go_loopw [7] (fun u wr => ∃ k : Nat, k ≤ l.length ∧ (i = i0 → k ≤ k0) ∧ u = .int .i64 (k : Int) ∧ w = wr) (fun u _ => l.length - (intOf u).toNat)
    case atStart => exact ⟨0, by omega, fun _ => by omega, by go_num, rfl⟩
    case round =>
      obtain ⟨k, hk, hkk, rfl, rfl⟩ := hrel
      rcases Nat.lt_or_ge k l.length with hkl | hkg
      · obtain ⟨z, hz⟩ : ∃ z, l[k]? = some z := ⟨_, List.getElem?_eq_getElem hkl⟩
        have hzn : z ≠ 0 := fun e => hnz.out l (List.mem_of_getElem? hl.out) (by rw [← e]; exact List.mem_of_getElem? hz)
        obtain ⟨y, rfl⟩ : ∃ y, z = y + 1 := ⟨z - 1, by omega⟩
        have c2 := hI.out k y hz
        have k1 : (0 : Int) ≤ (k : Int) := by omega
        have k2 : (k : Int) < (l.length : Int) := by omega
        by_cases hyd : y = d
        · subst hyd
          have e1 : i = i0 := by
            rcases Nat.lt_or_ge i i0 with h1 | h1
            · exact absurd (List.mem_of_getElem? hz) (hfi.out i l h1 hl.out)
            · omega
          subst e1
          have e2 : l = l0 := by have := hl.out; rw [hi0.out] at this; injection this with this; exact this.symm
          subst e2
          have e3 : k = k0 := by
            rcases Nat.lt_or_ge k k0 with h1 | h1
            · exact absurd hz (hfk.out k h1)
            · have := hkk rfl; omega
          subst e3
          clear hz
          go_wp2_with fail
          go_ret2
          exact ⟨rfl, rfl⟩
        · have t1 : ((y : Int) == (d : Int)) = false := by rw [beq_eq_false_iff_ne]; omega
          have nx : Hid (i = i0 → k + 1 ≤ k0) := hid (fun e => by
            have h1 := hkk e
            rcases Nat.lt_or_ge k k0 with h2 | h2
            · omega
            · have e3 : k = k0 := by omega
              subst e e3
              have e2 : l = l0 := by have := hl.out; rw [hi0.out] at this; injection this with this; exact this.symm
              subst e2
              rw [hk0.out] at hz
              injection hz with hz
              omega)
          clear hz hkk
          go_wp2_with fail
          go_roundw
          case rel => exact ⟨k + 1, by omega, nx.out, by go_num, by trivial⟩
          case measure => simp [intOf]; omega
      · have hii : i < i0 := by
          rcases Nat.lt_or_ge i i0 with h1 | h1
          · exact h1
          · have e : i = i0 := by omega
            have h2 := hkk e
            subst e
            have e2 : l = l0 := by have := hl.out; rw [hi0.out] at this; injection this with this; exact this.symm
            rw [e2] at hkg
            omega
        clear hkk
        go_wp2_with fail
        go_roundw
        case rel => exact ⟨i + 1, by omega, by go_num, by trivial⟩
        case measure => simp [intOf]; omega

end Go.Proofs.YtiiklklokkcnpaaDoor
