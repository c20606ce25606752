/- The document's Find, Check, walked. -/
import Derived.Test.YtieglcjfphmglaaDoorMem10
namespace Go.Proofs.YtieglcjfphmglaaDoor
open Go.RowKit
set_option linter.unusedVariables false

/-- Where a dart stands; (-1, -1): nowhere. -/
def At (V : Nat) (R : Nat → List Nat) (d : Int) (r s : Int) : Prop := (r = -1 ∧ s = -1 ∧ ∀ u, u < V → ∀ x, x ∈ R u → (x : Int) ≠ d) ∨ ∃ u i : Nat, u < V ∧ r = (u : Int) ∧ s = (i : Int) ∧ ∃ x, (R u)[i]? = some x ∧ (x : Int) = d

set_option maxRecDepth 100000 in
set_option maxHeartbeats 2000000 in
theorem rfind_ok (v : Value) (E V : Nat) (R : Nat → List Nat) (d : Int) (w : World) (hv : RT w v E V R) (hV : V ≤ 1000) (hl : ∀ u, u < V → (R u).length ≤ 1000) :
    Calls Tryd.prog 17 #[v, .int .i64 d] w fun e w' => ∃ r s, e = .returned (.tuple #[.int .i64 r, .int .i64 s]) ∧ At V R d r s ∧ Below w.heap.size w w' := by
  obtain ⟨lv, rfl, hr⟩ := hv
  have hr1 := hid (hr.below (balloc w (.cells #[.int .i64 (E : Int), lv] 26)))
  obtain ⟨c0, c1⟩ := two_new w (.int .i64 (E : Int)) lv 26
  have hb := hid (balloc w (.cells #[.int .i64 (E : Int), lv] 26))
  obtain ⟨ad, cap, rfl, hcap, ⟨hcap2, _⟩, hro⟩ := hr1.out
  replace hro := hid hro
  clear hr hr1
  obtain ⟨w1, hw1⟩ : ∃ w1, w.alloc (.cells #[.int .i64 (E : Int), .slice ad V cap] 26) = w1 := ⟨_, rfl⟩
  rw [hw1] at c0 c1 hb hro
  go_enter Tryd.func17, Tryd.ntmps17
  go_wp2_with fail
  try rw [hw1]
  clear hw1
  go_loop [6, 7] (fun s6 _ => ∃ u : Nat, u ≤ V ∧ s6 = .int .i64 (u : Int) ∧ Hid (∀ k, k < u → ∀ x, x ∈ R k → (x : Int) ≠ d)) (fun s6 _ => V - (intOf s6).toNat)
  case atStart => exact ⟨0, by omega, by go_num, fun k hk => by omega⟩
  case round =>
    obtain ⟨u, hu, rfl, hno⟩ := hrel
    rcases Nat.lt_or_ge u V with hlt | hge
    · obtain ⟨b, o, x, rfl, cx, hx⟩ := hro.out u hlt
      have hlu := hl u hlt
      obtain ⟨ad2, n2, cap2, rfl, hn2, hc2, hc3, hcell⟩ := hx
      rw [hn2] at hlu
      replace hcell := hid hcell
      replace hn2 := hid hn2
      have i1 : (0 : Int) ≤ (u : Int) := by omega
      have i2 : (u : Int) < (V : Int) := by omega
      go_wp2_with fail
      go_loop [7] (fun s7 => ∃ i : Nat, i ≤ n2 ∧ s7 = .int .i64 (i : Int) ∧ Hid (∀ k, k < i → ∀ x, (R u)[k]? = some x → (x : Int) ≠ d)) (fun s7 => n2 - (intOf s7).toNat)
      case atStart => exact ⟨0, by omega, by go_num, fun k hk => by omega⟩
      case round =>
        obtain ⟨i, hi, rfl, hin⟩ := hrel
        rcases Nat.lt_or_ge i n2 with hilt | hige
        · obtain ⟨y, hy⟩ : ∃ y, (R u)[i]? = some y := ⟨_, List.getElem?_eq_getElem (by rw [hn2.out]; exact hilt)⟩
          obtain ⟨b2, o2, rfl, cy⟩ := hcell.out i y hy
          have i3 : (0 : Int) ≤ (i : Int) := by omega
          have i4 : (i : Int) < (n2 : Int) := by omega
          by_cases hyd : (y : Int) = d
          · have t1 : ((y : Int) == d) = true := by simp [hyd]
            have fin : Hid (At V R d (u : Int) (i : Int)) := .inr ⟨u, i, hlt, rfl, rfl, y, hy, hyd⟩
            subst hyd
            clear hy hin hno
            go_wp2_with fail
            go_ret2
            exact ⟨_, _, rfl, fin.out, hb.out⟩
          · have t1 : ((y : Int) == d) = false := by simpa using hyd
            have hnext : Hid (∀ k, k < i + 1 → ∀ x, (R u)[k]? = some x → (x : Int) ≠ d) := fun k hk x hx => by
              by_cases e : k = i
              · subst e; rw [hy] at hx; cases hx; exact hyd
              · exact hin.out k (by omega) x hx
            clear hy hin
            go_wp2_with fail
            go_round
            case rel => exact ⟨i + 1, by omega, by go_num, hnext⟩
            case measure => simp [intOf]; omega
        · obtain rfl : i = n2 := by omega
          have hnext : Hid (∀ k, k < u + 1 → ∀ x, x ∈ R k → (x : Int) ≠ d) := fun k hk x hx => by
            by_cases e : k = u
            · subst e
              obtain ⟨q, hq⟩ := List.getElem?_of_mem hx
              exact hin.out q (by have := (List.getElem?_eq_some_iff.1 hq).1; rw [← hn2.out]; exact this) x hq
            · exact hno.out k (by omega) x hx
          clear hin hno
          go_wp2_with fail
          go_round
          case rel => exact ⟨u + 1, by omega, by go_num, hnext⟩
          case measure => simp [intOf]; omega
    · obtain rfl : u = V := by omega
      go_wp2_with fail
      go_ret2
      exact ⟨_, _, rfl, .inl ⟨rfl, rfl, hno.out⟩, hb.out⟩

end Go.Proofs.YtieglcjfphmglaaDoor
