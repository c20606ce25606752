/- The document's Check, Less, walked. -/
import Derived.Test.YtnlbpjppkfenkaaLib9
namespace Go.Proofs.Ytnlbpjppkfenkaa
open Go.RowKit
set_option linter.unusedVariables false

set_option maxRecDepth 100000 in
set_option maxHeartbeats 1000000 in
theorem rcheck_arg (n : Int) (v : Value) (w : World) (h : n < 0 ∨ 1048576 < n) : Calls Try.prog 13 #[.int .i64 n, v] w fun e w' => e = .returned (.int .i64 1) ∧ w = w' := by
  by_cases h1 : n < 0
  · have d1 : decide (n < 0) = true := decide_eq_true h1
    clear h1 h
    go_enter Try.func13, Try.ntmps13
    go_wp2_with fail
    go_ret
    exact ⟨rfl, rfl⟩
  · have d1 : decide (n < 0) = false := decide_eq_false h1
    have d2 : decide (1048576 < n) = true := decide_eq_true (by omega)
    clear h1 h
    go_enter Try.func13, Try.ntmps13
    go_wp2_with fail
    go_ret
    exact ⟨rfl, rfl⟩

set_option maxRecDepth 100000 in
set_option maxHeartbeats 4000000 in
theorem rcheck_any (n : Int) (v : Value) (l : List Ed) (w : World) (hv : EV w v l) (h1 : 0 ≤ n) (h2 : n ≤ 1048576) (hl : l.length ≤ 1048576) : Calls Try.prog 13 #[.int .i64 n, v] w fun e w' => ∃ c : Int, e = .returned (.int .i64 c) ∧ ((c = 0 ∧ Okr n l) ∨ (c = 12 ∧ ¬ Okr n l)) ∧ w = w' := by
  obtain ⟨ad, m, cap, rfl, he, _, _⟩ := hv
  have hm := he.len
  rw [hm] at hl
  replace hm := hid hm
  replace he := hid he
  have d1 : decide (n < 0) = false := decide_eq_false (by omega)
  have d2 : decide (1048576 < n) = false := decide_eq_false (by omega)
  have d3 : decide (1048576 < (m : Int)) = false := decide_eq_false (by omega)
  clear h1 h2
  go_enter Try.func13, Try.ntmps13
  go_wp2_with fail
  go_loop [5] (fun u => ∃ j : Nat, j ≤ m ∧ u = .int .i64 (j : Int) ∧ Hid (Okr n (l.take j)))
    (fun u => m - (intOf u).toNat)
  case atStart => exact ⟨0, by omega, by go_num, (fun q hq => by simp at hq)⟩
  case round =>
    obtain ⟨j, hj, rfl, hs⟩ := hrel
    rcases Nat.lt_or_ge j m with hlt | hge
    · obtain ⟨q, hq⟩ : ∃ q, l[j]? = some q := ⟨_, List.getElem?_eq_getElem (by rw [hm.out]; exact hlt)⟩
      obtain ⟨g, o, rfl, c0, c1, c2⟩ := he.out.cell j q hq
      have htk := hid (take_next hq)
      obtain ⟨x, y, z⟩ := q
      simp only [] at c0 c1 c2
      have i1 : (0 : Int) ≤ (j : Int) := by omega
      have i2 : (j : Int) < (m : Int) := by omega
      by_cases hin : Inr n ⟨x, y, z⟩
      · have hok : Hid (Okr n (l.take (j + 1))) := by
          rw [htk.out]
          intro q hq
          rcases List.mem_append.1 hq with h | h
          · exact hs.out q h
          · simp at h; subst h; exact hin
        obtain ⟨⟨a1, a2⟩, a3, a4⟩ := hin
        simp only [] at a1 a2 a3 a4
        have t1 : decide (x < 0) = false := decide_eq_false (by omega)
        have t2 : decide (n ≤ x) = false := decide_eq_false (by omega)
        have t3 : decide (y < 0) = false := decide_eq_false (by omega)
        have t4 : decide (n ≤ y) = false := decide_eq_false (by omega)
        clear hq hs htk a1 a2 a3 a4
        go_wp2_with fail
        go_round
        case rel => exact ⟨j + 1, by omega, by go_num, hok⟩
        case measure => simp [intOf]; omega
      · have hno : Hid (¬ Okr n l) := fun h => hin (h _ (List.mem_of_getElem? hq))
        unfold Inr at hin
        simp only [] at hin
        clear hq hs htk
        by_cases t1 : x < 0
        · have t1' : decide (x < 0) = true := decide_eq_true t1
          clear t1 hin
          go_wp2_with fail
          go_ret
          exact ⟨12, rfl, .inr ⟨rfl, hno.out⟩, rfl⟩
        · have t1' : decide (x < 0) = false := decide_eq_false t1
          by_cases t2 : n ≤ x
          · have t2' : decide (n ≤ x) = true := decide_eq_true t2
            clear t1 t2 hin
            go_wp2_with fail
            go_ret
            exact ⟨12, rfl, .inr ⟨rfl, hno.out⟩, rfl⟩
          · have t2' : decide (n ≤ x) = false := decide_eq_false t2
            by_cases t3 : y < 0
            · have t3' : decide (y < 0) = true := decide_eq_true t3
              clear t1 t2 t3 hin
              go_wp2_with fail
              go_ret
              exact ⟨12, rfl, .inr ⟨rfl, hno.out⟩, rfl⟩
            · have t3' : decide (y < 0) = false := decide_eq_false t3
              have t4' : decide (n ≤ y) = true := decide_eq_true (by omega)
              clear t1 t2 t3 hin
              go_wp2_with fail
              go_ret
              exact ⟨12, rfl, .inr ⟨rfl, hno.out⟩, rfl⟩
    · obtain rfl : j = m := by omega
      have hok : Hid (Okr n l) := by
        have := hs.out
        rw [List.take_of_length_le (by rw [hm.out]; exact Nat.le_refl _)] at this
        exact this
      go_wp2_with fail
      go_ret
      exact ⟨0, rfl, .inl ⟨rfl, hok.out⟩, rfl⟩

theorem rcheck_ok (n : Int) (v : Value) (l : List Ed) (w : World) (hv : EV w v l) (h1 : 0 ≤ n) (h2 : n ≤ 1048576) (hl : l.length ≤ 1048576) (hok : Okr n l) : Calls Try.prog 13 #[.int .i64 n, v] w fun e w' => e = .returned (.int .i64 0) ∧ w = w' :=
  (rcheck_any n v l w hv h1 h2 hl).mono fun e w' ⟨c, e1, h, e2⟩ => by
    rcases h with ⟨rfl, _⟩ | ⟨_, h⟩
    · exact ⟨e1, e2⟩
    · exact absurd hok h

theorem rcheck_range (n : Int) (v : Value) (l : List Ed) (w : World) (hv : EV w v l) (h1 : 0 ≤ n) (h2 : n ≤ 1048576) (hl : l.length ≤ 1048576) (hok : ¬ Okr n l) : Calls Try.prog 13 #[.int .i64 n, v] w fun e w' => e = .returned (.int .i64 12) ∧ w = w' :=
  (rcheck_any n v l w hv h1 h2 hl).mono fun e w' ⟨c, e1, h, e2⟩ => by
    rcases h with ⟨_, h⟩ | ⟨rfl, _⟩
    · exact absurd h hok
    · exact ⟨e1, e2⟩

open Classical in
set_option maxRecDepth 100000 in
set_option maxHeartbeats 2000000 in
theorem rless_ok (v : Value) (l : List Ed) (i k : Nat) (w : World) (hv : EV w v l) (hi : i < l.length) (hk : k < l.length) : Calls Try.prog 12 #[v, .int .i64 (i : Int), .int .i64 (k : Int)] w fun e w' => e = .returned (.bool (decide (Lw (eW l) i k))) ∧ ∃ m, w' = w.drewN m := by
  obtain ⟨ad, n, cap, rfl, he, _, _⟩ := hv
  have hl := he.len
  rw [hl] at hi hk
  obtain ⟨qa, hqa⟩ : ∃ q, l[i]? = some q := ⟨_, List.getElem?_eq_getElem (by omega)⟩
  obtain ⟨qb, hqb⟩ : ∃ q, l[k]? = some q := ⟨_, List.getElem?_eq_getElem (by omega)⟩
  obtain ⟨g, o, rfl, _, _, ca⟩ := he.cell i qa hqa
  obtain ⟨g', o', e', _, _, cb⟩ := he.cell k qb hqb
  simp only [Option.some.injEq, Addr.mk.injEq, and_true] at e'
  obtain ⟨rfl, rfl⟩ := e'
  have ea : eW l i = qa.w := by unfold eW; rw [hqa]; rfl
  have eb : eW l k = qb.w := by unfold eW; rw [hqb]; rfl
  have hcf : Hid (Lw (eW l) i k ↔ (qa.w < qb.w ∨ (qa.w = qb.w ∧ i < k))) := by unfold Lw; rw [ea, eb]; exact hid Iff.rfl
  generalize qa.w = wa at ca hcf
  generalize qb.w = wb at cb hcf
  clear he hl hqa hqb ea eb
  have i1 : (0 : Int) ≤ (i : Int) := by omega
  have i2 : (i : Int) < (n : Int) := by omega
  have i3 : (0 : Int) ≤ (k : Int) := by omega
  have i4 : (k : Int) < (n : Int) := by omega
  by_cases h1 : wa < wb
  · have hr : Hid (decide (Lw (eW l) i k) = true) := decide_eq_true (hcf.out.2 (.inl h1))
    have d1 : decide (wa < wb) = true := decide_eq_true h1
    clear h1 hcf
    go_enter Try.func12, Try.ntmps12
    go_wp2_with fail
    go_quiet (fail)
    go_wp2_with fail
    go_ret
    exact ⟨by rw [hr.out]; rfl, _, rfl⟩
  · have d1 : decide (wa < wb) = false := decide_eq_false h1
    by_cases h2 : wa = wb
    · subst h2
      have d2 : (wa == wa) = true := by simp
      by_cases h3 : i < k
      · have hr : Hid (decide (Lw (eW l) i k) = true) := decide_eq_true (hcf.out.2 (.inr ⟨rfl, h3⟩))
        have d3 : decide ((i : Int) < (k : Int)) = true := decide_eq_true (by omega)
        have d4 : decide (i < k) = true := decide_eq_true h3
        clear h1 hcf h3 d1
        go_enter Try.func12, Try.ntmps12
        go_wp2_with fail
        go_quiet (fail)
        go_wp2_with fail
        go_ret
        exact ⟨by rw [hr.out]; rfl, _, rfl⟩
      · have hr : Hid (decide (Lw (eW l) i k) = false) := decide_eq_false (fun h => by have := hcf.out.1 h; omega)
        have d3 : decide ((i : Int) < (k : Int)) = false := decide_eq_false (by omega)
        have d4 : decide (i < k) = false := decide_eq_false h3
        clear h1 hcf h3 d1
        go_enter Try.func12, Try.ntmps12
        go_wp2_with fail
        go_quiet (fail)
        go_wp2_with fail
        go_ret
        exact ⟨by rw [hr.out]; rfl, _, rfl⟩
    · have hr : Hid (decide (Lw (eW l) i k) = false) := decide_eq_false (fun h => by have := hcf.out.1 h; omega)
      have d2 : (wa == wb) = false := by simpa using h2
      clear h1 hcf
      go_enter Try.func12, Try.ntmps12
      go_wp2_with fail
      go_quiet (fail)
      go_wp2_with fail
      go_ret
      exact ⟨by rw [hr.out]; rfl, _, rfl⟩

end Go.Proofs.Ytnlbpjppkfenkaa
