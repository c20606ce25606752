/- The reference's links, and its Find. -/
import Derived.Test.YtnkgpjjlgbggcaaDoorLaws6
import Derived.Laws.OwnMore
namespace Go.Proofs.YtnkgpjjlgbggcaaDoor
open Go.RowKit
set_option linter.unusedVariables false

/-- The cells of links. -/
def lcs : List (Nat × Nat) → List Value
  | [] => []
  | p :: ps => .int .i64 (p.1 : Int) :: .int .i64 (p.2 : Int) :: lcs ps

theorem lcs_length : ∀ ps : List (Nat × Nat), (lcs ps).length = ps.length * 2
  | [] => rfl
  | p :: ps => by simp [lcs, lcs_length ps]; omega

theorem lcs_append : ∀ (a b : List (Nat × Nat)), lcs (a ++ b) = lcs a ++ lcs b
  | [], _ => rfl
  | p :: a, b => by simp [lcs, lcs_append a b]

theorem lcs_get : ∀ (ps : List (Nat × Nat)) (i : Nat) (p : Nat × Nat), ps[i]? = some p → (lcs ps)[i * 2]? = some (.int .i64 (p.1 : Int)) ∧ (lcs ps)[i * 2 + 1]? = some (.int .i64 (p.2 : Int))
  | [], i, p, h => by simp at h
  | q :: ps, 0, p, h => by simp at h; subst h; simp [lcs]
  | q :: ps, i + 1, p, h => by
    have := lcs_get ps i p (by simpa using h)
    rw [show (i + 1) * 2 = i * 2 + 2 from by omega]
    simpa [lcs] using this

theorem lcs_take (ps : List (Nat × Nat)) : ∀ i, (lcs ps).take (i * 2) = lcs (ps.take i) := by
  induction ps with
  | nil => intro i; simp [lcs]
  | cons p ps ih =>
    intro i
    cases i with
    | zero => simp [lcs]
    | succ i => rw [show (i + 1) * 2 = i * 2 + 2 from by omega]; simp [lcs, ih i]

theorem lcs_drop (ps : List (Nat × Nat)) : ∀ i, (lcs ps).drop (i * 2) = lcs (ps.drop i) := by
  induction ps with
  | nil => intro i; simp [lcs]
  | cons p ps ih =>
    intro i
    cases i with
    | zero => simp [lcs]
    | succ i => rw [show (i + 1) * 2 = i * 2 + 2 from by omega]; simp [lcs, ih i]

theorem lcs_one (ps : List (Nat × Nat)) : ∀ u ∈ lcs ps, u.oneCell' = true := by
  induction ps with
  | nil => simp [lcs]
  | cons p ps ih =>
    intro u hu
    simp only [lcs, List.mem_cons] at hu
    rcases hu with rfl | rfl | h
    · rfl
    · rfl
    · exact ih u h

/-- The links, in a row of one's own. -/
def Lk (lo : Nat) (w : World) (v : Value) (ls : List (Nat × Nat)) : Prop := w.ownsRow lo 42 2 v ls.length (lcs ls)

/-- What such a row holds. -/
theorem Lk.at {lo : Nat} {w : World} {v : Value} {ls : List (Nat × Nat)} (h : Lk lo w v ls) {j x y : Nat} (hj : ls[j]? = some (x, y)) :
    ∃ g cap, v = .slice (some ⟨g, 0, none⟩) ls.length cap ∧ w.cell? ⟨g, j * 2, none⟩ = some (.int .i64 (x : Int)) ∧ w.cell? ⟨g, j * 2 + 1, none⟩ = some (.int .i64 (y : Int)) := by
  have h : w.ownsRow lo 42 2 v ls.length (lcs ls) := h
  have hjl := (List.getElem?_eq_some_iff.1 hj).1
  obtain ⟨g, cap, hv⟩ : ∃ g cap, v = .slice (some ⟨g, 0, none⟩) ls.length cap := by
    rcases h.2 with ⟨_, e⟩ | ⟨g, cap, cur, e, _⟩
    · omega
    · exact ⟨g, cap, e⟩
  subst hv
  obtain ⟨h1, h2⟩ := lcs_get ls j _ hj
  exact ⟨g, cap, rfl, (h.cellAt _ (by omega)).trans h1, (h.cellAt _ (by omega)).trans h2⟩

theorem Lk.slice {lo : Nat} {w : World} {v : Value} {ls : List (Nat × Nat)} (h : Lk lo w v ls) : ∃ ad cap, v = .slice ad ls.length cap := by
  rcases h.2 with ⟨rfl, e⟩ | ⟨g, cap, cur, rfl, _⟩
  · rw [e]; exact ⟨_, _, rfl⟩
  · exact ⟨_, _, rfl⟩

/-- A link of these two, either way. -/
def isL (a b : Nat) (p : Nat × Nat) : Prop := p = (a, b) ∨ p = (b, a)

/-- What Find answers. -/
def Found (ls : List (Nat × Nat)) (a b : Nat) (z : Int) : Prop := (∃ (i : Nat) (p : Nat × Nat), z = (i : Int) ∧ ls[i]? = some p ∧ isL a b p) ∨ (z = -1 ∧ ∀ p ∈ ls, ¬ isL a b p)

set_option maxRecDepth 100000 in
set_option maxHeartbeats 4000000 in
theorem rfind6_ok (lo : Nat) (v : Value) (ls : List (Nat × Nat)) (a b : Nat) (w : World) (h : Lk lo w v ls) (hl : ls.length ≤ 1000) :
    Calls Tryd.prog 9 #[v, .int .i64 (a : Int), .int .i64 (b : Int)] w fun e w' => ∃ z : Int, e = .returned (.int .i64 z) ∧ Found ls a b z ∧ w = w' := by
  obtain ⟨ad, cap, hv⟩ := h.slice
  subst hv
  have hh := hid h
  clear h
  go_enter Tryd.func9, Tryd.ntmps9
  go_wp2_with fail
  go_loopw [7] (fun u wr => ∃ j : Nat, j ≤ ls.length ∧ u = .int .i64 (j : Int) ∧ Hid (∀ (k : Nat) p, ls[k]? = some p → k < j → ¬ isL a b p) ∧ wr = w) (fun u _ => ls.length - (intOf u).toNat)
  case atStart => exact ⟨0, by omega, by go_num, hid (fun _ _ _ h => by omega), rfl⟩
  case round =>
    obtain ⟨j, hj, rfl, hno, rfl⟩ := hrel
    rcases Nat.lt_or_ge j ls.length with hlt | hge
    · obtain ⟨⟨x, y⟩, hp⟩ : ∃ z, ls[j]? = some z := ⟨_, List.getElem?_eq_getElem hlt⟩
      obtain ⟨g, cap', hv, hc0, hc1⟩ := hh.out.at hp
      injection hv with e1 _ e3
      subst e1 e3
      have hph := hid hp
      clear hp
      have step : Hid (¬ isL a b (x, y) → ∀ (k : Nat) p, ls[k]? = some p → k < j + 1 → ¬ isL a b p) := hid (fun hn k p hk hkj => by
        rcases Nat.lt_or_ge k j with h1 | h1
        · exact hno.out k p hk h1
        · obtain rfl : k = j := by omega
          rw [hph.out] at hk
          cases hk
          exact hn)
      have t1 : (((x : Int) == (a : Int)) = true ∧ x = a) ∨ (((x : Int) == (a : Int)) = false ∧ x ≠ a) := by
        by_cases e : x = a
        · exact Or.inl ⟨by rw [e]; simp, e⟩
        · exact Or.inr ⟨by rw [beq_eq_false_iff_ne]; omega, e⟩
      have t2 : (((y : Int) == (b : Int)) = true ∧ y = b) ∨ (((y : Int) == (b : Int)) = false ∧ y ≠ b) := by
        by_cases e : y = b
        · exact Or.inl ⟨by rw [e]; simp, e⟩
        · exact Or.inr ⟨by rw [beq_eq_false_iff_ne]; omega, e⟩
      have t3 : (((x : Int) == (b : Int)) = true ∧ x = b) ∨ (((x : Int) == (b : Int)) = false ∧ x ≠ b) := by
        by_cases e : x = b
        · exact Or.inl ⟨by rw [e]; simp, e⟩
        · exact Or.inr ⟨by rw [beq_eq_false_iff_ne]; omega, e⟩
      have t4 : (((y : Int) == (a : Int)) = true ∧ y = a) ∨ (((y : Int) == (a : Int)) = false ∧ y ≠ a) := by
        by_cases e : y = a
        · exact Or.inl ⟨by rw [e]; simp, e⟩
        · exact Or.inr ⟨by rw [beq_eq_false_iff_ne]; omega, e⟩
      by_cases hm : isL a b (x, y)
      · have hmh := hid hm
        clear step
        rcases t1 with ⟨s1, m1⟩ | ⟨s1, m1⟩ <;> rcases t2 with ⟨s2, m2⟩ | ⟨s2, m2⟩ <;> rcases t3 with ⟨s3, m3⟩ | ⟨s3, m3⟩ <;> rcases t4 with ⟨s4, m4⟩ | ⟨s4, m4⟩
        all_goals
          first
            | (exfalso; rcases hm with e | e <;> (injection e with e5 e6; omega))
            | (replace m1 := hid m1
               replace m2 := hid m2
               replace m3 := hid m3
               replace m4 := hid m4
               clear hm
               go_wp2_with fail
               go_ret
               exact ⟨(j : Int), rfl, Or.inl ⟨j, (x, y), rfl, hph.out, hmh.out⟩, rfl⟩)
      · have hno2 := hid (step.out hm)
        clear step
        rcases t1 with ⟨s1, m1⟩ | ⟨s1, m1⟩ <;> rcases t2 with ⟨s2, m2⟩ | ⟨s2, m2⟩ <;> rcases t3 with ⟨s3, m3⟩ | ⟨s3, m3⟩ <;> rcases t4 with ⟨s4, m4⟩ | ⟨s4, m4⟩
        all_goals
          first
            | (exfalso; exact hm (Or.inl (by rw [m1, m2])))
            | (exfalso; exact hm (Or.inr (by rw [m3, m4])))
            | (replace m1 := hid m1
               replace m2 := hid m2
               replace m3 := hid m3
               replace m4 := hid m4
               clear hm
               go_wp2_with fail
               go_roundw
               case rel => exact ⟨j + 1, by omega, by go_num, hno2, trivial⟩
               case measure => simp [intOf]; omega)
    · obtain rfl : j = ls.length := by omega
      go_wp2_with fail
      go_ret
      refine ⟨-1, rfl, Or.inr ⟨rfl, fun p hp => ?_⟩, rfl⟩
      obtain ⟨k, hk⟩ := List.mem_iff_getElem?.1 hp
      exact hno.out k p hk (List.getElem?_eq_some_iff.1 hk).1

end Go.Proofs.YtnkgpjjlgbggcaaDoor
