/- What a code's answers have: answer's partsOf, all, fit, holds, inRange, check. -/
import Derived.Test.YtkopcfpghklbbaaDoorAns20
import Derived.Test.YtkopcfpghklbbaaDoorAppendB
import Derived.Test.YtkopcfpghklbbaaDoorCopied
import Derived.Handy
import Derived.OwnWalk
namespace Go.Proofs.YtkopcfpghklbbaaDoor
open Go.RowKit
set_option linter.unusedVariables false

/-- What a code's answers have: handles; a dart, darts; Is; N; Counts; Sum; Data. -/
structure P20 where
  h : Nat
  t : Bool
  f : Bool
  i : Bool
  n : Bool
  c : Bool
  s : Bool
  d : Bool

def pz : P20 := ⟨0, false, false, false, false, false, false, false⟩
def p20 (k : Int) : P20 :=
  if k = 1 ∨ k = 3 then { pz with h := 1 } else if k = 16 then { pz with h := 2 } else if k = 6 ∨ k = 7 ∨ k = 8 ∨ k = 12 then { pz with i := true }
  else if k = 9 then { pz with n := true } else if k = 10 then { pz with f := true } else if k = 17 then { pz with t := true }
  else if k = 11 then { pz with c := true } else if k = 13 then { pz with s := true } else if k = 14 then { pz with d := true } else pz
def pe20 (k e : Int) : P20 := if e = 0 then p20 k else pz
def pb20 (k e : Int) : Bool := if e = 0 then decide (k ≠ 0) else decide (0 < e ∧ e ≤ 255)

abbrev P20.v (p : P20) : Value := .agg #[.int .i64 (p.h : Int), .bool p.t, .bool p.f, .bool p.i, .bool p.n, .bool p.c, .bool p.s, .bool p.d]
abbrev P20.cs (p : P20) : Array Value := #[.int .i64 (p.h : Int), .bool p.t, .bool p.f, .bool p.i, .bool p.n, .bool p.c, .bool p.s, .bool p.d]

theorem p20_ten (k : Int) : p20 k = pz ∨ p20 k = { pz with h := 1 } ∨ p20 k = { pz with h := 2 } ∨ p20 k = { pz with i := true } ∨ p20 k = { pz with n := true } ∨ p20 k = { pz with f := true } ∨ p20 k = { pz with t := true } ∨ p20 k = { pz with c := true } ∨ p20 k = { pz with s := true } ∨ p20 k = { pz with d := true } := by
  unfold p20
  repeat' split
  all_goals simp
theorem pe20_ten (k e : Int) : pe20 k e = pz ∨ pe20 k e = { pz with h := 1 } ∨ pe20 k e = { pz with h := 2 } ∨ pe20 k e = { pz with i := true } ∨ pe20 k e = { pz with n := true } ∨ pe20 k e = { pz with f := true } ∨ pe20 k e = { pz with t := true } ∨ pe20 k e = { pz with c := true } ∨ pe20 k e = { pz with s := true } ∨ pe20 k e = { pz with d := true } := by
  unfold pe20
  split
  · exact p20_ten k
  · exact .inl rfl

def all20 (p : P20) (x : An) : Bool := decide (x.hs.length = p.h ∧ (p.i = true ∨ x.is = false) ∧ (p.n = true ∨ x.n = 0) ∧ (p.c = true ∨ (x.c0 = 0 ∧ x.c1 = 0 ∧ x.c2 = 0 ∧ x.c3 = 0)) ∧ (p.s = true ∨ x.sum = 0) ∧ (p.d = true ∨ x.d.length = 0))
def hold20 (p : P20) (n : Nat) : Bool := if p.f then decide (n ≤ 4194304) else if p.t then decide (n = 1) else decide (n = 0)
def fit20 (p : P20) (ds : List Dt) : Bool := hold20 p ds.length && decide (∀ y, y ∈ ds → y.s = 0 ∨ y.s = 1)
abbrev in32 (n : Int) : Prop := 0 ≤ n ∧ n ≤ 4294967295
def inr20 (x : An) : Bool := decide ((in32 x.c0 ∧ in32 x.c1 ∧ in32 x.c2 ∧ in32 x.c3) ∧ in32 x.n ∧ x.d.length ≤ 67108863)

theorem may20_iff {k : Int} {x : An} (h0 : 0 ≤ k) (h1 : k ≤ 17) : may20 k x ↔ (pb20 k x.err = true ∧ all20 (pe20 k x.err) x = true ∧ fit20 (pe20 k x.err) x.ds = true ∧ inr20 x = true) := by
  by_cases he : x.err = 0
  · have hp : pe20 k x.err = p20 k := by unfold pe20; rw [if_pos he]
    have hb : pb20 k x.err = decide (k ≠ 0) := by unfold pb20; rw [if_pos he]
    rw [hp, hb]
    have hm : may20 k x ↔ ok20 k x := by
      constructor
      · rintro (⟨q, _⟩ | ⟨_, q⟩)
        · exact absurd he q
        · exact q
      · exact fun q => .inr ⟨he, q⟩
    rw [hm]
    unfold all20 fit20 inr20 hold20
    rw [Bool.and_eq_true]
    simp only [decide_eq_true_eq]
    unfold ok20
    rw [flg_iff]
    rcases (by omega : k = 0 ∨ (k = 1 ∨ k = 3) ∨ k = 16 ∨ (k = 6 ∨ k = 7 ∨ k = 8 ∨ k = 12) ∨ k = 9 ∨ k = 10 ∨ k = 17 ∨ k = 11 ∨ k = 13 ∨ k = 14 ∨ (k = 2 ∨ k = 4 ∨ k = 5 ∨ k = 15)) with g | g | g | g | g | g | g | g | g | g | g
    · subst g
      simp
    · have e : p20 k = { pz with h := 1 } := by unfold p20; rw [if_pos g]
      have e2 : hnd k = 1 := by unfold hnd; rw [if_pos g]
      rw [e, e2]
      simp only [pz, Bool.false_eq_true, if_false, false_or, decide_eq_true_eq, in32]
      simp only [List.length_eq_zero_iff]
      constructor
      · rintro ⟨_, q1, q2, q3, q4, _, q5, q6, q7, q8, q9, q10, q11, q12⟩
        have z : x.is = false := by rcases q2 with q | q; exact q; omega
        have z2 : x.ds = [] := by rcases q4 with q | q; exact q; omega
        have z3 : x.d = [] := by rcases q7 with q | q; exact q; omega
        exact ⟨by omega, ⟨q1, z, by omega, by omega, by omega, z3⟩, ⟨z2, q12⟩, q11, q8, q10⟩
      · rintro ⟨_, ⟨q1, q2, q3, q4, q5, q6⟩, ⟨q7, q8⟩, q9, q10, q11⟩
        exact ⟨by omega, q1, .inl q2, .inl q3, .inl q7, by omega, .inl q4, .inl q5, .inl q6, q10, by simp [q7], q11, q9, q8⟩
    · have e : p20 k = { pz with h := 2 } := by unfold p20; rw [if_neg (by omega), if_pos g]
      have e2 : hnd k = 2 := by unfold hnd; rw [if_neg (by omega), if_pos g]
      rw [e, e2]
      simp only [pz, Bool.false_eq_true, if_false, false_or, decide_eq_true_eq, in32]
      simp only [List.length_eq_zero_iff]
      constructor
      · rintro ⟨_, q1, q2, q3, q4, _, q5, q6, q7, q8, q9, q10, q11, q12⟩
        have z : x.is = false := by rcases q2 with q | q; exact q; omega
        have z2 : x.ds = [] := by rcases q4 with q | q; exact q; omega
        have z3 : x.d = [] := by rcases q7 with q | q; exact q; omega
        exact ⟨by omega, ⟨q1, z, by omega, by omega, by omega, z3⟩, ⟨z2, q12⟩, q11, q8, q10⟩
      · rintro ⟨_, ⟨q1, q2, q3, q4, q5, q6⟩, ⟨q7, q8⟩, q9, q10, q11⟩
        exact ⟨by omega, q1, .inl q2, .inl q3, .inl q7, by omega, .inl q4, .inl q5, .inl q6, q10, by simp [q7], q11, q9, q8⟩
    all_goals have e2 : hnd k = 0 := by unfold hnd; rw [if_neg (by omega), if_neg (by omega)]
    · have e : p20 k = { pz with i := true } := by unfold p20; rw [if_neg (by omega), if_neg (by omega), if_pos g]
      rw [e, e2]
      simp only [pz, Bool.false_eq_true, if_false, false_or, true_or, true_and, decide_eq_true_eq, in32]
      simp only [List.length_eq_zero_iff]
      constructor
      · rintro ⟨_, q1, q2, q3, q4, _, q5, q6, q7, q8, q9, q10, q11, q12⟩
        have z2 : x.ds = [] := by rcases q4 with q | q; exact q; omega
        have z3 : x.d = [] := by rcases q7 with q | q; exact q; omega
        exact ⟨by omega, ⟨q1, by omega, by omega, by omega, z3⟩, ⟨z2, q12⟩, q11, q8, q10⟩
      · rintro ⟨_, ⟨q1, q3, q4, q5, q6⟩, ⟨q7, q8⟩, q9, q10, q11⟩
        exact ⟨by omega, q1, .inr g, .inl q3, .inl q7, by omega, .inl q4, .inl q5, .inl q6, q10, by simp [q7], q11, q9, q8⟩
    · have e : p20 k = { pz with n := true } := by unfold p20; rw [if_neg (by omega), if_neg (by omega), if_neg (by omega), if_pos g]
      rw [e, e2]
      simp only [pz, Bool.false_eq_true, if_false, false_or, true_or, true_and, decide_eq_true_eq, in32]
      simp only [List.length_eq_zero_iff]
      constructor
      · rintro ⟨_, q1, q2, q3, q4, _, q5, q6, q7, q8, q9, q10, q11, q12⟩
        have z : x.is = false := by rcases q2 with q | q; exact q; omega
        have z2 : x.ds = [] := by rcases q4 with q | q; exact q; omega
        have z3 : x.d = [] := by rcases q7 with q | q; exact q; omega
        exact ⟨by omega, ⟨q1, z, by omega, by omega, z3⟩, ⟨z2, q12⟩, q11, q8, q10⟩
      · rintro ⟨_, ⟨q1, q2, q4, q5, q6⟩, ⟨q7, q8⟩, q9, q10, q11⟩
        exact ⟨by omega, q1, .inl q2, .inr g, .inl q7, by omega, .inl q4, .inl q5, .inl q6, q10, by simp [q7], q11, q9, q8⟩
    · have e : p20 k = { pz with f := true } := by unfold p20; rw [if_neg (by omega), if_neg (by omega), if_neg (by omega), if_neg (by omega), if_pos g]
      rw [e, e2]
      simp only [pz, Bool.false_eq_true, if_false, if_true, false_or, decide_eq_true_eq, in32]
      simp only [List.length_eq_zero_iff]
      constructor
      · rintro ⟨_, q1, q2, q3, q4, _, q5, q6, q7, q8, q9, q10, q11, q12⟩
        have z : x.is = false := by rcases q2 with q | q; exact q; omega
        have z3 : x.d = [] := by rcases q7 with q | q; exact q; omega
        exact ⟨by omega, ⟨q1, z, by omega, by omega, by omega, z3⟩, ⟨q9, q12⟩, q11, q8, q10⟩
      · rintro ⟨_, ⟨q1, q2, q3, q4, q5, q6⟩, ⟨q7, q8⟩, q9, q10, q11⟩
        exact ⟨by omega, q1, .inl q2, .inl q3, .inr (.inl g), by omega, .inl q4, .inl q5, .inl q6, q10, q7, q11, q9, q8⟩
    · have e : p20 k = { pz with t := true } := by unfold p20; rw [if_neg (by omega), if_neg (by omega), if_neg (by omega), if_neg (by omega), if_neg (by omega), if_pos g]
      rw [e, e2]
      simp only [pz, Bool.false_eq_true, if_false, if_true, false_or, decide_eq_true_eq, in32]
      simp only [List.length_eq_zero_iff]
      constructor
      · rintro ⟨_, q1, q2, q3, q4, qt, q5, q6, q7, q8, q9, q10, q11, q12⟩
        have z : x.is = false := by rcases q2 with q | q; exact q; omega
        have z3 : x.d = [] := by rcases q7 with q | q; exact q; omega
        exact ⟨by omega, ⟨q1, z, by omega, by omega, by omega, z3⟩, ⟨by omega, q12⟩, q11, q8, q10⟩
      · rintro ⟨_, ⟨q1, q2, q3, q4, q5, q6⟩, ⟨q7, q8⟩, q9, q10, q11⟩
        exact ⟨by omega, q1, .inl q2, .inl q3, .inr (.inr g), .inr q7, .inl q4, .inl q5, .inl q6, q10, by omega, q11, q9, q8⟩
    · have e : p20 k = { pz with c := true } := by unfold p20; rw [if_neg (by omega), if_neg (by omega), if_neg (by omega), if_neg (by omega), if_neg (by omega), if_neg (by omega), if_pos g]
      rw [e, e2]
      simp only [pz, Bool.false_eq_true, if_false, false_or, true_or, true_and, decide_eq_true_eq, in32]
      simp only [List.length_eq_zero_iff]
      constructor
      · rintro ⟨_, q1, q2, q3, q4, _, q5, q6, q7, q8, q9, q10, q11, q12⟩
        have z : x.is = false := by rcases q2 with q | q; exact q; omega
        have z2 : x.ds = [] := by rcases q4 with q | q; exact q; omega
        have z3 : x.d = [] := by rcases q7 with q | q; exact q; omega
        exact ⟨by omega, ⟨q1, z, by omega, by omega, z3⟩, ⟨z2, q12⟩, q11, q8, q10⟩
      · rintro ⟨_, ⟨q1, q2, q3, q5, q6⟩, ⟨q7, q8⟩, q9, q10, q11⟩
        exact ⟨by omega, q1, .inl q2, .inl q3, .inl q7, by omega, .inr g, .inl q5, .inl q6, q10, by simp [q7], q11, q9, q8⟩
    · have e : p20 k = { pz with s := true } := by unfold p20; rw [if_neg (by omega), if_neg (by omega), if_neg (by omega), if_neg (by omega), if_neg (by omega), if_neg (by omega), if_neg (by omega), if_pos g]
      rw [e, e2]
      simp only [pz, Bool.false_eq_true, if_false, false_or, true_or, true_and, decide_eq_true_eq, in32]
      simp only [List.length_eq_zero_iff]
      constructor
      · rintro ⟨_, q1, q2, q3, q4, _, q5, q6, q7, q8, q9, q10, q11, q12⟩
        have z : x.is = false := by rcases q2 with q | q; exact q; omega
        have z2 : x.ds = [] := by rcases q4 with q | q; exact q; omega
        have z3 : x.d = [] := by rcases q7 with q | q; exact q; omega
        exact ⟨by omega, ⟨q1, z, by omega, by omega, z3⟩, ⟨z2, q12⟩, q11, q8, q10⟩
      · rintro ⟨_, ⟨q1, q2, q3, q4, q6⟩, ⟨q7, q8⟩, q9, q10, q11⟩
        exact ⟨by omega, q1, .inl q2, .inl q3, .inl q7, by omega, .inl q4, .inr g, .inl q6, q10, by simp [q7], q11, q9, q8⟩
    · have e : p20 k = { pz with d := true } := by unfold p20; rw [if_neg (by omega), if_neg (by omega), if_neg (by omega), if_neg (by omega), if_neg (by omega), if_neg (by omega), if_neg (by omega), if_neg (by omega), if_pos g]
      rw [e, e2]
      simp only [pz, Bool.false_eq_true, if_false, false_or, true_or, and_true, decide_eq_true_eq, in32]
      simp only [List.length_eq_zero_iff]
      constructor
      · rintro ⟨_, q1, q2, q3, q4, _, q5, q6, q7, q8, q9, q10, q11, q12⟩
        have z : x.is = false := by rcases q2 with q | q; exact q; omega
        have z2 : x.ds = [] := by rcases q4 with q | q; exact q; omega
        exact ⟨by omega, ⟨q1, z, by omega, by omega, by omega⟩, ⟨z2, q12⟩, q11, q8, q10⟩
      · rintro ⟨_, ⟨q1, q2, q3, q4, q5⟩, ⟨q7, q8⟩, q9, q10, q11⟩
        exact ⟨by omega, q1, .inl q2, .inl q3, .inl q7, by omega, .inl q4, .inl q5, .inr g, q10, by simp [q7], q11, q9, q8⟩
    · have e : p20 k = pz := by unfold p20; rw [if_neg (by omega), if_neg (by omega), if_neg (by omega), if_neg (by omega), if_neg (by omega), if_neg (by omega), if_neg (by omega), if_neg (by omega), if_neg (by omega)]
      rw [e, e2]
      simp only [pz, Bool.false_eq_true, if_false, false_or, decide_eq_true_eq, in32]
      simp only [List.length_eq_zero_iff]
      constructor
      · rintro ⟨_, q1, q2, q3, q4, _, q5, q6, q7, q8, q9, q10, q11, q12⟩
        have z : x.is = false := by rcases q2 with q | q; exact q; omega
        have z2 : x.ds = [] := by rcases q4 with q | q; exact q; omega
        have z3 : x.d = [] := by rcases q7 with q | q; exact q; omega
        exact ⟨by omega, ⟨q1, z, by omega, by omega, by omega, z3⟩, ⟨z2, q12⟩, q11, q8, q10⟩
      · rintro ⟨_, ⟨q1, q2, q3, q4, q5, q6⟩, ⟨q7, q8⟩, q9, q10, q11⟩
        exact ⟨by omega, q1, .inl q2, .inl q3, .inl q7, by omega, .inl q4, .inl q5, .inl q6, q10, by simp [q7], q11, q9, q8⟩
  · have hp : pe20 k x.err = pz := by unfold pe20; rw [if_neg he]
    have hb : pb20 k x.err = decide (0 < x.err ∧ x.err ≤ 255) := by unfold pb20; rw [if_neg he]
    rw [hp, hb]
    unfold all20 fit20 inr20 hold20
    rw [Bool.and_eq_true]
    simp only [pz, Bool.false_eq_true, if_false, false_or, decide_eq_true_eq, in32]
    simp only [List.length_eq_zero_iff]
    constructor
    · rintro (⟨_, q1, q2, q3, q4, q5, q6, q7, q8, q9⟩ | ⟨q, _⟩)
      · refine ⟨by omega, ⟨q3, q4, q5, q7, q8, q9⟩, ⟨q6, by simp [q6]⟩, by omega, by omega, by simp [q9]⟩
      · exact absurd q he
    · rintro ⟨q0, ⟨q1, q2, q3, q4, q5, q6⟩, ⟨q7, q8⟩, _⟩
      exact .inl ⟨he, by omega, by omega, q1, q2, q3, q7, q4, q5, q6⟩

theorem below20 {w : World} (o : Obj) : Below w.heap.size w (w.alloc o) := (Below.refl _ _).alloc (Nat.le_refl _) _

set_option maxRecDepth 100000 in
set_option maxHeartbeats 4000000 in
theorem parts_zero {k : Int} (h0 : 0 ≤ k) (h1 : k ≤ 17) (w : World) :
    Calls Tryd.prog 45 #[.int .i64 k, .int .i64 0] w fun e w' => e = .returned (.tuple #[(p20 k).v, .bool (decide (k ≠ 0))]) ∧ Below w.heap.size w w' := by
  rcases (by omega : k = 0 ∨ k = 1 ∨ k = 2 ∨ k = 3 ∨ k = 4 ∨ k = 5 ∨ k = 6 ∨ k = 7 ∨ k = 8 ∨ k = 9 ∨ k = 10 ∨ k = 11 ∨ k = 12 ∨ k = 13 ∨ k = 14 ∨ k = 15 ∨ k = 16 ∨ k = 17) with rfl | rfl | rfl | rfl | rfl | rfl | rfl | rfl | rfl | rfl | rfl | rfl | rfl | rfl | rfl | rfl | rfl | rfl
  all_goals
    clear h0 h1
    go_enter Tryd.func45, Tryd.ntmps45
    go_wp2_with fail
    go_returns
    exact ⟨rfl, below20 _⟩

set_option maxRecDepth 100000 in
set_option maxHeartbeats 4000000 in
theorem parts_ok {k e : Int} (h0 : 0 ≤ k) (h1 : k ≤ 17) (w : World) :
    Calls Tryd.prog 45 #[.int .i64 k, .int .i64 e] w fun r w' => r = .returned (.tuple #[(pe20 k e).v, .bool (pb20 k e)]) ∧ Below w.heap.size w w' := by
  by_cases he : e = 0
  · subst he
    have q := parts_zero h0 h1 w
    unfold pe20 pb20
    rw [if_pos rfl, if_pos rfl]
    exact q
  · unfold pe20 pb20
    rw [if_neg he, if_neg he]
    rcases (by omega : e < 0 ∨ (0 < e ∧ e ≤ 255) ∨ 255 < e) with g | g | g
    · have g1 : ¬ 0 < e := by omega
      have r : decide (0 < e ∧ e ≤ 255) = false := by simp; omega
      rw [r]
      clear h0 h1
      go_enter Tryd.func45, Tryd.ntmps45
      go_wp2_with fail
      go_returns
      exact ⟨rfl, below20 _⟩
    · have g1 : 0 < e := by omega
      have g2 : e ≤ 255 := by omega
      have r : decide (0 < e ∧ e ≤ 255) = true := by simp; omega
      rw [r]
      clear h0 h1 g
      go_enter Tryd.func45, Tryd.ntmps45
      go_wp2_with fail
      go_returns
      exact ⟨rfl, below20 _⟩
    · have g1 : 0 < e := by omega
      have g2 : ¬ e ≤ 255 := by omega
      have r : decide (0 < e ∧ e ≤ 255) = false := by simp; omega
      rw [r]
      clear h0 h1
      go_enter Tryd.func45, Tryd.ntmps45
      go_wp2_with fail
      go_returns
      exact ⟨rfl, below20 _⟩

end Go.Proofs.YtkopcfpghklbbaaDoor
