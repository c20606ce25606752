/- cmp's functions and the two comparers, walked. -/
import Derived.Sort.Grow
import Derived.Test.YtnlbpjppkfenkaaMem9
namespace Go.Proofs.Ytnlbpjppkfenkaa
open Go.RowKit Go.Sort
set_option linter.unusedVariables false

/-- One number against another one. -/
def cmpI (x y : Int) : Int := if x < y then -1 else if y < x then 1 else 0

set_option maxRecDepth 100000 in
set_option maxHeartbeats 1000000 in
theorem nan32_ok (z : Int) (w : World) : Calls Try.prog 33 #[.int .i32 z] w fun e w' => e = .returned (.bool false) ∧ w' = w := by
  go_enter Try.func33, Try.ntmps33
  go_wp2_with fail
  go_ret
  exact ⟨rfl, rfl⟩

set_option maxRecDepth 100000 in
set_option maxHeartbeats 1000000 in
theorem nan64_ok (z : Int) (w : World) : Calls Try.prog 34 #[.int .i64 z] w fun e w' => e = .returned (.bool false) ∧ w' = w := by
  go_enter Try.func34, Try.ntmps34
  go_wp2_with fail
  go_ret
  exact ⟨rfl, rfl⟩

set_option maxRecDepth 100000 in
set_option maxHeartbeats 1000000 in
theorem cmp32_ok (x y : Int) (w : World) : Calls Try.prog 25 #[.int .i32 x, .int .i32 y] w fun e w' => e = .returned (.int .i64 (cmpI x y)) ∧ w' = w := by
  have h1 := nan32_ok x w
  have h2 := nan32_ok y w
  by_cases t1 : x < y
  · have hr : Hid (cmpI x y = -1) := by unfold cmpI; rw [if_pos t1]; exact hid rfl
    have d1 : decide (x < y) = true := decide_eq_true t1
    clear t1
    go_enter Try.func25, Try.ntmps25
    go_wp2_with fail
    refine h1.mono ?_
    rintro e w1 ⟨rfl, rfl⟩
    go_wp2_with fail
    refine h2.mono ?_
    rintro e w2 ⟨rfl, rfl⟩
    go_wp2_with fail
    go_ret
    exact ⟨by rw [hr.out]; rfl, rfl⟩
  · have d1 : decide (x < y) = false := decide_eq_false t1
    by_cases t2 : y < x
    · have hr : Hid (cmpI x y = 1) := by unfold cmpI; rw [if_neg t1, if_pos t2]; exact hid rfl
      have d2 : decide (y < x) = true := decide_eq_true t2
      clear t1 t2
      go_enter Try.func25, Try.ntmps25
      go_wp2_with fail
      refine h1.mono ?_
      rintro e w1 ⟨rfl, rfl⟩
      go_wp2_with fail
      refine h2.mono ?_
      rintro e w2 ⟨rfl, rfl⟩
      go_wp2_with fail
      go_ret
      exact ⟨by rw [hr.out]; rfl, rfl⟩
    · have hr : Hid (cmpI x y = 0) := by unfold cmpI; rw [if_neg t1, if_neg t2]; exact hid rfl
      have d2 : decide (y < x) = false := decide_eq_false t2
      clear t1 t2
      go_enter Try.func25, Try.ntmps25
      go_wp2_with fail
      refine h1.mono ?_
      rintro e w1 ⟨rfl, rfl⟩
      go_wp2_with fail
      refine h2.mono ?_
      rintro e w2 ⟨rfl, rfl⟩
      go_wp2_with fail
      go_ret
      exact ⟨by rw [hr.out]; rfl, rfl⟩

set_option maxRecDepth 100000 in
set_option maxHeartbeats 1000000 in
theorem cmp64_ok (x y : Int) (w : World) : Calls Try.prog 26 #[.int .i64 x, .int .i64 y] w fun e w' => e = .returned (.int .i64 (cmpI x y)) ∧ w' = w := by
  have h1 := nan64_ok x w
  have h2 := nan64_ok y w
  by_cases t1 : x < y
  · have hr : Hid (cmpI x y = -1) := by unfold cmpI; rw [if_pos t1]; exact hid rfl
    have d1 : decide (x < y) = true := decide_eq_true t1
    clear t1
    go_enter Try.func26, Try.ntmps26
    go_wp2_with fail
    refine h1.mono ?_
    rintro e w1 ⟨rfl, rfl⟩
    go_wp2_with fail
    refine h2.mono ?_
    rintro e w2 ⟨rfl, rfl⟩
    go_wp2_with fail
    go_ret
    exact ⟨by rw [hr.out]; rfl, rfl⟩
  · have d1 : decide (x < y) = false := decide_eq_false t1
    by_cases t2 : y < x
    · have hr : Hid (cmpI x y = 1) := by unfold cmpI; rw [if_neg t1, if_pos t2]; exact hid rfl
      have d2 : decide (y < x) = true := decide_eq_true t2
      clear t1 t2
      go_enter Try.func26, Try.ntmps26
      go_wp2_with fail
      refine h1.mono ?_
      rintro e w1 ⟨rfl, rfl⟩
      go_wp2_with fail
      refine h2.mono ?_
      rintro e w2 ⟨rfl, rfl⟩
      go_wp2_with fail
      go_ret
      exact ⟨by rw [hr.out]; rfl, rfl⟩
    · have hr : Hid (cmpI x y = 0) := by unfold cmpI; rw [if_neg t1, if_neg t2]; exact hid rfl
      have d2 : decide (y < x) = false := decide_eq_false t2
      clear t1 t2
      go_enter Try.func26, Try.ntmps26
      go_wp2_with fail
      refine h1.mono ?_
      rintro e w1 ⟨rfl, rfl⟩
      go_wp2_with fail
      refine h2.mono ?_
      rintro e w2 ⟨rfl, rfl⟩
      go_wp2_with fail
      go_ret
      exact ⟨by rw [hr.out]; rfl, rfl⟩

/-- The first that is not 0. -/
def orI (x y : Int) : Int := if x = 0 then y else x

set_option maxRecDepth 100000 in
set_option maxHeartbeats 1000000 in
theorem or_ok (b : Nat) (x y : Int) (w : World) (h : Nums w b [x, y]) : Calls Try.prog 24 #[.slice (some ⟨b, 0, none⟩) 2 2] w fun e w' => e = .returned (.int .i64 (orI x y)) ∧ w' = w := by
  have c0 : w.cell? ⟨b, 0, none⟩ = some (.int .i64 x) := h.cell (j := 0) rfl
  have c1 : w.cell? ⟨b, 1, none⟩ = some (.int .i64 y) := h.cell (j := 1) rfl
  clear h
  by_cases hx : x = 0
  · subst hx
    have hr : Hid (orI 0 y = y) := by unfold orI; rw [if_pos rfl]; exact hid rfl
    by_cases hy : y = 0
    · subst hy
      go_enter Try.func24, Try.ntmps24
      go_wp2_with fail
      refine wp_loop_rounds 3 ?_
      rw [rounds_succ]
      go_wp2_with fail
      rw [rounds_succ]
      go_wp2_with fail
      rw [rounds_succ]
      go_wp2_with fail
      go_ret
      exact ⟨by rw [hr.out]; rfl, rfl⟩
    · have t2 : (y != 0) = true := by simp [hy]
      go_enter Try.func24, Try.ntmps24
      go_wp2_with fail
      refine wp_loop_rounds 2 ?_
      rw [rounds_succ]
      go_wp2_with fail
      rw [rounds_succ]
      go_wp2_with fail
      go_ret
      exact ⟨by rw [hr.out]; rfl, rfl⟩
  · have hr : Hid (orI x y = x) := by unfold orI; rw [if_neg hx]; exact hid rfl
    have t2 : (x != 0) = true := by simp [hx]
    go_enter Try.func24, Try.ntmps24
    go_wp2_with fail
    refine wp_loop_rounds 1 ?_
    rw [rounds_succ]
    go_wp2_with fail
    go_ret
    exact ⟨by rw [hr.out]; rfl, rfl⟩

/-- Ends and weight of the edge at a place. -/
def eA (l : List Ed) (i : Nat) : Nat := ((l[i]?.map Ed.a).getD 0).toNat
def eB (l : List Ed) (i : Nat) : Nat := ((l[i]?.map Ed.b).getD 0).toNat
def eW (l : List Ed) (i : Nat) : Int := (l[i]?.map Ed.w).getD 0

/-- What the comparer tells. -/
def cfR (l : List Ed) (a b : Nat) : Int := orI (cmpI (eW l a) (eW l b)) (cmpI (a : Int) (b : Int))

set_option maxRecDepth 100000 in
set_option maxHeartbeats 2000000 in
theorem rising1_ok (bx a b : Nat) (v : Value) (l : List Ed) (w : World) (hbx : w.cell? ⟨bx, 0, none⟩ = some v) (hv : EV w v l) (ha : a < l.length) (hb : b < l.length) :
    Calls Try.prog 23 #[.int .i64 (a : Int), .int .i64 (b : Int), .pointer (some ⟨bx, 0, none⟩)] w fun e w' => e = .returned (.int .i64 (cfR l a b)) ∧ ∃ q os, w' = grow (w.drewN q) os := by
  obtain ⟨ad, n, cap, rfl, he, _, _⟩ := hv
  have hl := he.len
  rw [hl] at ha hb
  obtain ⟨qa, hqa⟩ : ∃ q, l[a]? = some q := ⟨_, List.getElem?_eq_getElem (by omega)⟩
  obtain ⟨qb, hqb⟩ : ∃ q, l[b]? = some q := ⟨_, List.getElem?_eq_getElem (by omega)⟩
  obtain ⟨g, o, rfl, _, _, ca⟩ := he.cell a qa hqa
  obtain ⟨g', o', e', _, _, cb⟩ := he.cell b qb hqb
  simp only [Option.some.injEq, Addr.mk.injEq, and_true] at e'
  obtain ⟨rfl, rfl⟩ := e'
  have hcf : Hid (cfR l a b = orI (cmpI qa.w qb.w) (cmpI (a : Int) (b : Int))) := by unfold cfR eW; rw [hqa, hqb]; exact hid rfl
  generalize qa.w = wa at ca hcf
  generalize qb.w = wb at cb hcf
  have h1 := hid (fun y => cmp32_ok wa wb y)
  have h2 := hid (fun y => cmp64_ok (a : Int) (b : Int) y)
  obtain ⟨r1, hr1⟩ : ∃ r, cmpI wa wb = r := ⟨_, rfl⟩
  obtain ⟨r2, hr2⟩ : ∃ r, cmpI (a : Int) (b : Int) = r := ⟨_, rfl⟩
  rw [hr1] at h1 hcf
  rw [hr2] at h2 hcf
  clear hr1 hr2 he hl hqa hqb
  have i1 : (0 : Int) ≤ (a : Int) := by omega
  have i2 : (a : Int) < (n : Int) := by omega
  have i3 : (0 : Int) ≤ (b : Int) := by omega
  have i4 : (b : Int) < (n : Int) := by omega
  go_enter Try.func23, Try.ntmps23
  go_wp2_with fail
  go_region_held3 (fun y => y.cell? ⟨bx, 0, none⟩ = some (.slice (some ⟨g, o, none⟩) n cap) ∧ y.cell? ⟨g, o + a * 3 + 2, none⟩ = some (.int .i32 wa) ∧ y.cell? ⟨g, o + b * 3 + 2, none⟩ = some (.int .i32 wb)) (go_keep) ((first | (go_at_call 25; refine (h1.out _).mono ?_; rintro e w' ⟨rfl, rfl⟩) | (go_at_call 26; refine (h2.out _).mono ?_; rintro e w' ⟨rfl, rfl⟩) | (go_at_call 24; refine (or_ok w.heap.size r1 r2 _ (by exact nums2 w r1 r2)).mono ?_; rintro e w' ⟨rfl, rfl⟩)))
  go_wp2_with fail
  go_ret
  exact ⟨by rw [hcf.out]; rfl, 1, _, by rw [alloc_eq_grow]; rfl⟩

set_option maxRecDepth 100000 in
set_option maxHeartbeats 2000000 in
theorem most1_ok (bm bx a b : Nat) (v : Value) (l : List Ed) (w : World) (hbm : w.cell? ⟨bm, 0, none⟩ = some (.func (.func 23) #[] #[.pointer (some ⟨bx, 0, none⟩)])) (hbx : w.cell? ⟨bx, 0, none⟩ = some v) (hv : EV w v l) (ha : a < l.length) (hb : b < l.length) :
    Calls Try.prog 18 #[.int .i64 (a : Int), .int .i64 (b : Int), .pointer (some ⟨bm, 0, none⟩)] w fun e w' => e = .returned (.int .i64 (cfR l b a)) ∧ ∃ q os, w' = grow (w.drewN q) os := by
  have h := hid (rising1_ok bx b a v l w hbx hv hb ha)
  clear hbx hv ha hb
  go_enter Try.func18, Try.ntmps18
  go_wp2_with fail
  refine h.out.mono ?_
  rintro e w1 ⟨rfl, q, os, rfl⟩
  go_wp2_with fail
  go_ret
  exact ⟨rfl, q, os, rfl⟩

end Go.Proofs.Ytnlbpjppkfenkaa
