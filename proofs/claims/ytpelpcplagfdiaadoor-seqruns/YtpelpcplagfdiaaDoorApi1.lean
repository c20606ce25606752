/- The calls of a Forest that ask nothing of a closure. -/
import Derived.Test.YtpelpcplagfdiaaDoorState4
namespace Go.Proofs.YtpelpcplagfdiaaDoor
open Go.RowKit
set_option linter.unusedVariables false

/-- What a node at the top, settled, tells. -/
theorem Gd.split {N : Nat} {T : Tb} {v : Nat → Int} {sub seq : Nat → List Nat} (h : Gd N T v sub seq) {x : Nat} (hx : x ≠ 0) (hu : (T x).up = 0) (ht : (T x).t = false) : seq x = sub (T x).l ++ x :: sub (T x).r := by
  have := h.inv.eqn x hx false
  rw [ht] at this
  rw [h.inv.root x hx hu]
  exact this

theorem cutS_nil {N : Nat} {T : Tb} {v : Nat → Int} {sub seq : Nat → List Nat} (h : Gd N T v sub seq) {x : Nat} {B : List Nat} (hx : x ≠ 0) (e : seq x = x :: B) : cutS seq [] x B = seq := by
  funext y
  unfold cutS
  rw [if_neg (by simp)]
  split
  · next hm => rw [← e] at hm ⊢; exact (h.mem_seq hx hm).1.symm
  · rfl

set_option maxRecDepth 100000 in
set_option maxHeartbeats 1000000 in
theorem FS.size_bad {lo fb n : Nat} {w w0 : World} {v : Nat → Int} {seq : Nat → List Nat} (h : FS lo w fb n v seq w0) (x : Int) (hx : ¬ (0 ≤ x ∧ x < (n : Int))) :
    Calls Tryd.prog 30 #[.pointer (some ⟨fb, 0, none⟩), .int .i64 x] w0 fun e w' => e = .returned (.tuple #[.int .i64 0, (.iface 50 (.int .i64 12))]) ∧ FS lo w fb n v seq w' ∧ Keep w0 w' := by
  have hb := hid (h.bad1 x hx)
  have ha := hid (h.alloc (.cells #[.int .i64 x] 3))
  have hk := hid ((Keep.refl w0).alloc (.cells #[.int .i64 x] 3))
  clear h hx
  go_enter Tryd.func30, Tryd.ntmps30
  go_wp2_with fail
  refine hb.out.mono ?_
  rintro e w' ⟨rfl, rfl⟩
  go_wp2_with fail
  go_ret2
  exact ⟨rfl, ha.out, hk.out⟩

set_option maxRecDepth 100000 in
set_option maxHeartbeats 1000000 in
theorem size_nil (x : Int) (w0 : World) :
    Calls Tryd.prog 30 #[.pointer none, .int .i64 x] w0 fun e w' => e = .returned (.tuple #[.int .i64 0, (.iface 50 (.int .i64 1))]) ∧ Below w0.heap.size w0 w' := by
  go_enter Tryd.func30, Tryd.ntmps30
  go_wp2_with fail
  refine (look_nil _ _).mono ?_
  rintro e w' ⟨rfl, rfl⟩
  go_wp2_with fail
  go_ret2
  exact ⟨rfl, (Below.refl _ _).alloc (Nat.le_refl _) _⟩

set_option maxRecDepth 100000 in
set_option maxHeartbeats 1000000 in
theorem FS.rank_bad {lo fb n : Nat} {w w0 : World} {v : Nat → Int} {seq : Nat → List Nat} (h : FS lo w fb n v seq w0) (x : Int) (hx : ¬ (0 ≤ x ∧ x < (n : Int))) :
    Calls Tryd.prog 29 #[.pointer (some ⟨fb, 0, none⟩), .int .i64 x] w0 fun e w' => e = .returned (.tuple #[.int .i64 0, (.iface 50 (.int .i64 12))]) ∧ FS lo w fb n v seq w' ∧ Keep w0 w' := by
  have hb := hid (h.bad1 x hx)
  have ha := hid (h.alloc (.cells #[.int .i64 x] 3))
  have hk := hid ((Keep.refl w0).alloc (.cells #[.int .i64 x] 3))
  clear h hx
  go_enter Tryd.func29, Tryd.ntmps29
  go_wp2_with fail
  refine hb.out.mono ?_
  rintro e w' ⟨rfl, rfl⟩
  go_wp2_with fail
  go_ret2
  exact ⟨rfl, ha.out, hk.out⟩

set_option maxRecDepth 100000 in
set_option maxHeartbeats 1000000 in
theorem rank_nil (x : Int) (w0 : World) :
    Calls Tryd.prog 29 #[.pointer none, .int .i64 x] w0 fun e w' => e = .returned (.tuple #[.int .i64 0, (.iface 50 (.int .i64 1))]) ∧ Below w0.heap.size w0 w' := by
  go_enter Tryd.func29, Tryd.ntmps29
  go_wp2_with fail
  refine (look_nil _ _).mono ?_
  rintro e w' ⟨rfl, rfl⟩
  go_wp2_with fail
  go_ret2
  exact ⟨rfl, (Below.refl _ _).alloc (Nat.le_refl _) _⟩

set_option maxRecDepth 100000 in
set_option maxHeartbeats 1000000 in
theorem FS.sum_bad {lo fb n : Nat} {w w0 : World} {v : Nat → Int} {seq : Nat → List Nat} (h : FS lo w fb n v seq w0) (x : Int) (hx : ¬ (0 ≤ x ∧ x < (n : Int))) :
    Calls Tryd.prog 31 #[.pointer (some ⟨fb, 0, none⟩), .int .i64 x] w0 fun e w' => e = .returned (.tuple #[.int .i64 0, (.iface 50 (.int .i64 12))]) ∧ FS lo w fb n v seq w' ∧ Keep w0 w' := by
  have hb := hid (h.bad1 x hx)
  have ha := hid (h.alloc (.cells #[.int .i64 x] 3))
  have hk := hid ((Keep.refl w0).alloc (.cells #[.int .i64 x] 3))
  clear h hx
  go_enter Tryd.func31, Tryd.ntmps31
  go_wp2_with fail
  refine hb.out.mono ?_
  rintro e w' ⟨rfl, rfl⟩
  go_wp2_with fail
  go_ret2
  exact ⟨rfl, ha.out, hk.out⟩

set_option maxRecDepth 100000 in
set_option maxHeartbeats 1000000 in
theorem sum_nil (x : Int) (w0 : World) :
    Calls Tryd.prog 31 #[.pointer none, .int .i64 x] w0 fun e w' => e = .returned (.tuple #[.int .i64 0, (.iface 50 (.int .i64 1))]) ∧ Below w0.heap.size w0 w' := by
  go_enter Tryd.func31, Tryd.ntmps31
  go_wp2_with fail
  refine (look_nil _ _).mono ?_
  rintro e w' ⟨rfl, rfl⟩
  go_wp2_with fail
  go_ret2
  exact ⟨rfl, (Below.refl _ _).alloc (Nat.le_refl _) _⟩

set_option maxRecDepth 100000 in
set_option maxHeartbeats 1000000 in
theorem FS.cut_bad {lo fb n : Nat} {w w0 : World} {v : Nat → Int} {seq : Nat → List Nat} (h : FS lo w fb n v seq w0) (x : Int) (hx : ¬ (0 ≤ x ∧ x < (n : Int))) :
    Calls Tryd.prog 9 #[.pointer (some ⟨fb, 0, none⟩), .int .i64 x] w0 fun e w' => e = .returned (.tuple #[.bool false, (.iface 50 (.int .i64 12))]) ∧ FS lo w fb n v seq w' ∧ Keep w0 w' := by
  have hb := hid (h.bad1 x hx)
  have ha := hid (h.alloc (.cells #[.int .i64 x] 3))
  have hk := hid ((Keep.refl w0).alloc (.cells #[.int .i64 x] 3))
  clear h hx
  go_enter Tryd.func9, Tryd.ntmps9
  go_wp2_with fail
  refine hb.out.mono ?_
  rintro e w' ⟨rfl, rfl⟩
  go_wp2_with fail
  go_ret2
  exact ⟨rfl, ha.out, hk.out⟩

set_option maxRecDepth 100000 in
set_option maxHeartbeats 1000000 in
theorem cut_nil (x : Int) (w0 : World) :
    Calls Tryd.prog 9 #[.pointer none, .int .i64 x] w0 fun e w' => e = .returned (.tuple #[.bool false, (.iface 50 (.int .i64 1))]) ∧ Below w0.heap.size w0 w' := by
  go_enter Tryd.func9, Tryd.ntmps9
  go_wp2_with fail
  refine (look_nil _ _).mono ?_
  rintro e w' ⟨rfl, rfl⟩
  go_wp2_with fail
  go_ret2
  exact ⟨rfl, (Below.refl _ _).alloc (Nat.le_refl _) _⟩

set_option maxRecDepth 100000 in
set_option maxHeartbeats 1000000 in
theorem FS.reverse_bad {lo fb n : Nat} {w w0 : World} {v : Nat → Int} {seq : Nat → List Nat} (h : FS lo w fb n v seq w0) (x : Int) (hx : ¬ (0 ≤ x ∧ x < (n : Int))) :
    Calls Tryd.prog 12 #[.pointer (some ⟨fb, 0, none⟩), .int .i64 x] w0 fun e w' => e = .returned ((.iface 50 (.int .i64 12))) ∧ FS lo w fb n v seq w' ∧ Keep w0 w' := by
  have hb := hid (h.bad1 x hx)
  have ha := hid (h.alloc (.cells #[.int .i64 x] 3))
  have hk := hid ((Keep.refl w0).alloc (.cells #[.int .i64 x] 3))
  clear h hx
  go_enter Tryd.func12, Tryd.ntmps12
  go_wp2_with fail
  refine hb.out.mono ?_
  rintro e w' ⟨rfl, rfl⟩
  go_wp2_with fail
  go_ret
  exact ⟨rfl, ha.out, hk.out⟩

set_option maxRecDepth 100000 in
set_option maxHeartbeats 1000000 in
theorem reverse_nil (x : Int) (w0 : World) :
    Calls Tryd.prog 12 #[.pointer none, .int .i64 x] w0 fun e w' => e = .returned ((.iface 50 (.int .i64 1))) ∧ Below w0.heap.size w0 w' := by
  go_enter Tryd.func12, Tryd.ntmps12
  go_wp2_with fail
  refine (look_nil _ _).mono ?_
  rintro e w' ⟨rfl, rfl⟩
  go_wp2_with fail
  go_ret
  exact ⟨rfl, (Below.refl _ _).alloc (Nat.le_refl _) _⟩

set_option maxRecDepth 100000 in
set_option maxHeartbeats 1000000 in
theorem FS.set_bad {lo fb n : Nat} {w w0 : World} {v : Nat → Int} {seq : Nat → List Nat} (h : FS lo w fb n v seq w0) (x : Int) (z : Int) (hx : ¬ (0 ≤ x ∧ x < (n : Int))) :
    Calls Tryd.prog 13 #[.pointer (some ⟨fb, 0, none⟩), .int .i64 x, .int .i64 z] w0 fun e w' => e = .returned ((.iface 50 (.int .i64 12))) ∧ FS lo w fb n v seq w' ∧ Keep w0 w' := by
  have hb := hid (h.bad1 x hx)
  have ha := hid (h.alloc (.cells #[.int .i64 x] 3))
  have hk := hid ((Keep.refl w0).alloc (.cells #[.int .i64 x] 3))
  clear h hx
  go_enter Tryd.func13, Tryd.ntmps13
  go_wp2_with fail
  refine hb.out.mono ?_
  rintro e w' ⟨rfl, rfl⟩
  go_wp2_with fail
  go_ret
  exact ⟨rfl, ha.out, hk.out⟩

set_option maxRecDepth 100000 in
set_option maxHeartbeats 1000000 in
theorem set_nil (x : Int) (z : Int) (w0 : World) :
    Calls Tryd.prog 13 #[.pointer none, .int .i64 x, .int .i64 z] w0 fun e w' => e = .returned ((.iface 50 (.int .i64 1))) ∧ Below w0.heap.size w0 w' := by
  go_enter Tryd.func13, Tryd.ntmps13
  go_wp2_with fail
  refine (look_nil _ _).mono ?_
  rintro e w' ⟨rfl, rfl⟩
  go_wp2_with fail
  go_ret
  exact ⟨rfl, (Below.refl _ _).alloc (Nat.le_refl _) _⟩

set_option maxRecDepth 100000 in
set_option maxHeartbeats 1000000 in
theorem FS.same_bad {lo fb n : Nat} {w w0 : World} {v : Nat → Int} {seq : Nat → List Nat} (h : FS lo w fb n v seq w0) (x y : Int) (hx : ¬ ((0 ≤ x ∧ x < (n : Int)) ∧ (0 ≤ y ∧ y < (n : Int)))) :
    Calls Tryd.prog 6 #[.pointer (some ⟨fb, 0, none⟩), .int .i64 x, .int .i64 y] w0 fun e w' => e = .returned (.tuple #[.bool false, (.iface 50 (.int .i64 12))]) ∧ FS lo w fb n v seq w' ∧ Keep w0 w' := by
  have hb := hid (h.bad2 x y hx)
  have ha := hid (h.alloc (.cells #[.int .i64 x, .int .i64 y] 3))
  have hk := hid ((Keep.refl w0).alloc (.cells #[.int .i64 x, .int .i64 y] 3))
  clear h hx
  go_enter Tryd.func6, Tryd.ntmps6
  go_wp2_with fail
  refine hb.out.mono ?_
  rintro e w' ⟨rfl, rfl⟩
  go_wp2_with fail
  go_ret2
  exact ⟨rfl, ha.out, hk.out⟩

set_option maxRecDepth 100000 in
set_option maxHeartbeats 1000000 in
theorem same_nil (x y : Int) (w0 : World) :
    Calls Tryd.prog 6 #[.pointer none, .int .i64 x, .int .i64 y] w0 fun e w' => e = .returned (.tuple #[.bool false, (.iface 50 (.int .i64 1))]) ∧ Below w0.heap.size w0 w' := by
  go_enter Tryd.func6, Tryd.ntmps6
  go_wp2_with fail
  refine (look_nil _ _).mono ?_
  rintro e w' ⟨rfl, rfl⟩
  go_wp2_with fail
  go_ret2
  exact ⟨rfl, (Below.refl _ _).alloc (Nat.le_refl _) _⟩

set_option maxRecDepth 100000 in
set_option maxHeartbeats 1000000 in
theorem FS.sizeH {lo fb n : Nat} {w w0 : World} {v : Nat → Int} {seq : Nat → List Nat} (h : FS lo w fb n v seq w0) (x : Nat) (hx : x < n) :
    Calls Tryd.prog 30 #[.pointer (some ⟨fb, 0, none⟩), .int .i64 (x : Int)] w0 fun e w' => e = .returned (.tuple #[.int .i64 ((seq (x + 1)).length : Int), .nilIface]) ∧ ∃ nb N T sub, HS lo w w0 fb n nb N T v sub seq w' ∧ x + 1 < N := by
  have hl := hid (h.look1 x hx)
  clear h
  go_enter Tryd.func30, Tryd.ntmps30
  go_wp2_with fail
  refine hl.out.mono ?_
  rintro e w1 ⟨rfl, nb, N, T, sub, h1, hxN⟩
  have h1 := hid h1
  clear hl
  go_wp2_with fail
  refine (h1.out.top x hxN).mono ?_
  rintro e w2 ⟨rfl, T2, sub2, h2, m2, u2, t2⟩
  have h2 := hid h2
  have m2 := hid m2
  have u2 := hid u2
  have t2 := hid t2
  clear h1
  rw [show ((x + 1 : Nat) : Int) = ((x + 1 : Nat) : Int) from rfl]
  obtain ⟨X, hX⟩ : ∃ X, x + 1 = X := ⟨_, rfl⟩
  have hXh := hid hX
  rw [hX] at hxN u2 t2 m2
  rw [hX]
  have hX0 : X ≠ 0 := by omega
  clear hX
  go_wp2_with fail
  refine (size_ok fb nb n N X T2 v sub2 seq _ h2.out.fo h2.out.gd hxN).mono ?_
  rintro e w3 ⟨rfl, rfl⟩
  have e1 := hid (h2.out.gd.inv.root X hX0 u2.out)
  go_wp2_with fail
  go_ret2
  exact ⟨by rw [hXh.out, e1.out]; rfl, nb, N, T2, sub2, h2.out, by rw [hXh.out]; exact hxN⟩

theorem FS.size {lo fb n : Nat} {w w0 : World} {v : Nat → Int} {seq : Nat → List Nat} (h : FS lo w fb n v seq w0) (x : Nat) (hx : x < n) :
    Calls Tryd.prog 30 #[.pointer (some ⟨fb, 0, none⟩), .int .i64 (x : Int)] w0 fun e w' => e = .returned (.tuple #[.int .i64 ((seq (x + 1)).length : Int), .nilIface]) ∧ FS lo w fb n v seq w' ∧ Keep w0 w' := by
  refine (h.sizeH x hx).mono ?_
  rintro e w' ⟨rfl, nb, N, T, sub, h1, _⟩
  exact ⟨rfl, h1.end_, h1.keep⟩

set_option maxRecDepth 100000 in
set_option maxHeartbeats 1000000 in
theorem FS.rank {lo fb n : Nat} {w w0 : World} {v : Nat → Int} {seq : Nat → List Nat} (h : FS lo w fb n v seq w0) (x : Nat) (hx : x < n) :
    Calls Tryd.prog 29 #[.pointer (some ⟨fb, 0, none⟩), .int .i64 (x : Int)] w0 fun e w' => ∃ A B, seq (x + 1) = A ++ (x + 1) :: B ∧ e = .returned (.tuple #[.int .i64 (A.length : Int), .nilIface]) ∧ FS lo w fb n v seq w' ∧ Keep w0 w' := by
  have hl := hid (h.look1 x hx)
  clear h
  go_enter Tryd.func29, Tryd.ntmps29
  go_wp2_with fail
  refine hl.out.mono ?_
  rintro e w1 ⟨rfl, nb, N, T, sub, h1, hxN⟩
  have h1 := hid h1
  clear hl
  go_wp2_with fail
  refine (h1.out.top x hxN).mono ?_
  rintro e w2 ⟨rfl, T2, sub2, h2, m2, u2, t2⟩
  have h2 := hid h2
  have m2 := hid m2
  have u2 := hid u2
  have t2 := hid t2
  clear h1
  rw [show ((x + 1 : Nat) : Int) = ((x + 1 : Nat) : Int) from rfl]
  obtain ⟨X, hX⟩ : ∃ X, x + 1 = X := ⟨_, rfl⟩
  have hXh := hid hX
  rw [hX] at hxN u2 t2 m2
  rw [hX]
  have hX0 : X ≠ 0 := by omega
  clear hX
  go_wp2_with fail
  refine (leads_ok fb nb n N X T2 v sub2 seq _ h2.out.fo h2.out.gd hxN).mono ?_
  rintro e w3 ⟨rfl, rfl⟩
  have e1 := hid (h2.out.gd.split hX0 u2.out t2.out)
  go_wp2_with fail
  go_ret2
  exact ⟨_, _, by rw [hXh.out]; exact e1.out, rfl, h2.out.end_, h2.out.keep⟩

set_option maxRecDepth 100000 in
set_option maxHeartbeats 1000000 in
theorem FS.cut {lo fb n : Nat} {w w0 : World} {v : Nat → Int} {seq : Nat → List Nat} (h : FS lo w fb n v seq w0) (x : Nat) (hx : x < n) :
    Calls Tryd.prog 9 #[.pointer (some ⟨fb, 0, none⟩), .int .i64 (x : Int)] w0 fun e w' => ∃ A B, seq (x + 1) = A ++ (x + 1) :: B ∧ e = .returned (.tuple #[.bool (!A.isEmpty), .nilIface]) ∧ FS lo w fb n v (cutS seq A (x + 1) B) w' ∧ Keep w0 w' := by
  have hl := hid (h.look1 x hx)
  clear h
  go_enter Tryd.func9, Tryd.ntmps9
  go_wp2_with fail
  refine hl.out.mono ?_
  rintro e w1 ⟨rfl, nb, N, T, sub, h1, hxN⟩
  have h1 := hid h1
  clear hl
  go_wp2_with fail
  refine (h1.out.top x hxN).mono ?_
  rintro e w2 ⟨rfl, T2, sub2, h2, m2, u2, t2⟩
  have h2 := hid h2
  have m2 := hid m2
  have u2 := hid u2
  have t2 := hid t2
  clear h1
  rw [show ((x + 1 : Nat) : Int) = ((x + 1 : Nat) : Int) from rfl]
  obtain ⟨X, hX⟩ : ∃ X, x + 1 = X := ⟨_, rfl⟩
  have hXh := hid hX
  rw [hX] at hxN u2 t2 m2
  rw [hX]
  have hX0 : X ≠ 0 := by omega
  clear hX
  have e1 := hid (h2.out.gd.split hX0 u2.out t2.out)
  by_cases hL : (T2 X).l = 0
  · go_wp2_with fail
    refine (shed_no fb nb n N X T2 _ h2.out.fo hxN hL).mono ?_
    rintro e w3 ⟨rfl, rfl⟩
    have hLh := hid hL
    clear hL
    go_wp2_with fail
    go_ret2
    have e2 := e1.out
    rw [hLh.out, h2.out.gd.inv.sub0] at e2
    refine ⟨[], _, by rw [hXh.out]; exact e2, rfl, ?_, h2.out.keep⟩
    rw [hXh.out, cutS_nil h2.out.gd hX0 e2]
    exact h2.out.end_
  · have hLN := h2.out.gd.l_lt X
    have i2 := h2.out.gd.inv
    obtain ⟨sub3, g3⟩ := h2.out.gd.shed hX0 u2.out t2.out hxN rfl rfl hL
    have g3 := hid g3
    have hLh := hid hL
    have nl := hid (i2.kid_ne hX0 false)
    have nr := hid (i2.kid_ne hX0 true)
    clear hL i2
    go_wp2_with fail
    refine (shed_yes fb nb n N X _ T2 _ h2.out.fo hxN rfl hLh.out hLN nl.out (h2.out.gd.r_lt X) nr.out hX0).mono ?_
    rintro e w3 ⟨rfl, f3, t3⟩
    have h3 := hid (h2.out.turn f3 g3.out t3)
    clear f3 t3
    go_wp2_with fail
    go_ret2
    refine ⟨_, _, by rw [hXh.out]; exact e1.out, ?_, by rw [hXh.out]; exact h3.out.end_, h3.out.keep⟩
    have : (sub2 (T2 X).l).isEmpty = false := by
      have := h2.out.gd.inv.self hLh.out
      cases hs : sub2 (T2 X).l with
      | nil => rw [hs] at this; cases this
      | cons _ _ => rfl
    rw [this]; rfl

set_option maxRecDepth 100000 in
set_option maxHeartbeats 1000000 in
theorem FS.reverse {lo fb n : Nat} {w w0 : World} {v : Nat → Int} {seq : Nat → List Nat} (h : FS lo w fb n v seq w0) (x : Nat) (hx : x < n) :
    Calls Tryd.prog 12 #[.pointer (some ⟨fb, 0, none⟩), .int .i64 (x : Int)] w0 fun e w' => e = .returned .nilIface ∧ FS lo w fb n v (revS seq (x + 1)) w' ∧ Keep w0 w' := by
  have hl := hid (h.look1 x hx)
  clear h
  go_enter Tryd.func12, Tryd.ntmps12
  go_wp2_with fail
  refine hl.out.mono ?_
  rintro e w1 ⟨rfl, nb, N, T, sub, h1, hxN⟩
  have h1 := hid h1
  clear hl
  go_wp2_with fail
  refine (h1.out.top x hxN).mono ?_
  rintro e w2 ⟨rfl, T2, sub2, h2, m2, u2, t2⟩
  have h2 := hid h2
  have m2 := hid m2
  have u2 := hid u2
  have t2 := hid t2
  clear h1
  rw [show ((x + 1 : Nat) : Int) = ((x + 1 : Nat) : Int) from rfl]
  obtain ⟨X, hX⟩ : ∃ X, x + 1 = X := ⟨_, rfl⟩
  have hXh := hid hX
  rw [hX] at hxN u2 t2 m2
  rw [hX]
  have hX0 : X ≠ 0 := by omega
  clear hX
  obtain ⟨sub3, g3⟩ := h2.out.gd.turn hX0 u2.out hxN
  have g3 := hid g3
  go_wp2_with fail
  refine (turn_ok fb nb n N X T2 _ h2.out.fo hxN).mono ?_
  rintro e w3 ⟨rfl, f3, t3⟩
  have h3 := hid (h2.out.turn f3 g3.out t3)
  clear f3 t3
  go_wp2_with fail
  go_ret
  exact ⟨rfl, by rw [hXh.out]; exact h3.out.end_, h3.out.keep⟩

set_option maxRecDepth 100000 in
set_option maxHeartbeats 1000000 in
theorem FS.set {lo fb n : Nat} {w w0 : World} {v : Nat → Int} {seq : Nat → List Nat} (h : FS lo w fb n v seq w0) (x : Nat) (hx : x < n) (z : Int) :
    Calls Tryd.prog 13 #[.pointer (some ⟨fb, 0, none⟩), .int .i64 (x : Int), .int .i64 z] w0 fun e w' => e = .returned .nilIface ∧ FS lo w fb n (setV v (x + 1) z) seq w' ∧ Keep w0 w' := by
  have hl := hid (h.look1 x hx)
  clear h
  go_enter Tryd.func13, Tryd.ntmps13
  go_wp2_with fail
  refine hl.out.mono ?_
  rintro e w1 ⟨rfl, nb, N, T, sub, h1, hxN⟩
  have h1 := hid h1
  clear hl
  go_wp2_with fail
  refine (h1.out.top x hxN).mono ?_
  rintro e w2 ⟨rfl, T2, sub2, h2, m2, u2, t2⟩
  have h2 := hid h2
  have m2 := hid m2
  have u2 := hid u2
  have t2 := hid t2
  clear h1
  rw [show ((x + 1 : Nat) : Int) = ((x + 1 : Nat) : Int) from rfl]
  obtain ⟨X, hX⟩ : ∃ X, x + 1 = X := ⟨_, rfl⟩
  have hXh := hid hX
  rw [hX] at hxN u2 t2 m2
  rw [hX]
  have hX0 : X ≠ 0 := by omega
  clear hX
  have hbig := h2.out.fo.big
  have c1 := h2.out.fo.c1
  have cv := h2.out.fo.v hxN
  have fv := h2.out.fo.fro (X * 9)
  have q1 : (0 : Int) ≤ (X : Int) := by omega
  have q2 : (X : Int) < (N : Int) := by omega
  obtain ⟨sub3, g3⟩ := h2.out.gd.setv hX0 u2.out hxN z
  have g3 := hid g3
  have hs : Hid (Fo (w2.setCell ⟨nb, X * 9, none⟩ (.int .i64 z)) fb nb n N (upd T2 X { T2 X with v := z })) := hid (h2.out.fo.set 0 { T2 X with v := z } hxN (by decide) rfl)
  have ts := hid ((Turned.refl (fun k => k = nb) w2).setCell (p := ⟨nb, X * 9, none⟩) rfl (.int .i64 z))
  go_upto_region 6 with fail
  generalize w2.setCell ⟨nb, X * 9, none⟩ (.int .i64 z) = w3 at hs ts ⊢
  clear c1 cv fv
  go_wp2_with fail
  refine (tally_ok fb nb n N X _ _ hs.out hxN (by rw [upd_same]; exact h2.out.gd.l_lt X) (by rw [upd_same]; exact h2.out.gd.r_lt X) (by rw [upd_same]; exact h2.out.gd.inv.kid_ne hX0 false) (by rw [upd_same]; exact h2.out.gd.inv.kid_ne hX0 true)).mono ?_
  rintro e w4 ⟨rfl, f4, t4⟩
  have h4 := hid (h2.out.turn f4 g3.out (ts.out.trans t4))
  clear f4 t4
  go_wp2_with fail
  go_ret
  exact ⟨rfl, by rw [hXh.out]; exact h4.out.end_, h4.out.keep⟩

set_option maxRecDepth 100000 in
set_option maxHeartbeats 1000000 in
theorem FS.sameH {lo fb n : Nat} {w w0 : World} {v : Nat → Int} {seq : Nat → List Nat} (h : FS lo w fb n v seq w0) (x y : Nat) (hx : x < n) (hy : y < n) :
    Calls Tryd.prog 6 #[.pointer (some ⟨fb, 0, none⟩), .int .i64 (x : Int), .int .i64 (y : Int)] w0 fun e w' => e = .returned (.tuple #[.bool (decide (seq (x + 1) = seq (y + 1))), .nilIface]) ∧ ∃ nb N T sub, HS lo w w0 fb n nb N T v sub seq w' ∧ x + 1 < N ∧ y + 1 < N := by
  have hl := hid (h.look2 x y hx hy)
  clear h
  go_enter Tryd.func6, Tryd.ntmps6
  go_wp2_with fail
  refine hl.out.mono ?_
  rintro e w1 ⟨rfl, nb, N, T, sub, h1, hxN, hyN⟩
  have h1 := hid h1
  clear hl
  go_wp2_with fail
  refine (h1.out.top x hxN).mono ?_
  rintro e w2 ⟨rfl, T2, sub2, h2, m2, u2, t2⟩
  have h2 := hid h2
  have u2 := hid u2
  clear h1 m2 t2
  obtain ⟨X, hX⟩ : ∃ X, x + 1 = X := ⟨_, rfl⟩
  obtain ⟨Y, hY⟩ : ∃ Y, y + 1 = Y := ⟨_, rfl⟩
  have hXY := hid (And.intro hX hY)
  have htop := hid (h2.out.top y hyN)
  rw [hX] at hxN u2
  rw [hY] at hyN htop
  rw [hX]
  have hX0 : X ≠ 0 := by omega
  have hY0 : Y ≠ 0 := by omega
  have q1 : (0 : Int) ≤ (X : Int) := by omega
  have q2 : (X : Int) < (N : Int) := by omega
  have hbig := h2.out.fo.big
  clear hX hY
  go_wp2_with fail
  refine htop.out.mono ?_
  rintro e w3 ⟨rfl, T3, sub3, h3, m3, u3, t3⟩
  have h3 := hid h3
  have m3 := hid m3
  have u3 := hid u3
  by_cases e1 : X = Y
  · subst e1
    clear htop t3
    go_wp2_with fail
    go_ret2
    exact ⟨by rw [hXY.out.1, hXY.out.2]; simp, nb, N, T3, sub3, h3.out, by rw [hXY.out.1]; exact hxN, by rw [hXY.out.2]; exact hyN⟩
  · have tt : ((X : Int) == (Y : Int)) = false := by simp; omega
    have c1 := h3.out.fo.c1
    have cu := h3.out.fo.up hxN
    by_cases e2 : seq X = seq Y
    · have hu : (T3 X).up ≠ 0 := by
        have hm : X ∈ sub3 Y := by
          rw [← h3.out.gd.inv.root Y hY0 u3.out, ← e2]
          exact h3.out.gd.self hX0
        exact h3.out.gd.inv.sub_up hY0 hm e1
      obtain ⟨U, hU⟩ : ∃ U, (T3 X).up = U := ⟨_, rfl⟩
      rw [hU] at hu cu
      have tu : ((U : Int) != 0) = true := by simp; omega
      have e2h := hid e2
      clear htop t3 hU e1 e2
      go_wp2_with fail
      go_ret2
      exact ⟨by rw [hXY.out.1, hXY.out.2, decide_eq_true e2h.out]; rfl, nb, N, T3, sub3, h3.out, by rw [hXY.out.1]; exact hxN, by rw [hXY.out.2]; exact hyN⟩
    · have hu : (T3 X).up = 0 := by rw [(m3.out.fr X (fun _ => e2)).1]; exact u2.out
      rw [hu] at cu
      have e2h := hid e2
      clear htop t3 hu e1 e2
      go_wp2_with fail
      go_ret2
      exact ⟨by rw [hXY.out.1, hXY.out.2, decide_eq_false e2h.out]; rfl, nb, N, T3, sub3, h3.out, by rw [hXY.out.1]; exact hxN, by rw [hXY.out.2]; exact hyN⟩

theorem FS.same {lo fb n : Nat} {w w0 : World} {v : Nat → Int} {seq : Nat → List Nat} (h : FS lo w fb n v seq w0) (x y : Nat) (hx : x < n) (hy : y < n) :
    Calls Tryd.prog 6 #[.pointer (some ⟨fb, 0, none⟩), .int .i64 (x : Int), .int .i64 (y : Int)] w0 fun e w' => e = .returned (.tuple #[.bool (decide (seq (x + 1) = seq (y + 1))), .nilIface]) ∧ FS lo w fb n v seq w' ∧ Keep w0 w' := by
  refine (h.sameH x y hx hy).mono ?_
  rintro e w' ⟨rfl, nb, N, T, sub, h1, _⟩
  exact ⟨rfl, h1.end_, h1.keep⟩

set_option maxRecDepth 100000 in
set_option maxHeartbeats 1000000 in
theorem FS.sum {lo fb n : Nat} {w w0 : World} {v : Nat → Int} {seq : Nat → List Nat} (h : FS lo w fb n v seq w0) (x : Nat) (hx : x < n) :
    Calls Tryd.prog 31 #[.pointer (some ⟨fb, 0, none⟩), .int .i64 (x : Int)] w0 fun e w' => e = .returned (.tuple #[.int .i64 (wrap64 (sumV v (seq (x + 1)))), .nilIface]) ∧ FS lo w fb n v seq w' ∧ Keep w0 w' := by
  have hl := hid (h.look1 x hx)
  clear h
  go_enter Tryd.func31, Tryd.ntmps31
  go_wp2_with fail
  refine hl.out.mono ?_
  rintro e w1 ⟨rfl, nb, N, T, sub, h1, hxN⟩
  have c1 := h1.fo.c1
  have hbig := h1.fo.big
  have h1 := hid h1
  obtain ⟨X, hX⟩ : ∃ X, x + 1 = X := ⟨_, rfl⟩
  have hXh := hid hX
  have hX0 : X ≠ 0 := by omega
  have htop := hid (h1.out.drew.top x hxN)
  rw [hX] at htop hxN
  have q1 : (0 : Int) ≤ (X : Int) := by omega
  have q2 : (X : Int) < (N : Int) := by omega
  clear hl hX
  go_wp2_with fail
  go_region_with (go_at_call 20; refine htop.out.mono ?_; rintro e w2 ⟨rfl, T2, sub2, h2, m2, u2, t2⟩; have c2 := h2.fo.c1; have cs := h2.fo.s hxN; have fin := hid (And.intro h2 u2); clear h2 m2 u2 t2)
  all_goals
    go_wp2_with fail
    go_ret2
    refine ⟨?_, fin.out.1.end_, fin.out.1.keep⟩
    rw [hXh.out, fin.out.1.gd.inv.root X hX0 fin.out.2, (fin.out.1.gd.inv.tal X).s]
    rfl

end Go.Proofs.YtpelpcplagfdiaaDoor
