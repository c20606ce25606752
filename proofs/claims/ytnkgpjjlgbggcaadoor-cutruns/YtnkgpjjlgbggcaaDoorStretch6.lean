/- 'stretch' and 'road', walked. -/
import Derived.Test.YtnkgpjjlgbggcaaDoorState6
import Derived.Deep.RegionHeld3
import Derived.Deep.QuietTactic
import Derived.BigQuiet
namespace Go.Proofs.YtnkgpjjlgbggcaaDoor
open Go.RowKit
set_option linter.unusedVariables false

theorem below_drewN (w : World) (n : Nat) : Below w.heap.size w (w.drewN n) := ⟨rfl, rfl, rfl, Nat.le_refl _, fun _ _ => rfl⟩

section
variable {lo fb n : Nat} {w w0 : World} {v : Nat → Int} {adj : Nat → Nat → Prop}

/-- The road laid out as one stretch. -/
def Laid (lo : Nat) (w w0 : World) (fb n x y : Nat) (v : Nat → Int) (adj : Nat → Nat → Prop) (l : List Nat) (w' : World) : Prop :=
  ∃ nb N T sub seq pp par, HS lo w w0 fb n nb N T v sub seq pp par adj w' ∧ x + 1 < N ∧ y + 1 < N ∧ (T (y + 1)).up = 0 ∧ (T (y + 1)).t = false ∧ pp (y + 1) = 0 ∧ seq (y + 1) = l ∧ par (x + 1) = 0

/-- No road; the one tree hangs from its node. -/
def Apart (lo : Nat) (w w0 : World) (fb n x y : Nat) (v : Nat → Int) (adj : Nat → Nat → Prop) (w' : World) : Prop :=
  ∃ nb N T sub seq pp par, HS lo w w0 fb n nb N T v sub seq pp par adj w' ∧ x + 1 < N ∧ y + 1 < N ∧ (T (x + 1)).up = 0 ∧ pp (x + 1) = 0 ∧ (∃ A, seq (x + 1) = (x + 1) :: A) ∧ ¬ Top par (y + 1) (x + 1)

set_option maxRecDepth 100000 in
set_option maxHeartbeats 2000000 in
theorem FS.stretchY (h : FS lo w fb n v adj w0) (x y : Nat) (hx : x < n) (hy : y < n) (l : List Nat) (hl : Rd adj (x + 1) (y + 1) l) :
    Calls Tryd.prog 16 #[.pointer (some ⟨fb, 0, none⟩), .int .i64 (x : Int), .int .i64 (y : Int)] w0 fun e w' => e = .returned (.tuple #[.int .i32 ((y + 1 : Nat) : Int), .nilIface]) ∧ Laid lo w w0 fb n x y v adj l w' := by
  have hn2 := h.n2
  have hk := hid (h.look2 x y hx hy)
  have hl := hid hl
  have px := hid (place_ok x (by omega))
  have py := hid (place_ok y (by omega))
  clear h
  go_enter Tryd.func16, Tryd.ntmps16
  go_wp2_with fail
  refine hk.out.mono ?_
  rintro e w1 ⟨rfl, nb, N, T, sub, seq, pp, par, h1, hxN, hyN⟩
  have h1 := hid h1
  clear hk
  go_wp2_with fail
  refine (px.out _).mono ?_
  rintro e w2 ⟨rfl, rfl⟩
  obtain ⟨X, hX⟩ : ∃ X, x + 1 = X := ⟨_, rfl⟩
  obtain ⟨Y, hY⟩ : ∃ Y, y + 1 = Y := ⟨_, rfl⟩
  have hXY := hid (And.intro hX hY)
  rw [hX] at hxN hl px ⊢
  rw [hY] at hyN hl py
  have hX0 : Hid (X ≠ 0) := hid (by omega)
  have hY0 : Hid (Y ≠ 0) := hid (by omega)
  have hbig := h1.out.fo.big
  have q1 : (0 : Int) ≤ (X : Int) := by omega
  have q2 : (X : Int) < (N : Int) := by omega
  have xX : Hid (x = y ↔ X = Y) := hid (by omega)
  clear hX hY
  go_wp2_with fail
  refine (h1.out.root X hX0.out hxN).mono ?_
  rintro e w3 ⟨rfl, T3, sub3, seq3, pp3, par3, h3, u3, p3, s3, r3⟩
  have tY := hl.out.wk.top h3.he h3.lc.acy (Top.self hX0.out r3)
  have h3 := hid h3
  have r3 := hid r3
  clear h1 u3 p3 s3
  go_wp2_with fail
  refine (py.out _).mono ?_
  rintro e w4 ⟨rfl, rfl⟩
  have he := hid (h3.out.expose Y X hY0.out hyN tY)
  clear tY
  go_wp2_with fail
  refine he.out.mono ?_
  rintro e w4 ⟨rfl, T4, sub4, seq4, pp4, h4, u4, t4, p4, ⟨B, b4⟩, f4⟩
  have hc := h4.lc.chn Y hY0.out
  rw [p4, b4] at hc
  have e4 : seq4 Y = l := by
    rw [b4]
    exact chn_uniq h4.lc.acy hc (hl.out.down h4.he r3.out) (by rw [← b4]; exact h4.lc.ne hY0.out) hl.out.wk.ne (by simp) hl.out.wk.last.1 (lst_app _ _ _) hl.out.wk.last.2
  have uX : X ≠ Y → (T4 X).up ≠ 0 := fun hne => by
    have hm : X ∈ sub4 Y := by
      rw [← h4.lc.gd.inv.root Y hY0.out u4, e4]; exact hl.out.wk.first
    exact h4.lc.gd.inv.sub_up hY0.out hm hne
  have c1 := h4.fo.c1
  have cu := h4.fo.up hxN
  have hu : X ≠ Y → (real T4 pp4 X).up ≠ 0 := fun hne => by rw [real_up1 (uX hne)]; exact uX hne
  obtain ⟨U, hU⟩ : ∃ U, (real T4 pp4 X).up = U := ⟨_, rfl⟩
  rw [hU] at cu hu
  have fin : Hid (∀ w', Below w4.heap.size w4 w' → Laid lo w w0 fb n x y v adj l w') := hid (fun w' hb => by
    refine ⟨nb, N, T4, sub4, seq4, pp4, par3, h4.more hb, ?_⟩
    rw [hXY.out.1, hXY.out.2]
    exact ⟨hxN, hyN, u4, t4, p4, e4, r3.out⟩)
  clear h4 u4 t4 p4 b4 f4 hc e4 uX hU he h3
  by_cases e : x = y
  · subst e
    have hd := hid (Below.refl w4.heap.size w4)
    clear cu hu
    go_wp2_with fail
    go_quiet ((go_at_call 19; exact Calls.quiet_of_same ((px.out _).mono (fun _ _ h => ⟨h.1, h.2.symm⟩))))
    go_wp2_with fail
    refine (py.out _).mono ?_
    rintro e w' ⟨rfl, rfl⟩
    go_wp2_with fail
    go_ret2
    exact ⟨by rw [hXY.out.2]; rfl, fin.out _ (below_drewN _ _)⟩
  · have t1 : ((x : Int) == (y : Int)) = false := by simp; omega
    have t2 : ((x : Int) != (y : Int)) = true := by simp; omega
    have hU0 := hu (fun e2 => e (xX.out.2 e2))
    have t3 : ((U : Int) == 0) = false := by simp; omega
    have t4 : ((U : Int) != 0) = true := by simp; omega
    clear e hu
    go_wp2_with fail
    go_quiet ((go_at_call 19; exact Calls.quiet_of_same ((px.out _).mono (fun _ _ h => ⟨h.1, h.2.symm⟩))))
    go_wp2_with fail
    refine (py.out _).mono ?_
    rintro e w' ⟨rfl, rfl⟩
    go_wp2_with fail
    go_ret2
    exact ⟨by rw [hXY.out.2]; rfl, fin.out _ (below_drewN _ _)⟩
set_option maxRecDepth 100000 in
set_option maxHeartbeats 2000000 in
theorem FS.stretchN (h : FS lo w fb n v adj w0) (x y : Nat) (hx : x < n) (hy : y < n) (hl : ∀ l, ¬ Rd adj (x + 1) (y + 1) l) :
    Calls Tryd.prog 16 #[.pointer (some ⟨fb, 0, none⟩), .int .i64 (x : Int), .int .i64 (y : Int)] w0 fun e w' => e = .returned (.tuple #[.int .i32 0, .nilIface]) ∧ Apart lo w w0 fb n x y v adj w' := by
  have hn2 := h.n2
  have hk := hid (h.look2 x y hx hy)
  have hl := hid hl
  have px := hid (place_ok x (by omega))
  have py := hid (place_ok y (by omega))
  clear h
  go_enter Tryd.func16, Tryd.ntmps16
  go_wp2_with fail
  refine hk.out.mono ?_
  rintro e w1 ⟨rfl, nb, N, T, sub, seq, pp, par, h1, hxN, hyN⟩
  have h1 := hid h1
  clear hk
  go_wp2_with fail
  refine (px.out _).mono ?_
  rintro e w2 ⟨rfl, rfl⟩
  obtain ⟨X, hX⟩ : ∃ X, x + 1 = X := ⟨_, rfl⟩
  obtain ⟨Y, hY⟩ : ∃ Y, y + 1 = Y := ⟨_, rfl⟩
  have hXY := hid (And.intro hX hY)
  rw [hX] at hxN hl px ⊢
  rw [hY] at hyN hl py
  have hX0 : Hid (X ≠ 0) := hid (by omega)
  have hY0 : Hid (Y ≠ 0) := hid (by omega)
  have hbig := h1.out.fo.big
  have q1 : (0 : Int) ≤ (X : Int) := by omega
  have q2 : (X : Int) < (N : Int) := by omega
  have xX : Hid (x = y ↔ X = Y) := hid (by omega)
  clear hX hY
  go_wp2_with fail
  refine (h1.out.root X hX0.out hxN).mono ?_
  rintro e w3 ⟨rfl, T3, sub3, seq3, pp3, par3, h3, u3, p3, s3, r3⟩
  have tY : ¬ Top par3 Y X := fun hT => by
    obtain ⟨m, k1, k2, k3⟩ := hT
    exact hl.out _ (rd_chn h3.he h3.lc.acy k1 k3 k2)
  have hXYne : Hid (X ≠ Y) := hid (fun e => tY (by rw [← e]; exact Top.self hX0.out r3))
  have tX : ∀ r, Top par3 Y r → ¬ Top par3 X r := fun r k1 k2 => tY (by rw [← k2.uniq h3.lc.acy (Top.self hX0.out r3)]; exact k1)
  obtain ⟨r, hr⟩ := h3.lc.acy.top hY0.out
  have tXr := tX r hr
  have h3 := hid h3
  have r3 := hid r3
  have u3 := hid u3
  have p3 := hid p3
  have s3 := hid s3
  have tY := hid tY
  have tXr := hid tXr
  clear h1 tX
  go_wp2_with fail
  refine (py.out _).mono ?_
  rintro e w4 ⟨rfl, rfl⟩
  have he := hid (h3.out.expose Y r hY0.out hyN hr)
  clear hr
  go_wp2_with fail
  refine he.out.mono ?_
  rintro e w4 ⟨rfl, T4, sub4, seq4, pp4, h4, u4, t4, p4, ⟨B, b4⟩, f4⟩
  obtain ⟨g1, g2, g3⟩ := f4 X hX0.out tXr.out
  have uX : (T4 X).up = 0 := g1.trans u3.out
  have c1 := h4.fo.c1
  have cu : w4.cell? ⟨nb, X * 9 + 5, none⟩ = some (.int .i32 0) := by
    have := h4.fo.up hxN
    rw [real_up0 uX, g3, p3.out] at this
    exact this
  have fin : Hid (∀ w', Below w4.heap.size w4 w' → Apart lo w w0 fb n x y v adj w') := hid (fun w' hb => by
    refine ⟨nb, N, T4, sub4, seq4, pp4, par3, h4.more hb, ?_⟩
    rw [hXY.out.1, hXY.out.2]
    exact ⟨hxN, hyN, uX, g3.trans p3.out, by rw [g2]; exact s3.out, tY.out⟩)
  have e : ¬ x = y := fun e => hXYne.out (xX.out.1 e)
  have t1 : ((x : Int) == (y : Int)) = false := by simp; omega
  have t2 : ((x : Int) != (y : Int)) = true := by simp; omega
  clear h4 u4 t4 p4 b4 f4 uX he h3 e g1 g2 g3 u3 p3 s3
  go_wp2_with fail
  go_quiet ((go_at_call 19; exact Calls.quiet_of_same ((px.out _).mono (fun _ _ h => ⟨h.1, h.2.symm⟩))))
  go_wp2_with fail
  go_ret2
  exact ⟨rfl, fin.out _ (below_drewN _ _)⟩

set_option maxRecDepth 100000 in
set_option maxHeartbeats 1000000 in
theorem FS.stretch_bad (h : FS lo w fb n v adj w0) (x y : Int) (hx : ¬ ((0 ≤ x ∧ x < (n : Int)) ∧ (0 ≤ y ∧ y < (n : Int)))) :
    Calls Tryd.prog 16 #[.pointer (some ⟨fb, 0, none⟩), .int .i64 x, .int .i64 y] w0 fun e w' => e = .returned (.tuple #[.int .i32 0, (.iface 46 (.int .i64 12))]) ∧ FS lo w fb n v adj w' ∧ Keep w0 w' := by
  have hb := hid (h.bad2 x y hx)
  have ha := hid (h.alloc (.cells #[.int .i64 x, .int .i64 y] 3))
  have hk := hid ((Keep.refl w0).alloc (.cells #[.int .i64 x, .int .i64 y] 3))
  clear h hx
  go_enter Tryd.func16, Tryd.ntmps16
  go_wp2_with fail
  refine hb.out.mono ?_
  rintro e w' ⟨rfl, rfl⟩
  go_wp2_with fail
  go_ret2
  exact ⟨rfl, ha.out, hk.out⟩

set_option maxRecDepth 100000 in
set_option maxHeartbeats 1000000 in
theorem stretch_nil (x y : Int) (w0 : World) :
    Calls Tryd.prog 16 #[.pointer none, .int .i64 x, .int .i64 y] w0 fun e w' => e = .returned (.tuple #[.int .i32 0, (.iface 46 (.int .i64 1))]) ∧ Below w0.heap.size w0 w' := by
  go_enter Tryd.func16, Tryd.ntmps16
  go_wp2_with fail
  refine (look_nil _ _).mono ?_
  rintro e w' ⟨rfl, rfl⟩
  go_wp2_with fail
  go_ret2
  exact ⟨rfl, (Below.refl _ _).alloc (Nat.le_refl _) _⟩

set_option maxRecDepth 100000 in
set_option maxHeartbeats 1000000 in
theorem FS.roadY (h : FS lo w fb n v adj w0) (x y : Nat) (hx : x < n) (hy : y < n) (l : List Nat) (hl : Rd adj (x + 1) (y + 1) l) :
    Calls Tryd.prog 20 #[.pointer (some ⟨fb, 0, none⟩), .int .i64 (x : Int), .int .i64 (y : Int)] w0 fun e w' => e = .returned (.tuple #[.int .i32 ((y + 1 : Nat) : Int), .nilIface]) ∧ Laid lo w w0 fb n x y v adj l w' := by
  have hs := hid (h.stretchY x y hx hy l hl)
  have t1 : (((y + 1 : Nat) : Int) == 0) = false := by simp; omega
  obtain ⟨Y, hY⟩ : ∃ Y : Int, ((y + 1 : Nat) : Int) = Y := ⟨_, rfl⟩
  rw [hY] at hs t1 ⊢
  clear h hl hY
  go_enter Tryd.func20, Tryd.ntmps20
  go_wp2_with fail
  refine hs.out.mono ?_
  rintro e w1 ⟨rfl, h1⟩
  have h1 := hid h1
  go_wp2_with fail
  go_ret2
  exact ⟨rfl, h1.out⟩

set_option maxRecDepth 100000 in
set_option maxHeartbeats 1000000 in
theorem FS.roadN (h : FS lo w fb n v adj w0) (x y : Nat) (hx : x < n) (hy : y < n) (hl : ∀ l, ¬ Rd adj (x + 1) (y + 1) l) :
    Calls Tryd.prog 20 #[.pointer (some ⟨fb, 0, none⟩), .int .i64 (x : Int), .int .i64 (y : Int)] w0 fun e w' => e = .returned (.tuple #[.int .i32 0, (.iface 46 (.int .i64 21))]) ∧ FS lo w fb n v adj w' ∧ Keep w0 w' := by
  have hs := hid (h.stretchN x y hx hy hl)
  clear h hl
  go_enter Tryd.func20, Tryd.ntmps20
  go_wp2_with fail
  refine hs.out.mono ?_
  rintro e w1 ⟨rfl, nb, N, T, sub, seq, pp, par, h1, _⟩
  have h1 := hid (And.intro h1.end_ h1.keep)
  go_wp2_with fail
  go_ret2
  exact ⟨rfl, h1.out⟩

set_option maxRecDepth 100000 in
set_option maxHeartbeats 1000000 in
theorem FS.road_bad (h : FS lo w fb n v adj w0) (x y : Int) (hx : ¬ ((0 ≤ x ∧ x < (n : Int)) ∧ (0 ≤ y ∧ y < (n : Int)))) :
    Calls Tryd.prog 20 #[.pointer (some ⟨fb, 0, none⟩), .int .i64 x, .int .i64 y] w0 fun e w' => e = .returned (.tuple #[.int .i32 0, (.iface 46 (.int .i64 12))]) ∧ FS lo w fb n v adj w' ∧ Keep w0 w' := by
  have hs := hid (h.stretch_bad x y hx)
  clear h hx
  go_enter Tryd.func20, Tryd.ntmps20
  go_wp2_with fail
  refine hs.out.mono ?_
  rintro e w1 ⟨rfl, h1⟩
  have h1 := hid h1
  go_wp2_with fail
  go_ret2
  exact ⟨rfl, h1.out⟩

set_option maxRecDepth 100000 in
set_option maxHeartbeats 1000000 in
theorem road_nil (x y : Int) (w0 : World) :
    Calls Tryd.prog 20 #[.pointer none, .int .i64 x, .int .i64 y] w0 fun e w' => e = .returned (.tuple #[.int .i32 0, (.iface 46 (.int .i64 1))]) ∧ Below w0.heap.size w0 w' := by
  have hs := hid (stretch_nil x y w0)
  go_enter Tryd.func20, Tryd.ntmps20
  go_wp2_with fail
  refine hs.out.mono ?_
  rintro e w1 ⟨rfl, h1⟩
  have h1 := hid h1
  go_wp2_with fail
  go_ret2
  exact ⟨rfl, h1.out⟩
end

end Go.Proofs.YtnkgpjjlgbggcaaDoor
