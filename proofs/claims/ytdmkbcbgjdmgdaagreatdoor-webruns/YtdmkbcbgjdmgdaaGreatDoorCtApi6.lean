/- The calls of a Forest that ask nothing of a closure. -/
import Derived.Test.YtdmkbcbgjdmgdaaGreatDoorBctb
namespace Go.Proofs.YtdmkbcbgjdmgdaaGreatDoor.Ct
open Go.RowKit
set_option linter.unusedVariables false

section
variable {lo fb n : Nat} {w w0 : World} {v : Nat → Int} {adj : Nat → Nat → Prop}

set_option maxRecDepth 100000 in
set_option maxHeartbeats 1000000 in
theorem FS.same_bad (h : FS lo w fb n v adj w0) (x y : Int) (hx : ¬ ((0 ≤ x ∧ x < (n : Int)) ∧ (0 ≤ y ∧ y < (n : Int)))) :
    Calls Tryz.prog 45 #[.pointer (some ⟨fb, 0, none⟩), .int .i64 x, .int .i64 y] w0 fun e w' => e = .returned (.tuple #[.bool false, (.iface 63 (.int .i64 12))]) ∧ FS lo w fb n v adj w' ∧ Keep w0 w' := by
  have hs := hid (h.stretch_bad x y hx)
  clear h hx
  go_enter Tryz.func45, Tryz.ntmps45
  go_wp2_with fail
  refine hs.out.mono ?_
  rintro e w1 ⟨rfl, h1⟩
  have h1 := hid h1
  go_wp2_with fail
  go_ret2
  exact ⟨rfl, h1.out⟩

set_option maxRecDepth 100000 in
set_option maxHeartbeats 1000000 in
theorem same_nil (x y : Int) (w0 : World) :
    Calls Tryz.prog 45 #[.pointer none, .int .i64 x, .int .i64 y] w0 fun e w' => e = .returned (.tuple #[.bool false, (.iface 63 (.int .i64 1))]) ∧ Below w0.heap.size w0 w' := by
  have hs := hid (stretch_nil x y w0)
  go_enter Tryz.func45, Tryz.ntmps45
  go_wp2_with fail
  refine hs.out.mono ?_
  rintro e w1 ⟨rfl, h1⟩
  have h1 := hid h1
  go_wp2_with fail
  go_ret2
  exact ⟨rfl, h1.out⟩

















set_option maxRecDepth 100000 in
set_option maxHeartbeats 1000000 in
theorem FS.link_bad (h : FS lo w fb n v adj w0) (x y : Int) (hx : ¬ ((0 ≤ x ∧ x < (n : Int)) ∧ (0 ≤ y ∧ y < (n : Int)))) :
    Calls Tryz.prog 56 #[.pointer (some ⟨fb, 0, none⟩), .int .i64 x, .int .i64 y] w0 fun e w' => e = .returned (.iface 63 (.int .i64 12)) ∧ FS lo w fb n v adj w' ∧ Keep w0 w' := by
  have hs := hid (h.stretch_bad x y hx)
  clear h hx
  go_enter Tryz.func56, Tryz.ntmps56
  go_wp2_with fail
  refine hs.out.mono ?_
  rintro e w1 ⟨rfl, h1⟩
  have h1 := hid h1
  go_wp2_with fail
  go_ret
  exact ⟨rfl, h1.out⟩

set_option maxRecDepth 100000 in
set_option maxHeartbeats 1000000 in
theorem link_nil (x y : Int) (w0 : World) :
    Calls Tryz.prog 56 #[.pointer none, .int .i64 x, .int .i64 y] w0 fun e w' => e = .returned (.iface 63 (.int .i64 1)) ∧ Below w0.heap.size w0 w' := by
  have hs := hid (stretch_nil x y w0)
  go_enter Tryz.func56, Tryz.ntmps56
  go_wp2_with fail
  refine hs.out.mono ?_
  rintro e w1 ⟨rfl, h1⟩
  have h1 := hid h1
  go_wp2_with fail
  go_ret
  exact ⟨rfl, h1.out⟩

set_option maxRecDepth 100000 in
set_option maxHeartbeats 1000000 in
theorem FS.cut_bad (h : FS lo w fb n v adj w0) (x y : Int) (hx : ¬ ((0 ≤ x ∧ x < (n : Int)) ∧ (0 ≤ y ∧ y < (n : Int)))) :
    Calls Tryz.prog 53 #[.pointer (some ⟨fb, 0, none⟩), .int .i64 x, .int .i64 y] w0 fun e w' => e = .returned (.iface 63 (.int .i64 12)) ∧ FS lo w fb n v adj w' ∧ Keep w0 w' := by
  have hs := hid (h.road_bad x y hx)
  clear h hx
  go_enter Tryz.func53, Tryz.ntmps53
  go_wp2_with fail
  refine hs.out.mono ?_
  rintro e w1 ⟨rfl, h1⟩
  have h1 := hid h1
  go_wp2_with fail
  go_ret
  exact ⟨rfl, h1.out⟩

set_option maxRecDepth 100000 in
set_option maxHeartbeats 1000000 in
theorem cut_nil (x y : Int) (w0 : World) :
    Calls Tryz.prog 53 #[.pointer none, .int .i64 x, .int .i64 y] w0 fun e w' => e = .returned (.iface 63 (.int .i64 1)) ∧ Below w0.heap.size w0 w' := by
  have hs := hid (road_nil x y w0)
  go_enter Tryz.func53, Tryz.ntmps53
  go_wp2_with fail
  refine hs.out.mono ?_
  rintro e w1 ⟨rfl, h1⟩
  have h1 := hid h1
  go_wp2_with fail
  go_ret
  exact ⟨rfl, h1.out⟩

set_option maxRecDepth 100000 in
set_option maxHeartbeats 1000000 in
theorem FS.cutN0 (h : FS lo w fb n v adj w0) (x y : Nat) (hx : x < n) (hy : y < n) (hl : ∀ l, ¬ Rd adj (x + 1) (y + 1) l) :
    Calls Tryz.prog 53 #[.pointer (some ⟨fb, 0, none⟩), .int .i64 (x : Int), .int .i64 (y : Int)] w0 fun e w' => e = .returned (.iface 63 (.int .i64 21)) ∧ FS lo w fb n v adj w' ∧ Keep w0 w' := by
  have hs := hid (h.roadN x y hx hy hl)
  clear h hl
  go_enter Tryz.func53, Tryz.ntmps53
  go_wp2_with fail
  refine hs.out.mono ?_
  rintro e w1 ⟨rfl, h1⟩
  have h1 := hid h1
  go_wp2_with fail
  go_ret
  exact ⟨rfl, h1.out⟩

set_option maxRecDepth 100000 in
set_option maxHeartbeats 1000000 in
theorem FS.set_bad (h : FS lo w fb n v adj w0) (x z : Int) (hx : ¬ (0 ≤ x ∧ x < (n : Int))) :
    Calls Tryz.prog 58 #[.pointer (some ⟨fb, 0, none⟩), .int .i64 x, .int .i64 z] w0 fun e w' => e = .returned (.iface 63 (.int .i64 12)) ∧ FS lo w fb n v adj w' ∧ Keep w0 w' := by
  have hb := hid (h.bad1 x hx)
  have ha := hid (h.alloc (.cells #[.int .i64 x] 3))
  have hk := hid ((Keep.refl w0).alloc (.cells #[.int .i64 x] 3))
  clear h hx
  go_enter Tryz.func58, Tryz.ntmps58
  go_wp2_with fail
  refine hb.out.mono ?_
  rintro e w' ⟨rfl, rfl⟩
  go_wp2_with fail
  go_ret
  exact ⟨rfl, ha.out, hk.out⟩

set_option maxRecDepth 100000 in
set_option maxHeartbeats 1000000 in
theorem set_nil (x z : Int) (w0 : World) :
    Calls Tryz.prog 58 #[.pointer none, .int .i64 x, .int .i64 z] w0 fun e w' => e = .returned (.iface 63 (.int .i64 1)) ∧ Below w0.heap.size w0 w' := by
  go_enter Tryz.func58, Tryz.ntmps58
  go_wp2_with fail
  refine (look_nil _ _).mono ?_
  rintro e w' ⟨rfl, rfl⟩
  go_wp2_with fail
  go_ret
  exact ⟨rfl, (Below.refl _ _).alloc (Nat.le_refl _) _⟩

set_option maxRecDepth 100000 in
set_option maxHeartbeats 1000000 in
theorem FS.sameY (h : FS lo w fb n v adj w0) (x y : Nat) (hx : x < n) (hy : y < n) (l : List Nat) (hl : Rd adj (x + 1) (y + 1) l) :
    Calls Tryz.prog 45 #[.pointer (some ⟨fb, 0, none⟩), .int .i64 (x : Int), .int .i64 (y : Int)] w0 fun e w' => e = .returned (.tuple #[.bool true, .nilIface]) ∧ FS lo w fb n v adj w' ∧ Keep w0 w' := by
  have hs := hid (h.stretchY x y hx hy l hl)
  have t1 : (((y + 1 : Nat) : Int) != 0) = true := by simp; omega
  obtain ⟨Y, hY⟩ : ∃ Y : Int, ((y + 1 : Nat) : Int) = Y := ⟨_, rfl⟩
  rw [hY] at hs t1
  clear h hl hY
  go_enter Tryz.func45, Tryz.ntmps45
  go_wp2_with fail
  refine hs.out.mono ?_
  rintro e w1 ⟨rfl, nb, N, T, sub, seq, pp, par, h1, _⟩
  have h1 := hid (And.intro h1.end_ h1.keep)
  go_wp2_with fail
  go_ret2
  exact ⟨rfl, h1.out⟩

set_option maxRecDepth 100000 in
set_option maxHeartbeats 1000000 in
theorem FS.sameN (h : FS lo w fb n v adj w0) (x y : Nat) (hx : x < n) (hy : y < n) (hl : ∀ l, ¬ Rd adj (x + 1) (y + 1) l) :
    Calls Tryz.prog 45 #[.pointer (some ⟨fb, 0, none⟩), .int .i64 (x : Int), .int .i64 (y : Int)] w0 fun e w' => e = .returned (.tuple #[.bool false, .nilIface]) ∧ FS lo w fb n v adj w' ∧ Keep w0 w' := by
  have hs := hid (h.stretchN x y hx hy hl)
  clear h hl
  go_enter Tryz.func45, Tryz.ntmps45
  go_wp2_with fail
  refine hs.out.mono ?_
  rintro e w1 ⟨rfl, nb, N, T, sub, seq, pp, par, h1, _⟩
  have h1 := hid (And.intro h1.end_ h1.keep)
  go_wp2_with fail
  go_ret2
  exact ⟨rfl, h1.out⟩

set_option maxRecDepth 100000 in
set_option maxHeartbeats 1000000 in
theorem FS.link_same (h : FS lo w fb n v adj w0) (x y : Nat) (hx : x < n) (hy : y < n) (l : List Nat) (hl : Rd adj (x + 1) (y + 1) l) :
    Calls Tryz.prog 56 #[.pointer (some ⟨fb, 0, none⟩), .int .i64 (x : Int), .int .i64 (y : Int)] w0 fun e w' => e = .returned (.iface 63 (.int .i64 20)) ∧ FS lo w fb n v adj w' ∧ Keep w0 w' := by
  have hs := hid (h.stretchY x y hx hy l hl)
  have t1 : (((y + 1 : Nat) : Int) != 0) = true := by simp; omega
  obtain ⟨Y, hY⟩ : ∃ Y : Int, ((y + 1 : Nat) : Int) = Y := ⟨_, rfl⟩
  rw [hY] at hs t1
  clear h hl hY
  go_enter Tryz.func56, Tryz.ntmps56
  go_wp2_with fail
  refine hs.out.mono ?_
  rintro e w1 ⟨rfl, nb, N, T, sub, seq, pp, par, h1, _⟩
  have h1 := hid (And.intro h1.end_ h1.keep)
  go_wp2_with fail
  go_ret
  exact ⟨rfl, h1.out⟩

/-- What a road that is laid out tells. -/
theorem Laid.size {x y : Nat} {l : List Nat} {w1 : World} (h : Laid lo w w0 fb n x y v adj l w1) : Calls Tryz.prog 87 #[.pointer (some ⟨fb, 0, none⟩), .int .i32 ((y + 1 : Nat) : Int)] w1 fun e w' => e = .returned (.int .i64 (l.length : Int)) ∧ w1 = w' := by
  obtain ⟨nb, N, T, sub, seq, pp, par, h1, hxN, hyN, hu, ht, hp, hs, _⟩ := h
  have := size_ok fb nb n N (y + 1) T pp v sub seq w1 h1.fo h1.lc.gd hyN
  rw [← h1.lc.gd.inv.root (y + 1) (by omega) hu, hs] at this
  exact this

theorem Laid.fs {x y : Nat} {l : List Nat} {w1 : World} (h : Laid lo w w0 fb n x y v adj l w1) : FS lo w fb n v adj w1 ∧ Keep w0 w1 := by
  obtain ⟨nb, N, T, sub, seq, pp, par, h1, _⟩ := h
  exact ⟨h1.end_, h1.keep⟩

theorem Apart.size {x y : Nat} {w1 : World} (h : Apart lo w w0 fb n x y v adj w1) : Calls Tryz.prog 87 #[.pointer (some ⟨fb, 0, none⟩), .int .i32 0] w1 fun e w' => e = .returned (.int .i64 0) ∧ w1 = w' := by
  obtain ⟨nb, N, T, sub, seq, pp, par, h1, hxN, _⟩ := h
  have := size_ok fb nb n N 0 T pp v sub seq w1 h1.fo h1.lc.gd (by omega)
  rw [h1.lc.gd.inv.sub0] at this
  exact this

theorem Apart.fs {x y : Nat} {w1 : World} (h : Apart lo w w0 fb n x y v adj w1) : FS lo w fb n v adj w1 ∧ Keep w0 w1 := by
  obtain ⟨nb, N, T, sub, seq, pp, par, h1, _⟩ := h
  exact ⟨h1.end_, h1.keep⟩















set_option maxRecDepth 100000 in
set_option maxHeartbeats 1000000 in
theorem FS.set (h : FS lo w fb n v adj w0) (x : Nat) (hx : x < n) (z : Int) :
    Calls Tryz.prog 58 #[.pointer (some ⟨fb, 0, none⟩), .int .i64 (x : Int), .int .i64 z] w0 fun e w' => e = .returned .nilIface ∧ FS lo w fb n (setV v (x + 1) z) adj w' ∧ Keep w0 w' := by
  have hn2 := h.n2
  have hl := hid (h.look1 x hx)
  have px := hid (place_ok x (by omega))
  clear h
  go_enter Tryz.func58, Tryz.ntmps58
  go_wp2_with fail
  refine hl.out.mono ?_
  rintro e w1 ⟨rfl, nb, N, T, sub, seq, pp, par, h1, hxN⟩
  have h1 := hid h1
  clear hl
  go_wp2_with fail
  refine (px.out _).mono ?_
  rintro e w2 ⟨rfl, rfl⟩
  obtain ⟨X, hX⟩ : ∃ X, x + 1 = X := ⟨_, rfl⟩
  have hXh := hid hX
  rw [hX] at hxN ⊢
  have hX0 : X ≠ 0 := by omega
  clear hX
  go_wp2_with fail
  refine (h1.out.raise X hX0 hxN).mono ?_
  rintro e w2 ⟨rfl, T2, sub2, h2, m2, u2, t2⟩
  have h2 := hid h2
  have u2 := hid u2
  clear h1 m2 t2
  have hbig := h2.out.fo.big
  have c1 := h2.out.fo.c1
  have cv := h2.out.fo.v hxN
  have fv := h2.out.fo.fro (X * 9)
  have q1 : (0 : Int) ≤ (X : Int) := by omega
  have q2 : (X : Int) < (N : Int) := by omega
  obtain ⟨sub3, g3⟩ := h2.out.lc.gd.setv hX0 u2.out hxN z
  have l3 := hid (h2.out.lc.of g3)
  have hs : Hid (Fo (w2.setCell ⟨nb, X * 9, none⟩ (.int .i64 z)) fb nb n N (upd (real T2 pp) X { real T2 pp X with v := z })) := hid (h2.out.fo.set 0 { real T2 pp X with v := z } hxN (by decide) rfl)
  have ts := hid ((Turned.refl (fun k => k = nb) w2).setCell (p := ⟨nb, X * 9, none⟩) rfl (.int .i64 z))
  go_upto_region 7 with fail
  generalize w2.setCell ⟨nb, X * 9, none⟩ (.int .i64 z) = w3 at hs ts ⊢
  clear c1 cv fv g3
  have ht := tally_ok fb nb n N X _ _ hs.out hxN (by rw [upd_same]; exact h2.out.lc.gd.l_lt X) (by rw [upd_same]; exact h2.out.lc.gd.r_lt X) (by rw [upd_same]; exact h2.out.lc.gd.inv.kid_ne hX0 false) (by rw [upd_same]; exact h2.out.lc.gd.inv.kid_ne hX0 true)
  have er : real (tallyT (upd T2 X { T2 X with v := z }) X) pp = tallyT (upd (real T2 pp) X { real T2 pp X with v := z }) X := by
    rw [real_tally, real_upd]; rfl
  have er := hid er
  have ht := hid ht
  go_wp2_with fail
  refine ht.out.mono ?_
  rintro e w4 ⟨rfl, f4, t4⟩
  have h4 := hid (h2.out.turn (by rw [er.out]; exact f4) l3.out h2.out.he (ts.out.trans t4))
  clear f4 t4 ht er
  go_wp2_with fail
  go_ret
  exact ⟨rfl, by rw [hXh.out]; exact h4.out.end_, h4.out.keep⟩

set_option maxRecDepth 100000 in
set_option maxHeartbeats 1000000 in
theorem FS.link (h : FS lo w fb n v adj w0) (x y : Nat) (hx : x < n) (hy : y < n) (hl : ∀ l, ¬ Rd adj (x + 1) (y + 1) l) :
    Calls Tryz.prog 56 #[.pointer (some ⟨fb, 0, none⟩), .int .i64 (x : Int), .int .i64 (y : Int)] w0 fun e w' => e = .returned .nilIface ∧ FS lo w fb n v (addE adj (x + 1) (y + 1)) w' ∧ Keep w0 w' := by
  have hn2 := h.n2
  have hs := hid (h.stretchN x y hx hy hl)
  have px := hid (place_ok x (by omega))
  have py := hid (place_ok y (by omega))
  clear h hl
  go_enter Tryz.func56, Tryz.ntmps56
  go_wp2_with fail
  refine hs.out.mono ?_
  rintro e w1 ⟨rfl, nb, N, T, sub, seq, pp, par, h1, hxN, hyN, hu, hp, hA, hT⟩
  obtain ⟨pp', par', e2, l2, a2⟩ := h1.lc.link (by omega) hxN (by omega) hyN hu hp hA hT
  obtain ⟨X, hX⟩ : ∃ X, x + 1 = X := ⟨_, rfl⟩
  obtain ⟨Y, hY⟩ : ∃ Y, y + 1 = Y := ⟨_, rfl⟩
  have hXY := hid (And.intro hX hY)
  rw [hX] at hxN e2 px a2
  rw [hY] at hyN e2 py a2
  have hf : Fo (w1.setCell ⟨nb, X * 9 + 5, none⟩ (.int .i32 (Y : Int))) fb nb n N (upd (real T pp) X { real T pp X with up := Y }) := h1.fo.set 5 { real T pp X with up := Y } hxN (by decide) rfl
  rw [← e2] at hf
  have ts := (Turned.refl (fun k => k = nb) w1).setCell (p := ⟨nb, X * 9 + 5, none⟩) rfl (.int .i32 (Y : Int))
  have h2 : Hid (HS lo w w0 fb n nb N T v sub seq pp' par' (addE adj X Y) (w1.setCell ⟨nb, X * 9 + 5, none⟩ (.int .i32 (Y : Int)))) := hid (h1.turn hf l2 (fun a b => by
    rw [a2 a b]; unfold addE; rw [h1.he a b]) ts)
  have hbig := h1.fo.big
  have c1 := h1.fo.c1
  have cu := h1.fo.up hxN
  have fu := h1.fo.fro (X * 9 + 5)
  have hne := h1.fo.ne
  have q1 : (0 : Int) ≤ (X : Int) := by omega
  have q2 : (X : Int) < (N : Int) := by omega
  have kc : Hid (∀ u, (w1.setCell ⟨nb, X * 9 + 5, none⟩ u).drew.cell? ⟨fb, 1, none⟩ = some (.slice (some ⟨nb, 0, none⟩) N N)) := hid (fun u => by
    rw [kdrew, World.cell?_setCell_far _ _ _ _ (fun e => hne e.symm)]; exact c1)
  clear h1 hu hp hA hT e2 l2 a2 hf ts hs hne hX hY
  go_wp2_with fail
  go_region_held3 (fun w' => w'.cell? ⟨fb, 1, none⟩ = some (.slice (some ⟨nb, 0, none⟩) N N)) (first | exact kc.out _ | go_keep) ((go_at_call 90; (first | refine (px.out _).mono ?_ | refine (py.out _).mono ?_); rintro e w' ⟨rfl, rfl⟩))
  go_wp2_with fail
  go_ret
  exact ⟨rfl, by rw [hXY.out.1, hXY.out.2]; exact h2.out.drew.end_, h2.out.drew.keep⟩

set_option maxRecDepth 100000 in
set_option maxHeartbeats 1000000 in
theorem shed_ok (fb nb n N x L : Nat) (T : Tb) (w : World) (h : Fo w fb nb n N T) (hx : x < N) (hl : (T x).l = L) (hL0 : L ≠ 0) (hLN : L < N) (hLx : L ≠ x) (hr : (T x).r < N) (hrx : (T x).r ≠ x) (hx0 : x ≠ 0) :
    Calls Tryz.prog 88 #[.pointer (some ⟨fb, 0, none⟩), .int .i32 (x : Int), .int .i64 0] w fun e w' => e = .returned (.tuple #[]) ∧ Fo w' fb nb n N (hangT (upd T L { T L with up := 0 }) x false 0) ∧ Turned (fun k => k = nb) w w' := by
  have hbig := h.big
  have c1 := h.c1
  have cl := h.l hx
  rw [hl] at cl
  have cu := h.up hLN
  have fu := h.fro (L * 9 + 5)
  have q1 : (0 : Int) ≤ (x : Int) := by omega
  have q2 : (x : Int) < (N : Int) := by omega
  have q3 : (0 : Int) ≤ (L : Int) := by omega
  have q4 : (L : Int) < (N : Int) := by omega
  have hs := hid (h.set 5 { T L with up := 0 } (u := .int .i32 0) hLN (by decide) rfl).drew
  have ts := hid ((Turned.refl (fun k => k = nb) w).setCell (p := ⟨nb, L * 9 + 5, none⟩) rfl (.int .i32 0)).drew
  have hne := h.ne
  have kc : Hid (∀ u, (w.setCell ⟨nb, L * 9 + 5, none⟩ u).drew.cell? ⟨fb, 1, none⟩ = some (.slice (some ⟨nb, 0, none⟩) N N)) := hid (fun u => by
    rw [kdrew, World.cell?_setCell_far _ _ _ _ (fun e => hne e.symm)]; exact c1)
  have kl : Hid (∀ u, (w.setCell ⟨nb, L * 9 + 5, none⟩ u).drew.cell? ⟨nb, x * 9 + 6, none⟩ = some (.int .i32 (L : Int))) := hid (fun u => by
    rw [kdrew, far (by omega)]; exact cl)
  have hh : Hid (∀ y, Fo y fb nb n N (upd T L { T L with up := 0 }) → Calls Tryz.prog 115 #[.pointer (some ⟨fb, 0, none⟩), .int .i32 (x : Int), .int .i64 0, .int .i32 0] y fun e w' => e = .returned (.tuple #[]) ∧ Fo w' fb nb n N (hangT (upd T L { T L with up := 0 }) x false 0) ∧ Turned (fun k => k = nb) y w') := fun y hy =>
    hang_ok fb nb n N x 0 false _ y hy hx (by omega) (Ne.symm hx0) (by rw [upd_ne hLx.symm]; exact hr) (by rw [upd_ne hLx.symm]; exact hrx)
  clear h hl hr hrx hne
  go_enter Tryz.func88, Tryz.ntmps88
  go_wp2_with fail
  go_region_held3 (fun w' => w'.cell? ⟨fb, 1, none⟩ = some (.slice (some ⟨nb, 0, none⟩) N N) ∧ w'.cell? ⟨nb, x * 9 + 6, none⟩ = some (.int .i32 (L : Int))) (first | exact ⟨kc.out _, kl.out _⟩ | go_keep) (fail)
  generalize (w.setCell ⟨nb, L * 9 + 5, none⟩ (.int .i32 0)).drew = w1 at hs ts ⊢
  clear c1 cl cu fu kc kl
  go_wp2_with fail
  refine (hh.out _ hs.out).mono ?_
  rintro e w2 ⟨rfl, h2, t2⟩
  have h2 := hid h2
  have t2 := hid (ts.out.trans t2)
  go_wp2_with fail
  go_end0
  exact ⟨rfl, h2.out, t2.out⟩

set_option maxRecDepth 100000 in
set_option maxHeartbeats 1000000 in
theorem FS.cutn (h : FS lo w fb n v adj w0) (x y : Nat) (hx : x < n) (hy : y < n) (l : List Nat) (hl : Rd adj (x + 1) (y + 1) l) (h2 : ¬ l.length = 2) :
    Calls Tryz.prog 53 #[.pointer (some ⟨fb, 0, none⟩), .int .i64 (x : Int), .int .i64 (y : Int)] w0 fun e w' => e = .returned (.iface 63 (.int .i64 21)) ∧ FS lo w fb n v adj w' ∧ Keep w0 w' := by
  have hs := hid (h.roadY x y hx hy l hl)
  have t1 : ((l.length : Int) != 2) = true := by simp; omega
  obtain ⟨M, hM⟩ : ∃ M : Int, (l.length : Int) = M := ⟨_, rfl⟩
  rw [hM] at t1
  have hMh := hid hM
  clear h hl hM h2
  go_enter Tryz.func53, Tryz.ntmps53
  go_wp2_with fail
  refine hs.out.mono ?_
  rintro e w1 ⟨rfl, h1⟩
  have hz := h1.size
  rw [hMh.out] at hz
  have hz := hid hz
  have h1 := hid h1.fs
  generalize ((y + 1 : Nat) : Int) = Y at hz ⊢
  go_wp2_with fail
  refine hz.out.mono ?_
  rintro e w2 ⟨rfl, rfl⟩
  go_wp2_with fail
  go_ret
  exact ⟨rfl, h1.out⟩

theorem FS.cutN (h : FS lo w fb n v adj w0) (x y : Nat) (hx : x < n) (hy : y < n) (ha : ¬ adj (x + 1) (y + 1)) :
    Calls Tryz.prog 53 #[.pointer (some ⟨fb, 0, none⟩), .int .i64 (x : Int), .int .i64 (y : Int)] w0 fun e w' => e = .returned (.iface 63 (.int .i64 21)) ∧ FS lo w fb n v adj w' ∧ Keep w0 w' := by
  by_cases hl : ∃ l, Rd adj (x + 1) (y + 1) l
  · obtain ⟨l, hl⟩ := hl
    exact h.cutn x y hx hy l hl (fun e => ha (hl.two e))
  · exact h.cutN0 x y hx hy (fun l e => hl ⟨l, e⟩)

set_option maxRecDepth 100000 in
set_option maxHeartbeats 1000000 in
theorem FS.cut (h : FS lo w fb n v adj w0) (x y : Nat) (hx : x < n) (hy : y < n) (ha : adj (x + 1) (y + 1)) :
    Calls Tryz.prog 53 #[.pointer (some ⟨fb, 0, none⟩), .int .i64 (x : Int), .int .i64 (y : Int)] w0 fun e w' => e = .returned .nilIface ∧ FS lo w fb n v (delE adj (x + 1) (y + 1)) w' ∧ Keep w0 w'  := by
  have hs := hid (h.roadY x y hx hy _ (h.wood.near ha))
  clear h ha
  go_enter Tryz.func53, Tryz.ntmps53
  go_wp2_with fail
  refine hs.out.mono ?_
  rintro e w1 ⟨rfl, h1⟩
  have hz := h1.size
  obtain ⟨nb, N, T, sub, seq, pp, par, h1, hxN, hyN, hu, ht, hp, hq, _⟩ := h1
  obtain ⟨eL, eR, T', sub', seq', pp', par', e2, l2, a2⟩ := h1.lc.cut (by omega) (by omega) hyN hu ht hp hq
  obtain ⟨X, hX⟩ : ∃ X, x + 1 = X := ⟨_, rfl⟩
  obtain ⟨Y, hY⟩ : ∃ Y, y + 1 = Y := ⟨_, rfl⟩
  have hXY := hid (And.intro hX hY)
  have hX0 : X ≠ 0 := by omega
  have hY0 : Y ≠ 0 := by omega
  rw [hX] at hxN e2 a2 eL
  rw [hY] at hyN e2 a2 eL eR hz
  rw [hY]
  have nk := h1.lc.gd.inv.kid_ne hY0 false
  rw [show (T Y).k false = X from eL] at nk
  have hsh := shed_ok fb nb n N Y X (real T pp) w1 h1.fo hyN eL hX0 hxN nk (by show (T Y).r < N; rw [eR]; omega) (by show (T Y).r ≠ Y; rw [eR]; exact Ne.symm hY0) hY0
  rw [← e2] at hsh
  have hsh := hid hsh
  have hz : Hid (Calls Tryz.prog 87 #[.pointer (some ⟨fb, 0, none⟩), .int .i32 (Y : Int)] w1 fun e w' => e = .returned (.int .i64 2) ∧ w1 = w') := hid hz
  have fin : Hid (∀ w', Fo w' fb nb n N (real T' pp') → Turned (fun k => k = nb) w1 w' → FS lo w fb n v (delE adj X Y) w' ∧ Keep w0 w') := hid (fun w' k1 k2 => by
    have := h1.turn (adj' := delE adj X Y) k1 l2 (fun a b => by rw [a2 a b]; unfold delE; rw [h1.he a b]) k2
    exact ⟨this.end_, this.keep⟩)
  clear h1 hu ht hp hq eL eR e2 l2 a2 nk hs hX hY
  go_wp2_with fail
  refine hz.out.mono ?_
  rintro e w2 ⟨rfl, rfl⟩
  go_wp2_with fail
  refine hsh.out.mono ?_
  rintro e w3 ⟨rfl, f3, t3⟩
  have fin2 := hid (fin.out w3 f3 t3)
  clear f3 t3 hsh hz
  go_wp2_with fail
  go_ret
  exact ⟨rfl, by rw [hXY.out.1, hXY.out.2]; exact fin2.out.1, fin2.out.2⟩

end

end Go.Proofs.YtdmkbcbgjdmgdaaGreatDoor.Ct
