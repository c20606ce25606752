/- 'lift', walked. -/
import Derived.Test.YtpelpcplagfdiaaDoorLift
namespace Go.Proofs.YtpelpcplagfdiaaDoor
open Go.RowKit
set_option linter.unusedVariables false

set_option maxRecDepth 100000 in
set_option maxHeartbeats 2000000 in
theorem lift_l (fb nb n N x p b g : Nat) (tI : Int) (t : Bool) (T T1 T2 TR : Tb) (w : World) (h : Fo w fb nb n N T) (hx : x < N) (hp : p < N) (hb : b < N) (hg : g < N) (ep : (T x).up = p) (eb : (T x).k true = b) (eg : (T p).up = g) (htI : sI t = tI) (hTR : Hid (TR = (if g = 0 then upd T2 x { T2 x with up := g } else upd (upd T2 x { T2 x with up := g }) g ((upd T2 x { T2 x with up := g } g).setK t x))))
    (hw1 : Hid (∀ y, Fo y fb nb n N T → Calls Tryd.prog 57 #[.pointer (some ⟨fb, 0, none⟩), .int .i32 (x : Int)] y fun e w' => e = .returned (.int .i64 0) ∧ w' = y.drew))
    (hw2 : Hid (∀ y, Fo y fb nb n N T → Calls Tryd.prog 57 #[.pointer (some ⟨fb, 0, none⟩), .int .i32 (p : Int)] y fun e w' => e = .returned (.int .i64 tI) ∧ w' = y.drew))
    (hh1 : Hid (∀ y, Fo y fb nb n N T → Calls Tryd.prog 24 #[.pointer (some ⟨fb, 0, none⟩), .int .i32 (p : Int), .int .i64 0, .int .i32 (b : Int)] y fun e w' => e = .returned (.tuple #[]) ∧ Fo w' fb nb n N T1 ∧ Turned (fun k => k = nb) y w'))
    (hh2 : Hid (∀ y, Fo y fb nb n N T1 → Calls Tryd.prog 24 #[.pointer (some ⟨fb, 0, none⟩), .int .i32 (x : Int), .int .i64 1, .int .i32 (p : Int)] y fun e w' => e = .returned (.tuple #[]) ∧ Fo w' fb nb n N T2 ∧ Turned (fun k => k = nb) y w')) :
    Calls Tryd.prog 58 #[.pointer (some ⟨fb, 0, none⟩), .int .i32 (x : Int)] w fun e w' => e = .returned (.tuple #[]) ∧ Fo w' fb nb n N TR ∧ Turned (fun k => k = nb) w w' := by
  have hbig := h.big
  have hh := hid h
  have c1 := h.c1
  have cu : w.cell? ⟨nb, x * 9 + 5, none⟩ = some (.int .i32 (p : Int)) := by rw [← ep]; exact h.up hx
  have cp : w.cell? ⟨nb, p * 9 + 5, none⟩ = some (.int .i32 (g : Int)) := by rw [← eg]; exact h.up hp
  have q1 : (0 : Int) ≤ (x : Int) := by omega
  have q2 : (x : Int) < (N : Int) := by omega
  have q3 : (0 : Int) ≤ (p : Int) := by omega
  have q4 : (p : Int) < (N : Int) := by omega
  have q5 : (0 : Int) ≤ (g : Int) := by omega
  have q6 : (g : Int) < (N : Int) := by omega
  have ebh := hid eb
  have hth := hid htI
  clear h ep eg eb htI
  go_enter Tryd.func58, Tryd.ntmps58
  go_wp2_with fail
  go_region_held3 (fun w' => w'.cell? ⟨fb, 1, none⟩ = some (.slice (some ⟨nb, 0, none⟩) N N) ∧ w'.cell? ⟨nb, x * 9 + 5, none⟩ = some (.int .i32 (p : Int))) (go_keep) ((go_at_call 57; refine (hw1.out _ (by first | exact hh.out.drew | exact hh.out.drew.drew)).mono ?_; rintro e w' ⟨rfl, rfl⟩))
  go_wp2_with fail
  go_region_held3 (fun w' => w'.cell? ⟨fb, 1, none⟩ = some (.slice (some ⟨nb, 0, none⟩) N N) ∧ w'.cell? ⟨nb, p * 9 + 5, none⟩ = some (.int .i32 (g : Int))) (go_keep) ((go_at_call 57; refine (hw2.out _ (by first | exact hh.out.drew.drew.drew | exact hh.out.drew.drew)).mono ?_; rintro e w' ⟨rfl, rfl⟩))
  have h1 := hid hh.out.drew.drew.drew.drew
  have t1 := hid ((Turned.refl (fun k => k = nb) w).drew.drew.drew.drew)
  generalize w.drew.drew.drew.drew = w1 at h1 t1 ⊢
  clear c1 cu cp hh
  have c1 := h1.out.c1
  have cb : w1.cell? ⟨nb, x * 9 + 6 + 1, none⟩ = some (.int .i32 (b : Int)) := by rw [← ebh.out]; exact h1.out.at hx (k := 7) (by decide)
  go_wp2_with fail
  refine (hh1.out _ h1.out).mono ?_
  rintro e w2 ⟨rfl, h2, t2⟩
  have h2 := hid h2
  have t2 := hid (t1.out.trans t2)
  clear h1 t1 c1 cb
  go_wp2_with fail
  refine (hh2.out _ h2.out).mono ?_
  rintro e w3 ⟨rfl, h3, t3⟩
  have h3 := hid h3
  have t3 := hid (t2.out.trans t3)
  have c1 := h3.out.c1
  have cx := h3.out.up hx
  have fx := h3.out.fro (x * 9 + 5)
  have h4 := hid (h3.out.set 5 { T2 x with up := g } (u := .int .i32 (g : Int)) hx (by decide) rfl)
  have t4 := hid (t3.out.setCell (p := ⟨nb, x * 9 + 5, none⟩) rfl (.int .i32 (g : Int)))
  clear h2 t2
  go_upto_region 5 with fail
  generalize w3.setCell ⟨nb, x * 9 + 5, none⟩ (.int .i32 (g : Int)) = w4 at h4 t4 ⊢
  clear h3 t3 c1 cx fx
  by_cases hg0 : g = 0
  · subst hg0
    go_wp2_with fail
    go_end0
    exact ⟨rfl, by rw [hTR.out, if_pos trivial]; exact h4.out, t4.out⟩
  · have tg : ((g : Int) != 0) = true := by simp; omega
    rw [if_neg hg0] at hTR
    generalize upd T2 x { T2 x with up := g } = T3 at h4 hTR
    have c1 := h4.out.c1
    have hg0h := hid hg0
    clear hg0
    have f6 := h4.out.fro (g * 9 + 6)
    have f7 := h4.out.fro (g * 9 + 6 + 1)
    have g6 := h4.out.l hg
    have g7 : w4.cell? ⟨nb, g * 9 + 6 + 1, none⟩ = some (.int .i32 ((T3 g).r : Int)) := h4.out.r hg
    cases t
    · obtain rfl : tI = 0 := hth.out.symm
      go_wp2_with fail
      go_end0
      exact ⟨rfl, by rw [hTR.out]; exact h4.out.set 6 ((T3 g).setK false x) hg (by decide) rfl, t4.out.setCell (p := ⟨nb, g * 9 + 6, none⟩) rfl _⟩
    · obtain rfl : tI = 1 := hth.out.symm
      go_wp2_with fail
      go_end0
      exact ⟨rfl, by rw [hTR.out]; exact h4.out.set 7 ((T3 g).setK true x) hg (by decide) rfl, t4.out.setCell (p := ⟨nb, g * 9 + 6 + 1, none⟩) rfl _⟩

set_option maxRecDepth 100000 in
set_option maxHeartbeats 2000000 in
theorem lift_r (fb nb n N x p b g : Nat) (tI : Int) (t : Bool) (T T1 T2 TR : Tb) (w : World) (h : Fo w fb nb n N T) (hx : x < N) (hp : p < N) (hb : b < N) (hg : g < N) (ep : (T x).up = p) (eb : (T x).k false = b) (eg : (T p).up = g) (htI : sI t = tI) (hTR : Hid (TR = (if g = 0 then upd T2 x { T2 x with up := g } else upd (upd T2 x { T2 x with up := g }) g ((upd T2 x { T2 x with up := g } g).setK t x))))
    (hw1 : Hid (∀ y, Fo y fb nb n N T → Calls Tryd.prog 57 #[.pointer (some ⟨fb, 0, none⟩), .int .i32 (x : Int)] y fun e w' => e = .returned (.int .i64 1) ∧ w' = y.drew))
    (hw2 : Hid (∀ y, Fo y fb nb n N T → Calls Tryd.prog 57 #[.pointer (some ⟨fb, 0, none⟩), .int .i32 (p : Int)] y fun e w' => e = .returned (.int .i64 tI) ∧ w' = y.drew))
    (hh1 : Hid (∀ y, Fo y fb nb n N T → Calls Tryd.prog 24 #[.pointer (some ⟨fb, 0, none⟩), .int .i32 (p : Int), .int .i64 1, .int .i32 (b : Int)] y fun e w' => e = .returned (.tuple #[]) ∧ Fo w' fb nb n N T1 ∧ Turned (fun k => k = nb) y w'))
    (hh2 : Hid (∀ y, Fo y fb nb n N T1 → Calls Tryd.prog 24 #[.pointer (some ⟨fb, 0, none⟩), .int .i32 (x : Int), .int .i64 0, .int .i32 (p : Int)] y fun e w' => e = .returned (.tuple #[]) ∧ Fo w' fb nb n N T2 ∧ Turned (fun k => k = nb) y w')) :
    Calls Tryd.prog 58 #[.pointer (some ⟨fb, 0, none⟩), .int .i32 (x : Int)] w fun e w' => e = .returned (.tuple #[]) ∧ Fo w' fb nb n N TR ∧ Turned (fun k => k = nb) w w' := by
  have hbig := h.big
  have hh := hid h
  have c1 := h.c1
  have cu : w.cell? ⟨nb, x * 9 + 5, none⟩ = some (.int .i32 (p : Int)) := by rw [← ep]; exact h.up hx
  have cp : w.cell? ⟨nb, p * 9 + 5, none⟩ = some (.int .i32 (g : Int)) := by rw [← eg]; exact h.up hp
  have q1 : (0 : Int) ≤ (x : Int) := by omega
  have q2 : (x : Int) < (N : Int) := by omega
  have q3 : (0 : Int) ≤ (p : Int) := by omega
  have q4 : (p : Int) < (N : Int) := by omega
  have q5 : (0 : Int) ≤ (g : Int) := by omega
  have q6 : (g : Int) < (N : Int) := by omega
  have ebh := hid eb
  have hth := hid htI
  clear h ep eg eb htI
  go_enter Tryd.func58, Tryd.ntmps58
  go_wp2_with fail
  go_region_held3 (fun w' => w'.cell? ⟨fb, 1, none⟩ = some (.slice (some ⟨nb, 0, none⟩) N N) ∧ w'.cell? ⟨nb, x * 9 + 5, none⟩ = some (.int .i32 (p : Int))) (go_keep) ((go_at_call 57; refine (hw1.out _ (by first | exact hh.out.drew | exact hh.out.drew.drew)).mono ?_; rintro e w' ⟨rfl, rfl⟩))
  go_wp2_with fail
  go_region_held3 (fun w' => w'.cell? ⟨fb, 1, none⟩ = some (.slice (some ⟨nb, 0, none⟩) N N) ∧ w'.cell? ⟨nb, p * 9 + 5, none⟩ = some (.int .i32 (g : Int))) (go_keep) ((go_at_call 57; refine (hw2.out _ (by first | exact hh.out.drew.drew.drew | exact hh.out.drew.drew)).mono ?_; rintro e w' ⟨rfl, rfl⟩))
  have h1 := hid hh.out.drew.drew.drew.drew
  have t1 := hid ((Turned.refl (fun k => k = nb) w).drew.drew.drew.drew)
  generalize w.drew.drew.drew.drew = w1 at h1 t1 ⊢
  clear c1 cu cp hh
  have c1 := h1.out.c1
  have cb : w1.cell? ⟨nb, x * 9 + 6, none⟩ = some (.int .i32 (b : Int)) := by rw [← ebh.out]; exact h1.out.at hx (k := 6) (by decide)
  go_wp2_with fail
  refine (hh1.out _ h1.out).mono ?_
  rintro e w2 ⟨rfl, h2, t2⟩
  have h2 := hid h2
  have t2 := hid (t1.out.trans t2)
  clear h1 t1 c1 cb
  go_wp2_with fail
  refine (hh2.out _ h2.out).mono ?_
  rintro e w3 ⟨rfl, h3, t3⟩
  have h3 := hid h3
  have t3 := hid (t2.out.trans t3)
  have c1 := h3.out.c1
  have cx := h3.out.up hx
  have fx := h3.out.fro (x * 9 + 5)
  have h4 := hid (h3.out.set 5 { T2 x with up := g } (u := .int .i32 (g : Int)) hx (by decide) rfl)
  have t4 := hid (t3.out.setCell (p := ⟨nb, x * 9 + 5, none⟩) rfl (.int .i32 (g : Int)))
  clear h2 t2
  go_upto_region 5 with fail
  generalize w3.setCell ⟨nb, x * 9 + 5, none⟩ (.int .i32 (g : Int)) = w4 at h4 t4 ⊢
  clear h3 t3 c1 cx fx
  by_cases hg0 : g = 0
  · subst hg0
    go_wp2_with fail
    go_end0
    exact ⟨rfl, by rw [hTR.out, if_pos trivial]; exact h4.out, t4.out⟩
  · have tg : ((g : Int) != 0) = true := by simp; omega
    rw [if_neg hg0] at hTR
    generalize upd T2 x { T2 x with up := g } = T3 at h4 hTR
    have c1 := h4.out.c1
    have hg0h := hid hg0
    clear hg0
    have f6 := h4.out.fro (g * 9 + 6)
    have f7 := h4.out.fro (g * 9 + 6 + 1)
    have g6 := h4.out.l hg
    have g7 : w4.cell? ⟨nb, g * 9 + 6 + 1, none⟩ = some (.int .i32 ((T3 g).r : Int)) := h4.out.r hg
    cases t
    · obtain rfl : tI = 0 := hth.out.symm
      go_wp2_with fail
      go_end0
      exact ⟨rfl, by rw [hTR.out]; exact h4.out.set 6 ((T3 g).setK false x) hg (by decide) rfl, t4.out.setCell (p := ⟨nb, g * 9 + 6, none⟩) rfl _⟩
    · obtain rfl : tI = 1 := hth.out.symm
      go_wp2_with fail
      go_end0
      exact ⟨rfl, by rw [hTR.out]; exact h4.out.set 7 ((T3 g).setK true x) hg (by decide) rfl, t4.out.setCell (p := ⟨nb, g * 9 + 6 + 1, none⟩) rfl _⟩

theorem lift_ok (fb nb n N x p b g c a : Nat) (s : Bool) (T : Tb) (w : World) (h : Fo w fb nb n N T) (hN : Near T x p b g c a s) (hx : x < N) (hp : p < N) (hb : b < N) (hg : g < N) (hc : c < N) (ha : a < N) :
    Calls Tryd.prog 58 #[.pointer (some ⟨fb, 0, none⟩), .int .i32 (x : Int)] w fun e w' => e = .returned (.tuple #[]) ∧ Fo w' fb nb n N (liftT T x) ∧ Turned (fun k => k = nb) w w' := by
  obtain ⟨ep, es, es', eb, eg, ec, ea, nxp, nbx, nbp, nax, nap, nab, ncp, ncx, ncb, ngx, ngp, ngb⟩ := hN
  have hl : liftT T x = (if g = 0 then upd (hangT (hangT T p s b) x (!s) p) x { hangT (hangT T p s b) x (!s) p x with up := g } else upd (upd (hangT (hangT T p s b) x (!s) p) x { hangT (hangT T p s b) x (!s) p x with up := g }) g ((upd (hangT (hangT T p s b) x (!s) p) x { hangT (hangT T p s b) x (!s) p x with up := g } g).setK (whr T p) x)) := by
    unfold liftT
    rw [ep, es', eb, eg]
  have x1 : hangT T p s b x = T x := hangT_other nxp (fun _ => nbx.symm)
  have hw1 : Hid (∀ y, Fo y fb nb n N T → Calls Tryd.prog 57 #[.pointer (some ⟨fb, 0, none⟩), .int .i32 (x : Int)] y fun e w' => e = .returned (.int .i64 (sI s)) ∧ w' = y.drew) := fun y hy => by
    have := where_ok fb nb n N x T y hy hx (by rw [ep]; exact hp)
    rw [es'] at this
    exact this
  have hw2 : Hid (∀ y, Fo y fb nb n N T → Calls Tryd.prog 57 #[.pointer (some ⟨fb, 0, none⟩), .int .i32 (p : Int)] y fun e w' => e = .returned (.int .i64 (sI (whr T p))) ∧ w' = y.drew) := fun y hy => where_ok fb nb n N p T y hy hp (by rw [eg]; exact hg)
  have hh1 : Hid (∀ y, Fo y fb nb n N T → Calls Tryd.prog 24 #[.pointer (some ⟨fb, 0, none⟩), .int .i32 (p : Int), .int .i64 (sI s), .int .i32 (b : Int)] y fun e w' => e = .returned (.tuple #[]) ∧ Fo w' fb nb n N (hangT T p s b) ∧ Turned (fun k => k = nb) y w') := fun y hy => hang_ok fb nb n N p b s T y hy hp hb nbp (by rw [ec]; exact hc) (by rw [ec]; exact ncp)
  have hh2 : Hid (∀ y, Fo y fb nb n N (hangT T p s b) → Calls Tryd.prog 24 #[.pointer (some ⟨fb, 0, none⟩), .int .i32 (x : Int), .int .i64 (sI (!s)), .int .i32 (p : Int)] y fun e w' => e = .returned (.tuple #[]) ∧ Fo w' fb nb n N (hangT (hangT T p s b) x (!s) p) ∧ Turned (fun k => k = nb) y w') := fun y hy => hang_ok fb nb n N x p (!s) _ y hy hx hp nxp.symm (by rw [x1, Bool.not_not, ea]; exact ha) (by rw [x1, Bool.not_not, ea]; exact nax)
  have hl := hid hl
  cases s
  · exact lift_l fb nb n N x p b g _ (whr T p) T _ _ _ w h hx hp hb hg ep eb eg rfl hl hw1 hw2 hh1 hh2
  · exact lift_r fb nb n N x p b g _ (whr T p) T _ _ _ w h hx hp hb hg ep eb eg rfl hl hw1 hw2 hh1 hh2

end Go.Proofs.YtpelpcplagfdiaaDoor
