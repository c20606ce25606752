/- 'lift', walked. -/
import Derived.Test.YtnkgpjjlgbggcaaDoorWhere6
namespace Go.Proofs.YtnkgpjjlgbggcaaDoor
open Go.RowKit
set_option linter.unusedVariables false

set_option maxRecDepth 100000 in
set_option maxHeartbeats 2000000 in
theorem lift_l (fb nb n N x p b g : Nat) (tI : Int) (t : Bool) (T T1 T2 TR : Tb) (w : World) (h : Fo w fb nb n N T) (hx : x < N) (hp : p < N) (hb : b < N) (hg : g < N) (ep : (T x).up = p) (eb : (T x).k true = b) (eg : (T p).up = g) (hTR : Hid ((tI = 2 ∧ TR = upd T2 x { T2 x with up := g }) ∨ (sI t = tI ∧ TR = upd (upd T2 x { T2 x with up := g }) g ((upd T2 x { T2 x with up := g } g).setK t x))))
    (hw1 : Hid (∀ y, Fo y fb nb n N T → Calls Tryd.prog 43 #[.pointer (some ⟨fb, 0, none⟩), .int .i32 (x : Int)] y fun e w' => e = .returned (.int .i64 0) ∧ w' = y.drew))
    (hw2 : Hid (∀ y, Fo y fb nb n N T → Calls Tryd.prog 43 #[.pointer (some ⟨fb, 0, none⟩), .int .i32 (p : Int)] y fun e w' => e = .returned (.int .i64 tI) ∧ w' = y.drew))
    (hh1 : Hid (∀ y, Fo y fb nb n N T → Calls Tryd.prog 41 #[.pointer (some ⟨fb, 0, none⟩), .int .i32 (p : Int), .int .i64 0, .int .i32 (b : Int)] y fun e w' => e = .returned (.tuple #[]) ∧ Fo w' fb nb n N T1 ∧ Turned (fun k => k = nb) y w'))
    (hh2 : Hid (∀ y, Fo y fb nb n N T1 → Calls Tryd.prog 41 #[.pointer (some ⟨fb, 0, none⟩), .int .i32 (x : Int), .int .i64 1, .int .i32 (p : Int)] y fun e w' => e = .returned (.tuple #[]) ∧ Fo w' fb nb n N T2 ∧ Turned (fun k => k = nb) y w')) :
    Calls Tryd.prog 45 #[.pointer (some ⟨fb, 0, none⟩), .int .i32 (x : Int)] w fun e w' => e = .returned (.tuple #[]) ∧ Fo w' fb nb n N TR ∧ Turned (fun k => k = nb) w w' := by
  have hbig := h.big
  have hh := hid h
  have c1 := h.c1
  have cu : w.cell? ⟨nb, x * 9 + 5, none⟩ = some (.int .i32 (p : Int)) := by rw [← ep]; exact h.up hx
  have cp : w.cell? ⟨nb, p * 9 + 5, none⟩ = some (.int .i32 (g : Int)) := by rw [← eg]; exact h.up hp
  have q1 : (0 : Int) ≤ (x : Int) := by omega
  have q2 : (x : Int) < (N : Int) := by omega
  have q3 : (0 : Int) ≤ (p : Int) := by omega
  have q4 : (p : Int) < (N : Int) := by omega
  have q5 : (0 : Int) ≤ (g : Int) := by omega
  have q6 : (g : Int) < (N : Int) := by omega
  have ebh := hid eb
  clear h ep eg eb
  go_enter Tryd.func45, Tryd.ntmps45
  go_wp2_with fail
  go_region_held3 (fun w' => w'.cell? ⟨fb, 1, none⟩ = some (.slice (some ⟨nb, 0, none⟩) N N) ∧ w'.cell? ⟨nb, x * 9 + 5, none⟩ = some (.int .i32 (p : Int))) (go_keep) ((go_at_call 43; refine (hw1.out _ (by first | exact hh.out.drew | exact hh.out.drew.drew)).mono ?_; rintro e w' ⟨rfl, rfl⟩))
  go_wp2_with fail
  go_region_held3 (fun w' => w'.cell? ⟨fb, 1, none⟩ = some (.slice (some ⟨nb, 0, none⟩) N N) ∧ w'.cell? ⟨nb, p * 9 + 5, none⟩ = some (.int .i32 (g : Int))) (go_keep) ((go_at_call 43; refine (hw2.out _ (by first | exact hh.out.drew.drew.drew | exact hh.out.drew.drew)).mono ?_; rintro e w' ⟨rfl, rfl⟩))
  have h1 := hid hh.out.drew.drew.drew.drew
  have t1 := hid ((Turned.refl (fun k => k = nb) w).drew.drew.drew.drew)
  generalize w.drew.drew.drew.drew = w1 at h1 t1 ⊢
  clear c1 cu cp hh
  have c1 := h1.out.c1
  have cb : w1.cell? ⟨nb, x * 9 + 6 + 1, none⟩ = some (.int .i32 (b : Int)) := by rw [← ebh.out]; exact h1.out.at hx (k := 7) (by decide)
  go_wp2_with fail
  refine (hh1.out _ h1.out).mono ?_
  rintro e w2 ⟨rfl, h2, t2⟩
  have h2 := hid h2
  have t2 := hid (t1.out.trans t2)
  clear h1 t1 c1 cb
  go_wp2_with fail
  refine (hh2.out _ h2.out).mono ?_
  rintro e w3 ⟨rfl, h3, t3⟩
  have h3 := hid h3
  have t3 := hid (t2.out.trans t3)
  have c1 := h3.out.c1
  have cx := h3.out.up hx
  have fx := h3.out.fro (x * 9 + 5)
  have h4 := hid (h3.out.set 5 { T2 x with up := g } (u := .int .i32 (g : Int)) hx (by decide) rfl)
  have t4 := hid (t3.out.setCell (p := ⟨nb, x * 9 + 5, none⟩) rfl (.int .i32 (g : Int)))
  clear h2 t2
  go_upto_region 5 with fail
  generalize w3.setCell ⟨nb, x * 9 + 5, none⟩ (.int .i32 (g : Int)) = w4 at h4 t4 ⊢
  clear h3 t3 c1 cx fx
  rcases hTR.out with ⟨rfl, hR⟩ | ⟨hth, hR⟩
  · have hR := hid hR
    clear hTR
    go_wp2_with fail
    go_end0
    exact ⟨rfl, by rw [hR.out]; exact h4.out, t4.out⟩
  · have hth := hid hth
    replace hTR := hid hR
    clear hR
    generalize upd T2 x { T2 x with up := g } = T3 at h4 hTR
    have c1 := h4.out.c1
    have f6 := h4.out.fro (g * 9 + 6)
    have f7 := h4.out.fro (g * 9 + 6 + 1)
    have g6 := h4.out.l hg
    have g7 : w4.cell? ⟨nb, g * 9 + 6 + 1, none⟩ = some (.int .i32 ((T3 g).r : Int)) := h4.out.r hg
    cases t
    · obtain rfl : tI = 0 := hth.out.symm
      go_wp2_with fail
      go_end0
      exact ⟨rfl, by rw [hTR.out]; exact h4.out.set 6 ((T3 g).setK false x) hg (by decide) rfl, t4.out.setCell (p := ⟨nb, g * 9 + 6, none⟩) rfl _⟩
    · obtain rfl : tI = 1 := hth.out.symm
      go_wp2_with fail
      go_end0
      exact ⟨rfl, by rw [hTR.out]; exact h4.out.set 7 ((T3 g).setK true x) hg (by decide) rfl, t4.out.setCell (p := ⟨nb, g * 9 + 6 + 1, none⟩) rfl _⟩

set_option maxRecDepth 100000 in
set_option maxHeartbeats 2000000 in
theorem lift_r (fb nb n N x p b g : Nat) (tI : Int) (t : Bool) (T T1 T2 TR : Tb) (w : World) (h : Fo w fb nb n N T) (hx : x < N) (hp : p < N) (hb : b < N) (hg : g < N) (ep : (T x).up = p) (eb : (T x).k false = b) (eg : (T p).up = g) (hTR : Hid ((tI = 2 ∧ TR = upd T2 x { T2 x with up := g }) ∨ (sI t = tI ∧ TR = upd (upd T2 x { T2 x with up := g }) g ((upd T2 x { T2 x with up := g } g).setK t x))))
    (hw1 : Hid (∀ y, Fo y fb nb n N T → Calls Tryd.prog 43 #[.pointer (some ⟨fb, 0, none⟩), .int .i32 (x : Int)] y fun e w' => e = .returned (.int .i64 1) ∧ w' = y.drew))
    (hw2 : Hid (∀ y, Fo y fb nb n N T → Calls Tryd.prog 43 #[.pointer (some ⟨fb, 0, none⟩), .int .i32 (p : Int)] y fun e w' => e = .returned (.int .i64 tI) ∧ w' = y.drew))
    (hh1 : Hid (∀ y, Fo y fb nb n N T → Calls Tryd.prog 41 #[.pointer (some ⟨fb, 0, none⟩), .int .i32 (p : Int), .int .i64 1, .int .i32 (b : Int)] y fun e w' => e = .returned (.tuple #[]) ∧ Fo w' fb nb n N T1 ∧ Turned (fun k => k = nb) y w'))
    (hh2 : Hid (∀ y, Fo y fb nb n N T1 → Calls Tryd.prog 41 #[.pointer (some ⟨fb, 0, none⟩), .int .i32 (x : Int), .int .i64 0, .int .i32 (p : Int)] y fun e w' => e = .returned (.tuple #[]) ∧ Fo w' fb nb n N T2 ∧ Turned (fun k => k = nb) y w')) :
    Calls Tryd.prog 45 #[.pointer (some ⟨fb, 0, none⟩), .int .i32 (x : Int)] w fun e w' => e = .returned (.tuple #[]) ∧ Fo w' fb nb n N TR ∧ Turned (fun k => k = nb) w w' := by
  have hbig := h.big
  have hh := hid h
  have c1 := h.c1
  have cu : w.cell? ⟨nb, x * 9 + 5, none⟩ = some (.int .i32 (p : Int)) := by rw [← ep]; exact h.up hx
  have cp : w.cell? ⟨nb, p * 9 + 5, none⟩ = some (.int .i32 (g : Int)) := by rw [← eg]; exact h.up hp
  have q1 : (0 : Int) ≤ (x : Int) := by omega
  have q2 : (x : Int) < (N : Int) := by omega
  have q3 : (0 : Int) ≤ (p : Int) := by omega
  have q4 : (p : Int) < (N : Int) := by omega
  have q5 : (0 : Int) ≤ (g : Int) := by omega
  have q6 : (g : Int) < (N : Int) := by omega
  have ebh := hid eb
  clear h ep eg eb
  go_enter Tryd.func45, Tryd.ntmps45
  go_wp2_with fail
  go_region_held3 (fun w' => w'.cell? ⟨fb, 1, none⟩ = some (.slice (some ⟨nb, 0, none⟩) N N) ∧ w'.cell? ⟨nb, x * 9 + 5, none⟩ = some (.int .i32 (p : Int))) (go_keep) ((go_at_call 43; refine (hw1.out _ (by first | exact hh.out.drew | exact hh.out.drew.drew)).mono ?_; rintro e w' ⟨rfl, rfl⟩))
  go_wp2_with fail
  go_region_held3 (fun w' => w'.cell? ⟨fb, 1, none⟩ = some (.slice (some ⟨nb, 0, none⟩) N N) ∧ w'.cell? ⟨nb, p * 9 + 5, none⟩ = some (.int .i32 (g : Int))) (go_keep) ((go_at_call 43; refine (hw2.out _ (by first | exact hh.out.drew.drew.drew | exact hh.out.drew.drew)).mono ?_; rintro e w' ⟨rfl, rfl⟩))
  have h1 := hid hh.out.drew.drew.drew.drew
  have t1 := hid ((Turned.refl (fun k => k = nb) w).drew.drew.drew.drew)
  generalize w.drew.drew.drew.drew = w1 at h1 t1 ⊢
  clear c1 cu cp hh
  have c1 := h1.out.c1
  have cb : w1.cell? ⟨nb, x * 9 + 6, none⟩ = some (.int .i32 (b : Int)) := by rw [← ebh.out]; exact h1.out.at hx (k := 6) (by decide)
  go_wp2_with fail
  refine (hh1.out _ h1.out).mono ?_
  rintro e w2 ⟨rfl, h2, t2⟩
  have h2 := hid h2
  have t2 := hid (t1.out.trans t2)
  clear h1 t1 c1 cb
  go_wp2_with fail
  refine (hh2.out _ h2.out).mono ?_
  rintro e w3 ⟨rfl, h3, t3⟩
  have h3 := hid h3
  have t3 := hid (t2.out.trans t3)
  have c1 := h3.out.c1
  have cx := h3.out.up hx
  have fx := h3.out.fro (x * 9 + 5)
  have h4 := hid (h3.out.set 5 { T2 x with up := g } (u := .int .i32 (g : Int)) hx (by decide) rfl)
  have t4 := hid (t3.out.setCell (p := ⟨nb, x * 9 + 5, none⟩) rfl (.int .i32 (g : Int)))
  clear h2 t2
  go_upto_region 5 with fail
  generalize w3.setCell ⟨nb, x * 9 + 5, none⟩ (.int .i32 (g : Int)) = w4 at h4 t4 ⊢
  clear h3 t3 c1 cx fx
  rcases hTR.out with ⟨rfl, hR⟩ | ⟨hth, hR⟩
  · have hR := hid hR
    clear hTR
    go_wp2_with fail
    go_end0
    exact ⟨rfl, by rw [hR.out]; exact h4.out, t4.out⟩
  · have hth := hid hth
    replace hTR := hid hR
    clear hR
    generalize upd T2 x { T2 x with up := g } = T3 at h4 hTR
    have c1 := h4.out.c1
    have f6 := h4.out.fro (g * 9 + 6)
    have f7 := h4.out.fro (g * 9 + 6 + 1)
    have g6 := h4.out.l hg
    have g7 : w4.cell? ⟨nb, g * 9 + 6 + 1, none⟩ = some (.int .i32 ((T3 g).r : Int)) := h4.out.r hg
    cases t
    · obtain rfl : tI = 0 := hth.out.symm
      go_wp2_with fail
      go_end0
      exact ⟨rfl, by rw [hTR.out]; exact h4.out.set 6 ((T3 g).setK false x) hg (by decide) rfl, t4.out.setCell (p := ⟨nb, g * 9 + 6, none⟩) rfl _⟩
    · obtain rfl : tI = 1 := hth.out.symm
      go_wp2_with fail
      go_end0
      exact ⟨rfl, by rw [hTR.out]; exact h4.out.set 7 ((T3 g).setK true x) hg (by decide) rfl, t4.out.setCell (p := ⟨nb, g * 9 + 6 + 1, none⟩) rfl _⟩

variable {T : Tb} {v : Nat → Int} {sub seq : Nat → List Nat} {N : Nat} {pp par : Nat → Nat}

/-- What a lift makes of the table as it is kept. -/
theorem real_lift {x p : Nat} (hx : x ≠ 0) (hp : p ≠ 0) (ep : (T x).up = p) (e : pp p = pp x) (s : Bool) (b : Nat) (es : whr T x = s) (eb : (T x).k (!s) = b) :
    let T2 := hangT (hangT (real T pp) p s b) x (!s) p
    let T3 := upd T2 x { T2 x with up := (real T pp p).up }
    real (liftT T x) pp = if (T p).up = 0 then T3 else upd T3 (real T pp p).up ((T3 (real T pp p).up).setK (whr T p) x) := by
  have h2 : real (hangT (hangT T p s b) x (!s) p) pp = hangT (hangT (real T pp) p s b) x (!s) p := by rw [real_hang _ hx, real_hang _ hp]
  have hl : liftT T x = (if (T p).up = 0 then upd (hangT (hangT T p s b) x (!s) p) x { hangT (hangT T p s b) x (!s) p x with up := (T p).up } else upd (upd (hangT (hangT T p s b) x (!s) p) x { hangT (hangT T p s b) x (!s) p x with up := (T p).up }) (T p).up ((upd (hangT (hangT T p s b) x (!s) p) x { hangT (hangT T p s b) x (!s) p x with up := (T p).up } (T p).up).setK (whr T p) x)) := by
    unfold liftT
    rw [ep, es, eb]
  have h3 : real (upd (hangT (hangT T p s b) x (!s) p) x { hangT (hangT T p s b) x (!s) p x with up := (T p).up }) pp = upd (hangT (hangT (real T pp) p s b) x (!s) p) x { hangT (hangT (real T pp) p s b) x (!s) p x with up := (real T pp p).up } := by
    rw [real_upd, h2, ← h2]
    congr 1
    show rn pp x _ = _
    unfold rn
    have : (real T pp p).up = if (T p).up = 0 then pp x else (T p).up := by rw [← e]; rfl
    rw [this]
    rfl
  intro T2 T3
  have h3' : real (upd (hangT (hangT T p s b) x (!s) p) x { hangT (hangT T p s b) x (!s) p x with up := (T p).up }) pp = T3 := h3
  rw [hl]
  clear h2 hl h3
  generalize upd (hangT (hangT T p s b) x (!s) p) x { hangT (hangT T p s b) x (!s) p x with up := (T p).up } = X at h3'
  by_cases hg : (T p).up = 0
  · rw [if_pos hg, if_pos hg]; exact h3'
  · rw [if_neg hg, if_neg hg, real_upd, rn_setK, show rn pp (T p).up (X (T p).up) = real X pp (T p).up from rfl, h3', real_up1 hg]

theorem lift_ok (fb nb n x p b g c a : Nat) (s : Bool) (w : World) (h : Fo w fb nb n N (real T pp)) (hL : Lc N T v sub seq pp par) (hx0 : x ≠ 0) (hp0 : p ≠ 0) (hN : Near T x p b g c a s) (hx : x < N) (hp : p < N) (hb : b < N) (hc : c < N) (ha : a < N) :
    Calls Tryd.prog 45 #[.pointer (some ⟨fb, 0, none⟩), .int .i32 (x : Int)] w fun e w' => e = .returned (.tuple #[]) ∧ Fo w' fb nb n N (real (liftT T x) pp) ∧ Turned (fun k => k = nb) w w' := by
  obtain ⟨ep, es, es', eb, eg, ec, ea, nxp, nbx, nbp, nax, nap, nab, ncp, ncx, ncb, ngx, ngp, ngb⟩ := hN
  have hux : (T x).up ≠ 0 := by rw [ep]; exact hp0
  have hpp : pp p = pp x := hL.pst p x hp0 hx0 (by have := seq_up hL.gd.inv hx0 hux; rw [ep] at this; exact this)
  have hl := real_lift (T := T) (pp := pp) hx0 hp0 ep hpp s b es' eb
  have rp : (real T pp x).up = p := by rw [real_up1 hux]; exact ep
  have hgN := hL.up_lt p
  obtain ⟨G, hG⟩ : ∃ G, (real T pp p).up = G := ⟨_, rfl⟩
  rw [hG] at hl hgN
  have x1 : hangT (real T pp) p s b x = real T pp x := hangT_other nxp (fun _ => nbx.symm)
  have hw1 : Hid (∀ y, Fo y fb nb n N (real T pp) → Calls Tryd.prog 43 #[.pointer (some ⟨fb, 0, none⟩), .int .i32 (x : Int)] y fun e w' => e = .returned (.int .i64 (sI s)) ∧ w' = y.drew) := fun y hy => by
    have := where_ok fb nb n N x (real T pp) y hy hx (hL.up_lt x)
    rw [hL.where_in hx0 hux, es'] at this
    exact this
  have hw2 : Hid (∀ y, Fo y fb nb n N (real T pp) → Calls Tryd.prog 43 #[.pointer (some ⟨fb, 0, none⟩), .int .i32 (p : Int)] y fun e w' => e = .returned (.int .i64 (wI (real T pp) p)) ∧ w' = y.drew) := fun y hy => where_ok fb nb n N p (real T pp) y hy hp (hL.up_lt p)
  have hh1 : Hid (∀ y, Fo y fb nb n N (real T pp) → Calls Tryd.prog 41 #[.pointer (some ⟨fb, 0, none⟩), .int .i32 (p : Int), .int .i64 (sI s), .int .i32 (b : Int)] y fun e w' => e = .returned (.tuple #[]) ∧ Fo w' fb nb n N (hangT (real T pp) p s b) ∧ Turned (fun k => k = nb) y w') := fun y hy => hang_ok fb nb n N p b s (real T pp) y hy hp hb nbp (by rw [real_k, ec]; exact hc) (by rw [real_k, ec]; exact ncp)
  have hh2 : Hid (∀ y, Fo y fb nb n N (hangT (real T pp) p s b) → Calls Tryd.prog 41 #[.pointer (some ⟨fb, 0, none⟩), .int .i32 (x : Int), .int .i64 (sI (!s)), .int .i32 (p : Int)] y fun e w' => e = .returned (.tuple #[]) ∧ Fo w' fb nb n N (hangT (hangT (real T pp) p s b) x (!s) p) ∧ Turned (fun k => k = nb) y w') := fun y hy => hang_ok fb nb n N x p (!s) _ y hy hx hp nxp.symm (by rw [x1, real_k, Bool.not_not, ea]; exact ha) (by rw [x1, real_k, Bool.not_not, ea]; exact nax)
  have hR : Hid ((wI (real T pp) p = 2 ∧ real (liftT T x) pp = upd (hangT (hangT (real T pp) p s b) x (!s) p) x { hangT (hangT (real T pp) p s b) x (!s) p x with up := G }) ∨ (sI (whr T p) = wI (real T pp) p ∧ real (liftT T x) pp = upd (upd (hangT (hangT (real T pp) p s b) x (!s) p) x { hangT (hangT (real T pp) p s b) x (!s) p x with up := G }) G ((upd (hangT (hangT (real T pp) p s b) x (!s) p) x { hangT (hangT (real T pp) p s b) x (!s) p x with up := G } G).setK (whr T p) x))) := by
    by_cases hg : (T p).up = 0
    · left
      refine ⟨hL.where_top hp0 hg, ?_⟩
      rw [hl, if_pos hg]
    · right
      refine ⟨(hL.where_in hp0 hg).symm, ?_⟩
      rw [hl, if_neg hg]
  generalize real (liftT T x) pp = TR at hR ⊢
  generalize wI (real T pp) p = tI at hR hw2
  cases s
  · exact lift_l fb nb n N x p b G tI (whr T p) (real T pp) _ _ _ w h hx hp hb hgN rp ((real_k x true).trans eb) hG hR hw1 hw2 hh1 hh2
  · exact lift_r fb nb n N x p b G tI (whr T p) (real T pp) _ _ _ w h hx hp hb hgN rp ((real_k x false).trans eb) hG hR hw1 hw2 hh1 hh2

end Go.Proofs.YtnkgpjjlgbggcaaDoor
