/- 'tally', walked. -/
import Derived.Test.YtpelpcplagfdiaaDoorNodes
import Derived.Test.YtpelpcplagfdiaaDoorChecked
import Derived.Deep.RegionHeld3
namespace Go.Proofs.YtpelpcplagfdiaaDoor
open Go.RowKit

theorem far {w : World} {b o o' : Nat} {u : Value} (h : ¬ o' = o) : (w.setCell ⟨b, o, none⟩ u).cell? ⟨b, o', none⟩ = w.cell? ⟨b, o', none⟩ :=
  World.cell?_setCell_other _ _ _ _ (fun e => h (congrArg Addr.off e).symm)

theorem kdrew (w : World) (a : Addr) : w.drew.cell? a = w.cell? a := rfl

theorem kfar {w : World} {b x y k : Nat} {u z : Value} (h : y ≠ x) (hc : w.cell? ⟨b, y * 9 + k, none⟩ = some u) : (w.setCell ⟨b, x * 9 + k, none⟩ z).drew.cell? ⟨b, y * 9 + k, none⟩ = some u := by
  rw [kdrew, far (by omega)]; exact hc

theorem kfar0 {w : World} {b x k : Nat} {u z : Value} (hk : k ≠ 0) (hc : w.cell? ⟨b, x * 9, none⟩ = some u) : (w.setCell ⟨b, x * 9 + k, none⟩ z).drew.cell? ⟨b, x * 9, none⟩ = some u := by
  rw [kdrew, far (by omega)]; exact hc

theorem upd_self (T : Tb) (i : Nat) : upd T i (T i) = T := by
  funext j; unfold upd; split
  · next e => rw [e]
  · rfl

theorem upd_upd (T : Tb) (i : Nat) (a b : Nd) : upd (upd T i a) i b = upd T i b := by
  funext j; unfold upd; split <;> rfl

theorem Fo.set2 {w : World} {fb nb n N : Nat} {T : Tb} {a : Nd} {i : Nat} (h : Fo w fb nb n N (upd T i a)) (k : Nat) {u : Value} (b : Nd) (hi : i < N) (hk : k < 9) (hn : nc b = (nc a).set k u) :
    Fo (w.setCell ⟨nb, i * 9 + k, none⟩ u) fb nb n N (upd T i b) := by
  have := h.set k b hi hk (by rw [upd_same]; exact hn)
  rw [upd_upd] at this
  exact this

theorem Fo.far {w : World} {fb nb n N : Nat} {T : Tb} {a : Nd} {i j k : Nat} (h : Fo w fb nb n N (upd T i a)) (hj : j < N) (hk : k < 9) (hne : j ≠ i) : w.cell? ⟨nb, j * 9 + k, none⟩ = (nc (T j))[k]? := by
  have := h.at hj hk
  rw [upd_ne hne] at this
  exact this

theorem Fo.own {w : World} {fb nb n N : Nat} {T : Tb} {a : Nd} {i k : Nat} (h : Fo w fb nb n N (upd T i a)) (hi : i < N) (hk : k < 9) : w.cell? ⟨nb, i * 9 + k, none⟩ = (nc a)[k]? := by
  have := h.at hi hk
  rw [upd_same] at this
  exact this

set_option maxRecDepth 100000 in
set_option maxHeartbeats 4000000 in
theorem tally_ok (fb nb n N x : Nat) (T : Tb) (w : World) (h : Fo w fb nb n N T) (hx : x < N) (hl : (T x).l < N) (hr : (T x).r < N) (hlx : (T x).l ≠ x) (hrx : (T x).r ≠ x) :
    Calls Tryd.prog 28 #[.pointer (some ⟨fb, 0, none⟩), .int .i32 (x : Int)] w fun e w' => e = .returned (.tuple #[]) ∧ Fo w' fb nb n N (upd T x (tally (T x) (T (T x).l) (T (T x).r))) ∧ Turned (fun k => k = nb) w w' := by
  have hbig := h.big
  have c1 := h.c1
  have cl := h.l hx
  have cr := h.r hx
  have hT : Fo w fb nb n N (upd T x (T x)) := by rw [upd_self]; exact h
  obtain ⟨X, hX⟩ : ∃ X, T x = X := ⟨_, rfl⟩
  obtain ⟨L, hL⟩ : ∃ L, (T x).l = L := ⟨_, rfl⟩
  obtain ⟨R, hR⟩ : ∃ R, (T x).r = R := ⟨_, rfl⟩
  rw [hL] at cl hl hlx
  rw [hR] at cr hr hrx
  have hL' := hid hL
  have hR' := hid hR
  have q1 : (0 : Int) ≤ (L : Int) := by omega
  have q2 : (L : Int) < (N : Int) := by omega
  have q3 : (0 : Int) ≤ (R : Int) := by omega
  have q4 : (R : Int) < (N : Int) := by omega
  clear hL hR
  go_enter Tryd.func28, Tryd.ntmps28
  go_wp2_with fail
  go_region_held3 (fun w' => w'.cell? ⟨fb, 1, none⟩ = some (.slice (some ⟨nb, 0, none⟩) N N) ∧ w'.cell? ⟨nb, x * 9 + 6, none⟩ = some (.int .i32 (L : Int)) ∧ w'.cell? ⟨nb, x * 9 + 7, none⟩ = some (.int .i32 (R : Int))) (go_keep) (fail)
  go_wp2_with fail
  have hA : Hid (∀ k, k < 9 → ∀ (y : World) (c : Nd), Fo y fb nb n N (upd T x c) → y.cell? ⟨nb, L * 9 + k, none⟩ = (nc (T L))[k]?) := fun k hk y c hy => hy.far hl hk hlx
  have hB : Hid (∀ k, k < 9 → ∀ (y : World) (c : Nd), Fo y fb nb n N (upd T x c) → y.cell? ⟨nb, R * 9 + k, none⟩ = (nc (T R))[k]?) := fun k hk y c hy => hy.far hr hk hrx
  rw [hX] at hT
  obtain ⟨A, hAe⟩ : ∃ A, T L = A := ⟨_, rfl⟩
  obtain ⟨B, hBe⟩ : ∃ B, T R = B := ⟨_, rfl⟩
  rw [hAe] at hA
  rw [hBe] at hB
  have hXe := hid hX
  have hAeh := hid hAe
  have hBeh := hid hBe
  clear hX hAe hBe
  have t0 : Turned (fun k => k = nb) w w.drew := (Turned.refl _ _).drew
  have h0 := hid hT.drew
  generalize w.drew = w0 at h0 t0 ⊢
  have t0 := hid t0
  clear h hT c1 cl cr
  have ca : w0.cell? ⟨nb, L * 9 + 4, none⟩ = some (.int .i32 A.rest) := hA.out 4 (by decide) _ _ h0.out
  have cb : w0.cell? ⟨nb, R * 9 + 4, none⟩ = some (.int .i32 B.rest) := hB.out 4 (by decide) _ _ h0.out
  have cx : w0.cell? ⟨nb, x * 9 + 4, none⟩ = some (.int .i32 X.rest) := h0.out.own hx (k := 4) (by decide)
  have fx := h0.out.fro (x * 9 + 4)
  go_wp2_with fail
  go_region_held3 (fun w' => w'.cell? ⟨nb, L * 9 + 4, none⟩ = some (.int .i32 A.rest) ∧ w'.cell? ⟨nb, R * 9 + 4, none⟩ = some (.int .i32 B.rest)) (first | exact ⟨kfar hlx ca, kfar hrx cb⟩ | go_keep) (fail)
  have h1 := hid ((h0.out.set2 4 (u := (.int .i32 (IntKind.i32.wrap (IntKind.i32.wrap (IntKind.i32.wrap (A.rest + 1) + B.rest) + 1)))) ({ X with rest := w32 (w32 (w32 (A.rest + 1) + B.rest) + 1) }) hx (by decide) rfl).drew)
  have t1 := hid (t0.out.trans (((Turned.refl (fun k => k = nb) w0).setCell (p := ⟨nb, x * 9 + 4, none⟩) rfl (.int .i32 (IntKind.i32.wrap (IntKind.i32.wrap (IntKind.i32.wrap (A.rest + 1) + B.rest) + 1)))).drew))
  generalize (w0.setCell ⟨nb, x * 9 + 4, none⟩ (.int .i32 (IntKind.i32.wrap (IntKind.i32.wrap (IntKind.i32.wrap (A.rest + 1) + B.rest) + 1)))).drew = w1 at h1 t1 ⊢
  clear ca cb cx fx h0 t0
  have ca : w1.cell? ⟨nb, L * 9 + 1, none⟩ = some (.int .i64 A.s) := hA.out 1 (by decide) _ _ h1.out
  have cb : w1.cell? ⟨nb, R * 9 + 1, none⟩ = some (.int .i64 B.s) := hB.out 1 (by decide) _ _ h1.out
  have cx : w1.cell? ⟨nb, x * 9 + 1, none⟩ = some (.int .i64 X.s) := h1.out.own hx (k := 1) (by decide)
  have cv : w1.cell? ⟨nb, x * 9, none⟩ = some (.int .i64 X.v) := h1.out.own hx (k := 0) (by decide)
  have fx := h1.out.fro (x * 9 + 1)
  go_wp2_with fail
  go_region_held3 (fun w' => w'.cell? ⟨nb, L * 9 + 1, none⟩ = some (.int .i64 A.s) ∧ w'.cell? ⟨nb, R * 9 + 1, none⟩ = some (.int .i64 B.s) ∧ w'.cell? ⟨nb, x * 9, none⟩ = some (.int .i64 X.v)) (first | exact ⟨kfar hlx ca, kfar hrx cb, kfar0 (by decide) cv⟩ | go_keep) (fail)
  have h2 := hid ((h1.out.set2 1 (u := (.int .i64 (IntKind.i64.wrap (IntKind.i64.wrap (A.s + X.v) + B.s)))) ({ X with rest := w32 (w32 (w32 (A.rest + 1) + B.rest) + 1), s := IntKind.i64.wrap (IntKind.i64.wrap (A.s + X.v) + B.s) }) hx (by decide) rfl).drew)
  have t2 := hid (t1.out.trans (((Turned.refl (fun k => k = nb) w1).setCell (p := ⟨nb, x * 9 + 1, none⟩) rfl (.int .i64 (IntKind.i64.wrap (IntKind.i64.wrap (A.s + X.v) + B.s)))).drew))
  generalize (w1.setCell ⟨nb, x * 9 + 1, none⟩ (.int .i64 (IntKind.i64.wrap (IntKind.i64.wrap (A.s + X.v) + B.s)))).drew = w2 at h2 t2 ⊢
  clear ca cb cx fx h1 t1 cv
  have ca : w2.cell? ⟨nb, L * 9 + 2, none⟩ = some (.int .i64 A.lo) := hA.out 2 (by decide) _ _ h2.out
  have cb : w2.cell? ⟨nb, R * 9 + 2, none⟩ = some (.int .i64 B.lo) := hB.out 2 (by decide) _ _ h2.out
  have cx : w2.cell? ⟨nb, x * 9 + 2, none⟩ = some (.int .i64 X.lo) := h2.out.own hx (k := 2) (by decide)
  have cv : w2.cell? ⟨nb, x * 9, none⟩ = some (.int .i64 X.v) := h2.out.own hx (k := 0) (by decide)
  have fx := h2.out.fro (x * 9 + 2)
  go_wp2_with fail
  go_region_held3 (fun w' => w'.cell? ⟨nb, L * 9 + 2, none⟩ = some (.int .i64 A.lo) ∧ w'.cell? ⟨nb, R * 9 + 2, none⟩ = some (.int .i64 B.lo) ∧ w'.cell? ⟨nb, x * 9, none⟩ = some (.int .i64 X.v)) (first | exact ⟨kfar hlx ca, kfar hrx cb, kfar0 (by decide) cv⟩ | go_keep) (fail)
  rw [show (if B.lo < (if X.v < A.lo then X.v else A.lo) then B.lo else (if X.v < A.lo then X.v else A.lo)) = mn A.lo X.v B.lo from rfl]
  have h3 := hid ((h2.out.set2 2 (u := (.int .i64 (mn A.lo X.v B.lo))) ({ X with rest := w32 (w32 (w32 (A.rest + 1) + B.rest) + 1), s := IntKind.i64.wrap (IntKind.i64.wrap (A.s + X.v) + B.s), lo := mn A.lo X.v B.lo }) hx (by decide) rfl).drew)
  have t3 := hid (t2.out.trans (((Turned.refl (fun k => k = nb) w2).setCell (p := ⟨nb, x * 9 + 2, none⟩) rfl (.int .i64 (mn A.lo X.v B.lo))).drew))
  generalize (w2.setCell ⟨nb, x * 9 + 2, none⟩ (.int .i64 (mn A.lo X.v B.lo))).drew = w3 at h3 t3 ⊢
  clear ca cb cx fx h2 t2 cv
  have ca : w3.cell? ⟨nb, L * 9 + 3, none⟩ = some (.int .i64 A.hi) := hA.out 3 (by decide) _ _ h3.out
  have cb : w3.cell? ⟨nb, R * 9 + 3, none⟩ = some (.int .i64 B.hi) := hB.out 3 (by decide) _ _ h3.out
  have cx : w3.cell? ⟨nb, x * 9 + 3, none⟩ = some (.int .i64 X.hi) := h3.out.own hx (k := 3) (by decide)
  have cv : w3.cell? ⟨nb, x * 9, none⟩ = some (.int .i64 X.v) := h3.out.own hx (k := 0) (by decide)
  have fx := h3.out.fro (x * 9 + 3)
  go_wp2_with fail
  go_region_held3 (fun w' => w'.cell? ⟨nb, L * 9 + 3, none⟩ = some (.int .i64 A.hi) ∧ w'.cell? ⟨nb, R * 9 + 3, none⟩ = some (.int .i64 B.hi) ∧ w'.cell? ⟨nb, x * 9, none⟩ = some (.int .i64 X.v)) (first | exact ⟨kfar hlx ca, kfar hrx cb, kfar0 (by decide) cv⟩ | go_keep) (fail)
  rw [show (if (if A.hi < X.v then X.v else A.hi) < B.hi then B.hi else (if A.hi < X.v then X.v else A.hi)) = mx A.hi X.v B.hi from rfl]
  have h4 := hid ((h3.out.set2 3 (u := (.int .i64 (mx A.hi X.v B.hi))) (tally X A B) hx (by decide) rfl).drew)
  have t4 := hid (t3.out.trans (((Turned.refl (fun k => k = nb) w3).setCell (p := ⟨nb, x * 9 + 3, none⟩) rfl (.int .i64 (mx A.hi X.v B.hi))).drew))
  generalize (w3.setCell ⟨nb, x * 9 + 3, none⟩ (.int .i64 (mx A.hi X.v B.hi))).drew = w4 at h4 t4 ⊢
  clear ca cb cx fx h3 t3 cv
  go_wp2_with fail
  go_end0
  rw [hL'.out, hR'.out, hXe.out, hAeh.out, hBeh.out]
  exact ⟨rfl, h4.out, t4.out⟩

end Go.Proofs.YtpelpcplagfdiaaDoor
