/- 'settle', walked. -/
import Derived.Test.YtpelpcplagfdiaaDoorHang
namespace Go.Proofs.YtpelpcplagfdiaaDoor
open Go.RowKit

/-- What 'settle' makes of the table. -/
def swapN (n : Nd) : Nd := { n with t := false, l := n.r, r := n.l }
def settleT (T : Tb) (x : Nat) : Tb := if (T x).t then turnT (turnT (upd T x (swapN (T x))) (T x).r) (T x).l else T

theorem turnT_l (T : Tb) (x y : Nat) : (turnT T y x).l = (T x).l ∧ (turnT T y x).r = (T x).r := by
  unfold turnT upd
  split
  · exact ⟨rfl, rfl⟩
  · dsimp only
    split
    · next e => subst e; exact ⟨rfl, rfl⟩
    · exact ⟨rfl, rfl⟩

set_option maxRecDepth 100000 in
set_option maxHeartbeats 1000000 in
theorem settle_ok (fb nb n N x : Nat) (T : Tb) (w : World) (h : Fo w fb nb n N T) (hx : x < N) (hl : (T x).l < N) (hr : (T x).r < N) :
    Calls Tryd.prog 56 #[.pointer (some ⟨fb, 0, none⟩), .int .i32 (x : Int)] w fun e w' => e = .returned (.tuple #[]) ∧ Fo w' fb nb n N (settleT T x) ∧ Turned (fun k => k = nb) w w' := by
  have hbig := h.big
  have c1 := h.c1
  have ct := h.t hx
  have q1 : (0 : Int) ≤ (x : Int) := by omega
  have q2 : (x : Int) < (N : Int) := by omega
  by_cases ht : (T x).t = false
  · rw [ht] at ct
    have hth := hid ht
    have hh := hid h
    clear h ht hl hr
    go_enter Tryd.func56, Tryd.ntmps56
    go_wp2_with fail
    first | go_end0 | refine bodyPost_ret (results_none rfl _ _ _) rfl ?_
    refine ⟨rfl, ?_, Turned.refl _ _⟩
    unfold settleT
    rw [hth.out]
    exact hh.out
  · have ht : (T x).t = true := by simpa using ht
    rw [ht] at ct
    have hth := hid ht
    have ft := h.fro (x * 9 + 8)
    have hs := hid (h.set 8 { T x with t := false } (u := .bool false) hx (by decide) rfl)
    have ts := hid ((Turned.refl (fun k => k = nb) w).setCell (p := ⟨nb, x * 9 + 8, none⟩) rfl (.bool false))
    obtain ⟨L, hL⟩ : ∃ L, (T x).l = L := ⟨_, rfl⟩
    obtain ⟨R, hR⟩ : ∃ R, (T x).r = R := ⟨_, rfl⟩
    rw [hL] at hl
    rw [hR] at hr
    have hfin : Hid (settleT T x = turnT (turnT (upd T x (swapN (T x))) R) L) := hid (by unfold settleT; rw [ht, hL, hR]; rfl)
    have hLR := hid (And.intro hL hR)
    clear h ht hL hR
    go_enter Tryd.func56, Tryd.ntmps56
    go_upto_region 3 with fail
    generalize w.setCell ⟨nb, x * 9 + 8, none⟩ (.bool false) = w1 at hs ts ⊢
    have g6 : w1.cell? ⟨nb, x * 9 + 6, none⟩ = some (.int .i32 (L : Int)) := by have := hs.out.own hx (k := 6) (by decide); rw [← hLR.out.1]; exact this
    have g7 : w1.cell? ⟨nb, x * 9 + 6 + 1, none⟩ = some (.int .i32 (R : Int)) := by have := hs.out.own hx (k := 7) (by decide); rw [← hLR.out.2]; exact this
    have g9 := hs.out.fro (x * 9 + 6)
    have g10 : w1.frozen? ⟨nb, x * 9 + 6 + 1, none⟩ = false := hs.out.fro (x * 9 + 7)
    clear c1 ct ft
    go_region
    have hs1 := hs.out.set2 6 { T x with t := false, l := (T x).r } (u := .int .i32 (R : Int)) hx (by decide) (by rw [← hLR.out.2]; rfl)
    have hs2 : Fo ((w1.setCell ⟨nb, x * 9 + 6, none⟩ (.int .i32 (R : Int))).setCell ⟨nb, x * 9 + 6 + 1, none⟩ (.int .i32 (L : Int))).drew fb nb n N (upd T x (swapN (T x))) := (hs1.set2 7 (swapN (T x)) hx (by decide) (by rw [← hLR.out.1]; rfl)).drew
    have ts2 := ((ts.out.setCell (p := ⟨nb, x * 9 + 6, none⟩) rfl (.int .i32 (R : Int))).setCell (p := ⟨nb, x * 9 + 6 + 1, none⟩) rfl (.int .i32 (L : Int))).drew
    have hs2 := hid hs2
    have ts2 := hid ts2
    generalize ((w1.setCell ⟨nb, x * 9 + 6, none⟩ (.int .i32 (R : Int))).setCell ⟨nb, x * 9 + 6 + 1, none⟩ (.int .i32 (L : Int))).drew = w2 at hs2 ts2 ⊢
    clear g6 g7 g9 g10 hs hs1 ts
    have g6 : w2.cell? ⟨nb, x * 9 + 6, none⟩ = some (.int .i32 (R : Int)) := by have := hs2.out.own hx (k := 6) (by decide); rw [← hLR.out.2]; exact this
    go_wp2_with fail
    refine (turn_ok fb nb n N R _ _ hs2.out hr).mono ?_
    rintro e w3 ⟨rfl, h3, t3⟩
    have h3h := hid h3
    have t3h := hid (ts2.out.trans t3)
    have g7 : w3.cell? ⟨nb, x * 9 + 6 + 1, none⟩ = some (.int .i32 (L : Int)) := by
      have := h3.r hx
      rw [(turnT_l _ x R).2, upd_same] at this
      rw [← hLR.out.1]
      exact this
    clear h3 t3 g6 hs2 ts2
    go_wp2_with fail
    refine (turn_ok fb nb n N L _ _ h3h.out hl).mono ?_
    rintro e w4 ⟨rfl, h4, t4⟩
    go_wp2_with fail
    go_end0
    exact ⟨rfl, by rw [hfin.out]; exact h4, t3h.out.trans t4⟩

end Go.Proofs.YtpelpcplagfdiaaDoor
