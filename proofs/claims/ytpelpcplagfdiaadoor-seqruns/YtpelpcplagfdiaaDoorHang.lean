/- 'hang', walked. -/
import Derived.Test.YtpelpcplagfdiaaDoorTurn
import Derived.Deep.Cut
namespace Go.Proofs.YtpelpcplagfdiaaDoor
open Go.RowKit

/-- A tree put beneath a node. -/
def putT (T : Tb) (x : Nat) (s : Bool) (k : Nat) : Tb := if k = 0 then upd T x ((T x).setK s k) else upd (upd T x ((T x).setK s k)) k { T k with up := x }
def tallyT (T : Tb) (x : Nat) : Tb := upd T x (tally (T x) (T (T x).l) (T (T x).r))
def hangT (T : Tb) (x : Nat) (s : Bool) (k : Nat) : Tb := tallyT (putT T x s k) x

theorem putT_x {T : Tb} {x k : Nat} {s : Bool} (h : k ≠ x) : putT T x s k x = (T x).setK s k := by
  unfold putT
  split
  · rw [upd_same]
  · rw [upd_ne h.symm, upd_same]

set_option maxRecDepth 100000 in
set_option maxHeartbeats 1000000 in
theorem hang_l (fb nb n N x k : Nat) (T : Tb) (w : World) (h : Fo w fb nb n N T) (hx : x < N) (hk : k < N) (hkx : k ≠ x)
    (hput : Hid (∀ y, Fo y fb nb n N (putT T x false k) → Calls Tryd.prog 28 #[.pointer (some ⟨fb, 0, none⟩), .int .i32 (x : Int)] y fun e w' => e = .returned (.tuple #[]) ∧ Fo w' fb nb n N (hangT T x false k) ∧ Turned (fun k => k = nb) y w')) :
    Calls Tryd.prog 24 #[.pointer (some ⟨fb, 0, none⟩), .int .i32 (x : Int), .int .i64 0, .int .i32 (k : Int)] w fun e w' => e = .returned (.tuple #[]) ∧ Fo w' fb nb n N (hangT T x false k) ∧ Turned (fun k => k = nb) w w' := by
  have hbig := h.big
  have c1 := h.c1
  have q1 : (0 : Int) ≤ (x : Int) := by omega
  have q2 : (x : Int) < (N : Int) := by omega
  have q3 : (0 : Int) ≤ (k : Int) := by omega
  have q4 : (k : Int) < (N : Int) := by omega
  have hc : w.cell? ⟨nb, x * 9 + 6, none⟩ = some (.int .i32 ((T x).k false : Int)) := h.at hx (k := 6) (by decide)
  have f6 : w.frozen? ⟨nb, x * 9 + 6, none⟩ = false := h.fro _
  have hs := hid (h.set 6 ((T x).setK false k) (u := .int .i32 (k : Int)) hx (by decide) rfl)
  have ts := hid ((Turned.refl (fun k => k = nb) w).setCell (p := ⟨nb, x * 9 + 6, none⟩) rfl (.int .i32 (k : Int)))
  clear h
  go_enter Tryd.func24, Tryd.ntmps24
  go_upto_region 1 with fail
  rw [show x * 9 + 6 = x * 9 + 6 from rfl] at hs
  generalize w.setCell ⟨nb, x * 9 + 6, none⟩ (.int .i32 (k : Int)) = w1 at hs ts ⊢
  clear hc f6 c1
  by_cases hk0 : k = 0
  · subst hk0
    go_wp2_with fail
    refine (hput.out _ (by unfold putT; rw [if_pos rfl]; exact hs.out)).mono ?_
    rintro e w' ⟨rfl, h2, t2⟩
    go_wp2_with fail
    go_end0
    exact ⟨rfl, h2, ts.out.trans t2⟩
  · have t1 : ((k : Int) != 0) = true := by simp; omega
    have g1 := hs.out.c1
    have g3 : w1.cell? ⟨nb, k * 9 + 5, none⟩ = some (.int .i32 ((T k).up : Int)) := hs.out.far hk (k := 5) (by decide) hkx
    have g5 := hs.out.fro (k * 9 + 5)
    have hs2 : Hid (Fo (w1.setCell ⟨nb, k * 9 + 5, none⟩ (.int .i32 (x : Int))) fb nb n N (putT T x false k)) := hid (by
      unfold putT
      rw [if_neg hk0]
      exact hs.out.set 5 { T k with up := x } hk (by decide) (by rw [upd_ne hkx]; rfl))
    have ts2 := hid (ts.out.setCell (p := ⟨nb, k * 9 + 5, none⟩) rfl (.int .i32 (x : Int)))
    clear hk0
    go_upto_region 3 with fail
    generalize w1.setCell ⟨nb, k * 9 + 5, none⟩ (.int .i32 (x : Int)) = w2 at hs2 ts2 ⊢
    clear g1 g3 g5 hs ts
    go_wp2_with fail
    refine (hput.out _ hs2.out).mono ?_
    rintro e w' ⟨rfl, h2, t2⟩
    go_wp2_with fail
    go_end0
    exact ⟨rfl, h2, ts2.out.trans t2⟩

set_option maxRecDepth 100000 in
set_option maxHeartbeats 1000000 in
theorem hang_r (fb nb n N x k : Nat) (T : Tb) (w : World) (h : Fo w fb nb n N T) (hx : x < N) (hk : k < N) (hkx : k ≠ x)
    (hput : Hid (∀ y, Fo y fb nb n N (putT T x true k) → Calls Tryd.prog 28 #[.pointer (some ⟨fb, 0, none⟩), .int .i32 (x : Int)] y fun e w' => e = .returned (.tuple #[]) ∧ Fo w' fb nb n N (hangT T x true k) ∧ Turned (fun k => k = nb) y w')) :
    Calls Tryd.prog 24 #[.pointer (some ⟨fb, 0, none⟩), .int .i32 (x : Int), .int .i64 1, .int .i32 (k : Int)] w fun e w' => e = .returned (.tuple #[]) ∧ Fo w' fb nb n N (hangT T x true k) ∧ Turned (fun k => k = nb) w w' := by
  have hbig := h.big
  have c1 := h.c1
  have q1 : (0 : Int) ≤ (x : Int) := by omega
  have q2 : (x : Int) < (N : Int) := by omega
  have q3 : (0 : Int) ≤ (k : Int) := by omega
  have q4 : (k : Int) < (N : Int) := by omega
  have hc : w.cell? ⟨nb, x * 9 + 6 + 1, none⟩ = some (.int .i32 ((T x).k true : Int)) := h.at hx (k := 7) (by decide)
  have f6 : w.frozen? ⟨nb, x * 9 + 6 + 1, none⟩ = false := h.fro _
  have hs := hid (h.set 7 ((T x).setK true k) (u := .int .i32 (k : Int)) hx (by decide) rfl)
  have ts := hid ((Turned.refl (fun k => k = nb) w).setCell (p := ⟨nb, x * 9 + 6 + 1, none⟩) rfl (.int .i32 (k : Int)))
  clear h
  go_enter Tryd.func24, Tryd.ntmps24
  go_upto_region 1 with fail
  rw [show x * 9 + 7 = x * 9 + 6 + 1 from rfl] at hs
  generalize w.setCell ⟨nb, x * 9 + 6 + 1, none⟩ (.int .i32 (k : Int)) = w1 at hs ts ⊢
  clear hc f6 c1
  by_cases hk0 : k = 0
  · subst hk0
    go_wp2_with fail
    refine (hput.out _ (by unfold putT; rw [if_pos rfl]; exact hs.out)).mono ?_
    rintro e w' ⟨rfl, h2, t2⟩
    go_wp2_with fail
    go_end0
    exact ⟨rfl, h2, ts.out.trans t2⟩
  · have t1 : ((k : Int) != 0) = true := by simp; omega
    have g1 := hs.out.c1
    have g3 : w1.cell? ⟨nb, k * 9 + 5, none⟩ = some (.int .i32 ((T k).up : Int)) := hs.out.far hk (k := 5) (by decide) hkx
    have g5 := hs.out.fro (k * 9 + 5)
    have hs2 : Hid (Fo (w1.setCell ⟨nb, k * 9 + 5, none⟩ (.int .i32 (x : Int))) fb nb n N (putT T x true k)) := hid (by
      unfold putT
      rw [if_neg hk0]
      exact hs.out.set 5 { T k with up := x } hk (by decide) (by rw [upd_ne hkx]; rfl))
    have ts2 := hid (ts.out.setCell (p := ⟨nb, k * 9 + 5, none⟩) rfl (.int .i32 (x : Int)))
    clear hk0
    go_upto_region 3 with fail
    generalize w1.setCell ⟨nb, k * 9 + 5, none⟩ (.int .i32 (x : Int)) = w2 at hs2 ts2 ⊢
    clear g1 g3 g5 hs ts
    go_wp2_with fail
    refine (hput.out _ hs2.out).mono ?_
    rintro e w' ⟨rfl, h2, t2⟩
    go_wp2_with fail
    go_end0
    exact ⟨rfl, h2, ts2.out.trans t2⟩

theorem hang_ok (fb nb n N x k : Nat) (s : Bool) (T : Tb) (w : World) (h : Fo w fb nb n N T) (hx : x < N) (hk : k < N) (hkx : k ≠ x) (ho : (T x).k (!s) < N) (hox : (T x).k (!s) ≠ x) :
    Calls Tryd.prog 24 #[.pointer (some ⟨fb, 0, none⟩), .int .i32 (x : Int), .int .i64 (sI s), .int .i32 (k : Int)] w fun e w' => e = .returned (.tuple #[]) ∧ Fo w' fb nb n N (hangT T x s k) ∧ Turned (fun k => k = nb) w w' := by
  have hput : Hid (∀ y, Fo y fb nb n N (putT T x s k) → Calls Tryd.prog 28 #[.pointer (some ⟨fb, 0, none⟩), .int .i32 (x : Int)] y fun e w' => e = .returned (.tuple #[]) ∧ Fo w' fb nb n N (hangT T x s k) ∧ Turned (fun k => k = nb) y w') := fun y hy => by
    have e := putT_x (T := T) (s := s) hkx
    have hl : (putT T x s k x).l < N ∧ (putT T x s k x).r < N ∧ (putT T x s k x).l ≠ x ∧ (putT T x s k x).r ≠ x := by
      rw [e]
      cases s
      · exact ⟨hk, ho, hkx, hox⟩
      · exact ⟨ho, hk, hox, hkx⟩
    exact tally_ok fb nb n N x _ y hy hx hl.1 hl.2.1 hl.2.2.1 hl.2.2.2
  cases s
  · exact hang_l fb nb n N x k T w h hx hk hkx hput
  · exact hang_r fb nb n N x k T w h hx hk hkx hput

end Go.Proofs.YtpelpcplagfdiaaDoor
