/- 'nowhere', 'laid', 'sides', 'covers', 'at', walked. -/
import Derived.Test.YtieglcjfphmglaaDoorTMem10
namespace Go.Proofs.YtieglcjfphmglaaDoor
open Go.RowKit
set_option linter.unusedVariables false

set_option maxRecDepth 100000 in
set_option maxHeartbeats 1000000 in
theorem nowhere_ok (w : World) : Calls Tryd.prog 65 #[] w fun e w' => e = .returned (drv nw) ∧ Below w.heap.size w w' := by
  go_enter Tryd.func65, Tryd.ntmps65
  go_wp2_with fail
  go_returns
  exact ⟨rfl, (Below.refl _ _).alloc (Nat.le_refl _) _⟩

set_option maxRecDepth 100000 in
set_option maxHeartbeats 1000000 in
theorem dlaid_no (a b : Int) (w : World) : Calls Tryd.prog 57 #[.agg #[.int .i32 a, .int .i32 b, .int .i32 (-1)]] w fun e w' => e = .returned (.bool false) ∧ Below w.heap.size w w' := by
  go_enter Tryd.func57, Tryd.ntmps57
  go_wp2_with fail
  go_ret
  exact ⟨rfl, (Below.refl _ _).alloc (Nat.le_refl _) _⟩

set_option maxRecDepth 100000 in
set_option maxHeartbeats 1000000 in
theorem dlaid_yes (a b o : Int) (w : World) (h : o ≠ -1) : Calls Tryd.prog 57 #[.agg #[.int .i32 a, .int .i32 b, .int .i32 o]] w fun e w' => e = .returned (.bool true) ∧ Below w.heap.size w w' := by
  have t1 : (o != -1) = true := by simpa using h
  have t2 : (o == -1) = false := by simpa using h
  clear h
  go_enter Tryd.func57, Tryd.ntmps57
  go_wp2_with fail
  go_ret
  exact ⟨rfl, (Below.refl _ _).alloc (Nat.le_refl _) _⟩

set_option maxRecDepth 100000 in
set_option maxHeartbeats 1000000 in
theorem sides_ok (e : Nat) (w : World) (h : e ≤ 1048576) : Calls Tryd.prog 46 #[.int .i64 (e : Int)] w fun x w' => x = .returned (.tuple #[.int .i64 ((2 * e : Nat) : Int), .int .i64 ((2 * e + 1 : Nat) : Int)]) ∧ w = w' := by
  go_enter Tryd.func46, Tryd.ntmps46
  go_wp2_with fail
  go_ret2
  exact ⟨by go_num, rfl⟩

section
variable {w : World} {lo tb V E K M : Nat} {dv sv : Value} {D : Nat → Dr} {S : Nat → Sd}

set_option maxRecDepth 100000 in
set_option maxHeartbeats 1000000 in
theorem covers_yes (d : Nat) (hE : E ≤ 1048576) (c1 : w.cell? ⟨tb, 1, none⟩ = some (.int .i64 (E : Int))) (hd : d < 2 * E) :
    Calls Tryd.prog 59 #[.pointer (some ⟨tb, 0, none⟩), .int .i64 (d : Int)] w fun e w' => e = .returned (.bool true) ∧ w = w' := by
  have t1 : decide ((d : Int) ≥ 0) = true := decide_eq_true (by omega)
  have t2 : decide ((d : Int) < 2 * (E : Int)) = true := decide_eq_true (by omega)
  go_enter Tryd.func59, Tryd.ntmps59
  go_wp2_with fail
  go_ret
  exact ⟨rfl, rfl⟩

set_option maxRecDepth 100000 in
set_option maxHeartbeats 1000000 in
theorem covers_no (d : Int) (hE : E ≤ 1048576) (c1 : w.cell? ⟨tb, 1, none⟩ = some (.int .i64 (E : Int))) (hd : d < 0 ∨ 2 * (E : Int) ≤ d) :
    Calls Tryd.prog 59 #[.pointer (some ⟨tb, 0, none⟩), .int .i64 d] w fun e w' => e = .returned (.bool false) ∧ w = w' := by
  by_cases h0 : d < 0
  · have t1 : decide (d ≥ 0) = false := decide_eq_false (by omega)
    have t2 : decide (0 ≤ d) = false := decide_eq_false (by omega)
    clear hd h0
    go_enter Tryd.func59, Tryd.ntmps59
    go_wp2_with fail
    go_ret
    exact ⟨rfl, rfl⟩
  · have t1 : decide (d ≥ 0) = true := decide_eq_true (by omega)
    have t1' : decide (0 ≤ d) = true := decide_eq_true (by omega)
    have t2 : decide (d < 2 * (E : Int)) = false := decide_eq_false (by omega)
    clear hd h0
    go_enter Tryd.func59, Tryd.ntmps59
    go_wp2_with fail
    go_ret
    exact ⟨rfl, rfl⟩

theorem blk3 {w : World} {g : Nat} {t : TypeId} {x y z : Value} (h : w.heap[g]? = some (.cells #[x, y, z] t (0, 0))) : w.cell? ⟨g, 0, none⟩ = some x ∧ w.cell? ⟨g, 1, none⟩ = some y ∧ w.cell? ⟨g, 2, none⟩ = some z ∧ w.frozen? ⟨g, 0, none⟩ = false ∧ w.frozen? ⟨g, 1, none⟩ = false ∧ w.frozen? ⟨g, 2, none⟩ = false := by
  unfold World.cell? World.frozen?
  rw [h]
  simp

theorem set3_block {w : World} {g : Nat} {t : TypeId} {u v x : Value} (h : w.heap[g]? = some (.cells #[u, v, x] t (0, 0))) (a b c : Value) : (((w.setCell ⟨g, 0, none⟩ a).setCell ⟨g, 1, none⟩ b).setCell ⟨g, 2, none⟩ c).heap[g]? = some (.cells #[a, b, c] t (0, 0)) := by
  unfold World.setCell
  rw [Array.getElem?_modify, if_pos rfl, Array.getElem?_modify, if_pos rfl, Array.getElem?_modify, if_pos rfl, h]
  simp

theorem below3 {B : Nat} {a w : World} {g : Nat} (h : Below B a w) (hg : B ≤ g) (x y z : Value) : Below B a (((w.setCell ⟨g, 0, none⟩ x).setCell ⟨g, 1, none⟩ y).setCell ⟨g, 2, none⟩ z) :=
  ((h.setCell (p := ⟨g, 0, none⟩) hg x).setCell (p := ⟨g, 1, none⟩) hg y).setCell (p := ⟨g, 2, none⟩) hg z

set_option maxRecDepth 100000 in
set_option maxHeartbeats 1000000 in
theorem at_none (d : Int) (h : Tm w lo tb dv sv V E K M D S) (hd : d < 0 ∨ (K : Int) ≤ d) :
    Calls Tryd.prog 56 #[.pointer (some ⟨tb, 0, none⟩), .int .i64 d] w fun e w' => e = .returned (drv nw) ∧ Below w.heap.size w w' := by
  obtain ⟨ad, cap, rfl, hc1, hc2⟩ := own_any h.da
  have c2 := h.c2
  have hlt := h.lt
  have hbn : tb ≠ w.heap.size := by omega
  by_cases h0 : d < 0
  · have t1 : decide (d < 0) = true := decide_eq_true h0
    clear h hd h0
    go_enter Tryd.func56, Tryd.ntmps56
    go_wp2_with fail
    refine (nowhere_ok _).mono ?_
    rintro e w1 ⟨rfl, b1⟩
    have hc : w1.heap[w.heap.size]? = some (.cells #[.int .i32 0, .int .i32 0, .int .i32 0] 90 (0, 0)) := (b1.block w.heap.size (by simp)).trans (heap_alloc_new w _)
    obtain ⟨c3, c4, c5, f3, f4, f5⟩ := blk3 hc
    have hfin := hid (set3_block hc (.int .i32 ((nw.nx : Nat) : Int)) (.int .i32 ((nw.pv : Nat) : Int)) (.int .i32 nw.og))
    have hb := hid (below3 ((balloc w _).trans (b1.mono (by simp))) (Nat.le_refl _) (.int .i32 ((nw.nx : Nat) : Int)) (.int .i32 ((nw.pv : Nat) : Int)) (.int .i32 nw.og))
    clear hc b1
    go_wp2_with fail
    refine bodyPost_ret (results_cell_row rfl _ _ w.heap.size 90 _ (0, 0) _ rfl hfin.out Tryd.underlying90 rfl (by kernel_rfl)) rfl ?_
    exact ⟨rfl, hb.out⟩
  · have t1 : decide (d < 0) = false := decide_eq_false h0
    have t2 : decide ((K : Int) ≤ d) = true := decide_eq_true (by omega)
    clear h hd h0
    go_enter Tryd.func56, Tryd.ntmps56
    go_wp2_with fail
    refine (nowhere_ok _).mono ?_
    rintro e w1 ⟨rfl, b1⟩
    have hc : w1.heap[w.heap.size]? = some (.cells #[.int .i32 0, .int .i32 0, .int .i32 0] 90 (0, 0)) := (b1.block w.heap.size (by simp)).trans (heap_alloc_new w _)
    obtain ⟨c3, c4, c5, f3, f4, f5⟩ := blk3 hc
    have hfin := hid (set3_block hc (.int .i32 ((nw.nx : Nat) : Int)) (.int .i32 ((nw.pv : Nat) : Int)) (.int .i32 nw.og))
    have hb := hid (below3 ((balloc w _).trans (b1.mono (by simp))) (Nat.le_refl _) (.int .i32 ((nw.nx : Nat) : Int)) (.int .i32 ((nw.pv : Nat) : Int)) (.int .i32 nw.og))
    clear hc b1
    go_wp2_with fail
    refine bodyPost_ret (results_cell_row rfl _ _ w.heap.size 90 _ (0, 0) _ rfl hfin.out Tryd.underlying90 rfl (by kernel_rfl)) rfl ?_
    exact ⟨rfl, hb.out⟩

set_option maxRecDepth 100000 in
set_option maxHeartbeats 1000000 in
theorem at_ok (d : Nat) (h : Tm w lo tb dv sv V E K M D S) :
    Calls Tryd.prog 56 #[.pointer (some ⟨tb, 0, none⟩), .int .i64 (d : Int)] w fun e w' => e = .returned (drv (D d)) ∧ Below w.heap.size w w' := by
  by_cases hk : d < K
  · obtain ⟨g, cap, rfl, hc1, hc2⟩ := own_form h.da (by omega)
    have c2 := h.c2
    have hlt := h.lt
    have t1 : decide ((d : Int) < 0) = false := decide_eq_false (by omega)
    have t2 : decide ((K : Int) ≤ (d : Int)) = false := decide_eq_false (by omega)
    have t2' : decide (K ≤ d) = false := decide_eq_false (by omega)
    obtain ⟨a0, a1, a2⟩ := h.dat hk
    have hgl := World.block_lt_of_cell? w _ a0
    simp at hgl
    have hgn : g ≠ w.heap.size := by omega
    have hbn : tb ≠ w.heap.size := by omega
    clear h
    go_enter Tryd.func56, Tryd.ntmps56
    go_wp2_with fail
    go_returns
    exact ⟨rfl, (Below.refl _ _).alloc (Nat.le_refl _) _⟩
  · rw [h.rd d (by omega)]
    exact at_none (d : Int) h (.inr (by omega))
end

end Go.Proofs.YtieglcjfphmglaaDoor
