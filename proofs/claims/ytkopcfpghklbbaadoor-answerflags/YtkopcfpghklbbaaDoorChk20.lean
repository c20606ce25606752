/- answer's all, holds, fit, numbers, isNumber, inRange, check, walked. -/
import Derived.Test.YtkopcfpghklbbaaDoorPt20
import Derived.Test.YtkopcfpghklbbaaDoorOpen20
import Derived.Laws.Rows
namespace Go.Proofs.YtkopcfpghklbbaaDoor
open Go.RowKit
set_option linter.unusedVariables false

theorem cell_of20 {w : World} {k j : Nat} {cs : Array Value} {t : TypeId} {c : Nat × Nat} {u : Value} (h : w.heap[k]? = some (.cells cs t c)) (hj : cs[j]? = some u) : w.cell? ⟨k, j, none⟩ = some u := by
  unfold World.cell?
  simp only []
  rw [h]
  simp [hj]
theorem new_of20 (w : World) (cs : Array Value) (t : TypeId) : (w.alloc (.cells cs t)).heap[w.heap.size]? = some (.cells cs t (0, 0)) := by
  show (w.heap.push _)[w.heap.size]? = _
  simp
theorem balloc20 (w : World) (o : Obj) : Below w.heap.size w (w.alloc o) := (Below.refl _ _).alloc (Nat.le_refl _) o

/-- An error, or none. -/
def erv (z : Int) : Value := if z = 0 then .nilIface else .iface 93 (.int .i64 z)

/-- Four numbers. -/
abbrev c4v (a b c d : Int) : Value := .agg #[.int .i64 a, .int .i64 b, .int .i64 c, .int .i64 d]
theorem eqCts (a b c d : Int) (w : World) : (binOp .eql 32 (c4v a b c d) (c4v 0 0 0 0)).run Tryd.prog w = .ok (.bool (decide (a = 0 ∧ b = 0 ∧ c = 0 ∧ d = 0))) w := by
  by_cases h1 : a = 0 <;> by_cases h2 : b = 0 <;> by_cases h3 : c = 0 <;> by_cases h4 : d = 0
  all_goals go_simp

theorem idx40 (a b c d : Int) (w : World) : (Instr.index 24 (c4v a b c d) (.int .i64 0)).run Tryd.prog w = .ok (.int .i64 a) w := by kernel_rfl
theorem idx41 (a b c d : Int) (w : World) : (Instr.index 24 (c4v a b c d) (.int .i64 1)).run Tryd.prog w = .ok (.int .i64 b) w := by kernel_rfl
theorem idx42 (a b c d : Int) (w : World) : (Instr.index 24 (c4v a b c d) (.int .i64 2)).run Tryd.prog w = .ok (.int .i64 c) w := by kernel_rfl
theorem idx43 (a b c d : Int) (w : World) : (Instr.index 24 (c4v a b c d) (.int .i64 3)).run Tryd.prog w = .ok (.int .i64 d) w := by kernel_rfl
attribute [local go_sem] eqCts

/-- An answer's cells. -/
abbrev acs (x : An) (hv dv bv : Value) : Array Value := #[.int .i64 x.err, hv, .bool x.is, .int .i64 x.n, dv, .int .i64 x.c0, .int .i64 x.c1, .int .i64 x.c2, .int .i64 x.c3, .int .i64 x.sum, bv]

theorem all20_iff {p : P20} {x : An} : all20 p x = true ↔ (x.hs.length = p.h ∧ (p.i = true ∨ x.is = false) ∧ (p.n = true ∨ x.n = 0) ∧ (p.c = true ∨ (x.c0 = 0 ∧ x.c1 = 0 ∧ x.c2 = 0 ∧ x.c3 = 0)) ∧ (p.s = true ∨ x.sum = 0) ∧ (p.d = true ∨ x.d.length = 0)) := by
  unfold all20
  exact decide_eq_true_iff

set_option maxRecDepth 100000 in
set_option maxHeartbeats 8000000 in
theorem all_ok (k e : Int) (x : An) (ha : Option Addr) (hc : Nat) (da : Option Addr) (dc : Nat) (ba : Option Addr) (bc : Nat) (hn dn bn : Nat) (h1 : x.hs.length = hn) (h2 : x.ds.length = dn) (h3 : x.d.length = bn) (w : World) :
    Calls Tryd.prog 55 #[(pe20 k e).v, av x (.slice ha hn hc) (.slice da dn dc) (.slice ba bn bc)] w fun r w' => r = .returned (.bool (all20 (pe20 k e) x)) ∧ Below w.heap.size w w' := by
  have hall := hid (all20_iff (p := pe20 k e) (x := x))
  obtain ⟨R, hR⟩ : ∃ R, all20 (pe20 k e) x = R := ⟨_, rfl⟩
  rw [hR] at hall ⊢
  clear hR
  obtain ⟨err, hs, is, n, ds, c0, c1, c2, c3, sum, d⟩ := x
  dsimp only at h1 h2 h3 hall ⊢
  rw [h1, h3] at hall
  clear h1 h2 h3
  rcases pe20_ten k e with q | q | q | q | q | q | q | q | q | q
  all_goals
    rw [q] at hall ⊢
    clear q
    go_enter Tryd.func55, Tryd.ntmps55
    go_wp2_with fail
    all_goals
      go_ret
      refine ⟨congrArg (fun b => Ending.returned (Value.bool b)) ?_, (below20 _).alloc (by simp) _⟩
      rw [Bool.eq_iff_iff, hall.out]
      clear hall
      first | (simp_all [pz]; done) | (simp_all [pz]; intros; omega)

end Go.Proofs.YtkopcfpghklbbaaDoor
