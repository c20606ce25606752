/- 'find', 'holds', 'stand', 'least', walked; what the Turns' reading calls answer. -/
import Derived.Test.YtghpjljnbdjmaaaGreatDoorBmem
namespace Go.Proofs.YtghpjljnbdjmaaaGreatDoor
open Go.RowKit
set_option linter.unusedVariables false

theorem results_pair {P : Program} {fn : Func} {p u : Tmp} {ty : TypeId} (h : fn.results = #[.cell p ty, .tmp u]) (tmps : Array Value) (w : World) (g : Nat) (t : TypeId) (cs : Array Value) (fr : Nat × Nat) (d : TypeDesc)
    (hp : tmps.getD p undef = .pointer (some ⟨g, 0, none⟩)) (hg : w.heap[g]? = some (.cells cs t fr))
    (hu : P.underlying ty = some d) (hd : (match d with | .struct _ | .array _ _ => true | _ => false) = true) (hi : (P.info? ty).map (·.size) = some cs.size) :
    (results fn tmps).run P w = .ok (.tuple #[.agg cs, tmps.getD u undef]) w := by
  rw [results_cell_tmp h, hp]
  simp [asAddr, run_loadVar_row w g t ty cs fr d hg hu hd hi]

abbrev zd : Value := .agg #[.int .i32 0, .int .i32 0, .int .i32 0]
abbrev zs : Value := .agg #[.int .i32 0, .int .i32 0]

set_option maxRecDepth 100000 in
set_option maxHeartbeats 1000000 in
theorem find_nil (d : Int) (w : World) : Calls Tryz.prog 58 #[.pointer none, .int .i64 d] w fun e w' => e = .returned (.tuple #[zd, .iface 88 (.int .i64 1)]) ∧ Below w.heap.size w w' := by
  go_enter Tryz.func58, Tryz.ntmps58
  go_wp2_with fail
  refine bodyPost_ret (results_pair rfl _ _ w.heap.size 106 #[.int .i32 0, .int .i32 0, .int .i32 0] (0, 0) _ rfl (by first | exact set3_block (heap_alloc_new w _) _ _ _ | exact heap_alloc_new w _) Tryz.underlying106 rfl (by kernel_rfl)) rfl ?_
  exact ⟨rfl, by first | exact below3 (balloc _ _) (Nat.le_refl _) _ _ _ | exact balloc _ _⟩

section
variable {w : World} {lo tb V E K M : Nat} {dv sv : Value} {D : Nat → Dr} {S : Nat → Sd}

set_option maxRecDepth 100000 in
set_option maxHeartbeats 1000000 in
theorem find_range (d : Int) (h : Tm w lo tb dv sv V E K M D S) (hd : d < 0 ∨ 2 * (E : Int) ≤ d) : Calls Tryz.prog 58 #[.pointer (some ⟨tb, 0, none⟩), .int .i64 d] w fun e w' => e = .returned (.tuple #[zd, .iface 88 (.int .i64 12)]) ∧ Below w.heap.size w w' := by
  have hc := hid (fun y (hy : Below w.heap.size w y) => covers_no (w := y) (tb := tb) d h.hE (h.more hy).c1 hd)
  clear h hd
  go_enter Tryz.func58, Tryz.ntmps58
  go_wp2_with fail
  refine (hc.out _ (balloc _ _)).mono ?_
  rintro e w1 ⟨rfl, rfl⟩
  go_wp2_with fail
  refine bodyPost_ret (results_pair rfl _ _ w.heap.size 106 #[.int .i32 0, .int .i32 0, .int .i32 0] (0, 0) _ rfl (by first | exact set3_block (heap_alloc_new w _) _ _ _ | exact heap_alloc_new w _) Tryz.underlying106 rfl (by kernel_rfl)) rfl ?_
  exact ⟨rfl, by first | exact below3 (balloc _ _) (Nat.le_refl _) _ _ _ | exact balloc _ _⟩

set_option maxRecDepth 100000 in
set_option maxHeartbeats 1000000 in
theorem find_stale (d : Nat) (h : Tm w lo tb dv sv V E K M D S) (hd : d < 2 * E) (ho : (D d).og = -1) : Calls Tryz.prog 58 #[.pointer (some ⟨tb, 0, none⟩), .int .i64 (d : Int)] w fun e w' => e = .returned (.tuple #[zd, .iface 88 (.int .i64 13)]) ∧ Below w.heap.size w w' := by
  have hc := hid (fun y (hy : Below w.heap.size w y) => covers_yes (w := y) (tb := tb) d h.hE (h.more hy).c1 hd)
  have ha := hid (fun y (hy : Below w.heap.size w y) => at_ok (w := y) d (h.more hy))
  obtain ⟨p, q, o⟩ : ∃ p q : Nat, D d = ⟨p, q, -1⟩ := ⟨(D d).nx, (D d).pv, Dr.ext' rfl rfl ho⟩
  rw [o] at ha
  clear h hd ho
  go_enter Tryz.func58, Tryz.ntmps58
  go_wp2_with fail
  refine (hc.out _ (balloc _ _)).mono ?_
  rintro e w1 ⟨rfl, rfl⟩
  go_wp2_with fail
  refine (ha.out _ (balloc _ _)).mono ?_
  rintro e w1 ⟨rfl, b1⟩
  have hs1 := b1.size
  simp only [World.size_alloc] at hs1
  have hc0 : w1.heap[w.heap.size]? = some (.cells #[.int .i32 0, .int .i32 0, .int .i32 0] 106 (0, 0)) := (b1.block w.heap.size (by simp)).trans (heap_alloc_new w _)
  have hB1 : Below w.heap.size w w1 := (balloc w _).trans (b1.mono (by simp))
  go_wp2_with fail
  refine (dlaid_no _ _ _).mono ?_
  rintro e w2 ⟨rfl, b2⟩
  have hc2 : w2.heap[w.heap.size]? = some (.cells #[.int .i32 0, .int .i32 0, .int .i32 0] 106 (0, 0)) := by
    refine (b2.block w.heap.size (by simp; omega)).trans ((Below.heap_alloc _ _ _ (by omega)).trans hc0)
  have hB2 : Below w.heap.size w w2 := (hB1.alloc (by omega) _).trans (b2.mono (by simp; omega))
  obtain ⟨c3, c4, c5, f3, f4, f5⟩ := blk3 hc2
  have hfin := hid (set3_block hc2 (.int .i32 0) (.int .i32 0) (.int .i32 0))
  have hb := hid (below3 hB2 (Nat.le_refl _) (.int .i32 0) (.int .i32 0) (.int .i32 0))
  clear b1 b2 hc0 hB1 hc2 hB2
  go_wp2_with fail
  refine bodyPost_ret (results_pair rfl _ _ w.heap.size 106 _ (0, 0) _ rfl hfin.out Tryz.underlying106 rfl (by kernel_rfl)) rfl ?_
  exact ⟨rfl, hb.out⟩

set_option maxRecDepth 100000 in
set_option maxHeartbeats 1000000 in
theorem find_ok (d : Nat) (h : Tm w lo tb dv sv V E K M D S) (hd : d < 2 * E) (ho : (D d).og ≠ -1) : Calls Tryz.prog 58 #[.pointer (some ⟨tb, 0, none⟩), .int .i64 (d : Int)] w fun e w' => e = .returned (.tuple #[drv (D d), .nilIface]) ∧ Below w.heap.size w w' := by
  have hc := hid (fun y (hy : Below w.heap.size w y) => covers_yes (w := y) (tb := tb) d h.hE (h.more hy).c1 hd)
  have ha := hid (fun y (hy : Below w.heap.size w y) => at_ok (w := y) d (h.more hy))
  obtain ⟨p, q, o, e0⟩ : ∃ (p q : Nat) (o : Int), D d = ⟨p, q, o⟩ := ⟨(D d).nx, (D d).pv, (D d).og, rfl⟩
  rw [e0] at ha ho ⊢
  simp only [] at ho
  have hl := hid (fun y => dlaid_yes (p : Int) (q : Int) o y ho)
  clear h hd ho e0
  go_enter Tryz.func58, Tryz.ntmps58
  go_wp2_with fail
  refine (hc.out _ (balloc _ _)).mono ?_
  rintro e w1 ⟨rfl, rfl⟩
  go_wp2_with fail
  refine (ha.out _ (balloc _ _)).mono ?_
  rintro e w1 ⟨rfl, b1⟩
  have hs1 := b1.size
  simp only [World.size_alloc] at hs1
  have hc0 : w1.heap[w.heap.size]? = some (.cells #[.int .i32 0, .int .i32 0, .int .i32 0] 106 (0, 0)) := (b1.block w.heap.size (by simp)).trans (heap_alloc_new w _)
  have hB1 : Below w.heap.size w w1 := (balloc w _).trans (b1.mono (by simp))
  go_wp2_with fail
  refine (hl.out _).mono ?_
  rintro e w2 ⟨rfl, b2⟩
  have hc2 : w2.heap[w.heap.size]? = some (.cells #[.int .i32 0, .int .i32 0, .int .i32 0] 106 (0, 0)) := by
    refine (b2.block w.heap.size (by simp; omega)).trans ((Below.heap_alloc _ _ _ (by omega)).trans hc0)
  have hc3 : w2.heap[w1.heap.size]? = some (.cells #[.int .i32 (p : Int), .int .i32 (q : Int), .int .i32 o] 106 (0, 0)) := (b2.block w1.heap.size (by simp)).trans (heap_alloc_new w1 _)
  have hB2 : Below w.heap.size w w2 := (hB1.alloc (by omega) _).trans (b2.mono (by simp; omega))
  obtain ⟨c3, c4, c5, f3, f4, f5⟩ := blk3 hc2
  obtain ⟨c6, c7, c8, _, _, _⟩ := blk3 hc3
  have hfin := hid (set3_block hc2 (.int .i32 (p : Int)) (.int .i32 (q : Int)) (.int .i32 o))
  have hb := hid (below3 hB2 (Nat.le_refl _) (.int .i32 (p : Int)) (.int .i32 (q : Int)) (.int .i32 o))
  clear b1 b2 hc0 hB1 hc2 hB2 hc3
  go_wp2_with fail
  refine bodyPost_ret (results_pair rfl _ _ w.heap.size 106 _ (0, 0) _ rfl hfin.out Tryz.underlying106 rfl (by kernel_rfl)) rfl ?_
  exact ⟨rfl, hb.out⟩

set_option maxRecDepth 100000 in
set_option maxHeartbeats 1000000 in
theorem holds_nil (e : Int) (w : World) : Calls Tryz.prog 55 #[.pointer none, .int .i64 e] w fun x w' => x = .returned (.tuple #[.bool false, .iface 88 (.int .i64 1)]) ∧ w = w' := by
  go_enter Tryz.func55, Tryz.ntmps55
  go_wp2_with fail
  go_ret2
  exact ⟨rfl, rfl⟩

set_option maxRecDepth 100000 in
set_option maxHeartbeats 1000000 in
theorem holds_range (e : Int) (h : Tm w lo tb dv sv V E K M D S) (hd : e < 0 ∨ (E : Int) ≤ e) : Calls Tryz.prog 55 #[.pointer (some ⟨tb, 0, none⟩), .int .i64 e] w fun x w' => x = .returned (.tuple #[.bool false, .iface 88 (.int .i64 12)]) ∧ w = w' := by
  have c1 := h.c1
  by_cases h0 : e < 0
  · have t1 : decide (e < 0) = true := decide_eq_true h0
    clear h hd h0
    go_enter Tryz.func55, Tryz.ntmps55
    go_wp2_with fail
    go_ret2
    exact ⟨rfl, rfl⟩
  · have t1 : decide (e < 0) = false := decide_eq_false h0
    have t2 : decide ((E : Int) ≤ e) = true := decide_eq_true (by omega)
    clear h hd h0
    go_enter Tryz.func55, Tryz.ntmps55
    go_wp2_with fail
    go_ret2
    exact ⟨rfl, rfl⟩

set_option maxRecDepth 100000 in
set_option maxHeartbeats 1000000 in
theorem holds_ok (e : Nat) (b : Bool) (h : Tm w lo tb dv sv V E K M D S) (hd : e < E) (hb1 : b = true → (D (2 * e)).og ≠ -1) (hb2 : b = false → (D (2 * e)).og = -1) : Calls Tryz.prog 55 #[.pointer (some ⟨tb, 0, none⟩), .int .i64 (e : Int)] w fun x w' => x = .returned (.tuple #[.bool b, .nilIface]) ∧ Below w.heap.size w w' := by
  have ha := hid (at_ok (w := w) (2 * e) h)
  have hs := hid (sides_ok e w (by have := h.hE; omega))
  have c1 := h.c1
  have hE := h.hE
  have t1 : decide ((e : Int) < 0) = false := decide_eq_false (by omega)
  have t2 : decide ((E : Int) ≤ (e : Int)) = false := decide_eq_false (by omega)
  have t2' : decide (E ≤ e) = false := decide_eq_false (by omega)
  obtain ⟨p, q, o, e0⟩ : ∃ (p q : Nat) (o : Int), D (2 * e) = ⟨p, q, o⟩ := ⟨(D (2 * e)).nx, (D (2 * e)).pv, (D (2 * e)).og, rfl⟩
  rw [e0] at ha hb1 hb2
  simp only [] at hb1 hb2
  have hl : Hid (∀ y, Calls Tryz.prog 92 #[.agg #[.int .i32 (p : Int), .int .i32 (q : Int), .int .i32 o]] y fun e w' => e = .returned (.bool b) ∧ Below y.heap.size y w') := fun y => by
    cases b with
    | true => exact dlaid_yes (p : Int) (q : Int) o y (hb1 rfl)
    | false => rw [hb2 rfl]; exact dlaid_no (p : Int) (q : Int) y
  clear h hd hb1 hb2 e0
  go_enter Tryz.func55, Tryz.ntmps55
  go_wp2_with fail
  refine hs.out.mono ?_
  rintro x w1 ⟨rfl, rfl⟩
  go_wp2_with fail
  refine ha.out.mono ?_
  rintro x w1 ⟨rfl, b1⟩
  go_wp2_with fail
  refine (hl.out w1).mono ?_
  rintro x w2 ⟨rfl, b2⟩
  have hb := hid (b1.trans (b2.mono b1.size))
  clear b1 b2
  go_wp2_with fail
  go_ret2
  exact ⟨rfl, hb.out⟩

theorem blk2' {w : World} {g : Nat} {t : TypeId} {x y : Value} (h : w.heap[g]? = some (.cells #[x, y] t (0, 0))) : w.cell? ⟨g, 0, none⟩ = some x ∧ w.cell? ⟨g, 1, none⟩ = some y ∧ w.frozen? ⟨g, 0, none⟩ = false ∧ w.frozen? ⟨g, 1, none⟩ = false := by
  unfold World.cell? World.frozen?
  rw [h]
  exact ⟨rfl, rfl, rfl, rfl⟩

theorem set2_block' {w : World} {g : Nat} {t : TypeId} {u v : Value} (h : w.heap[g]? = some (.cells #[u, v] t (0, 0))) (a b : Value) : ((w.setCell ⟨g, 0, none⟩ a).setCell ⟨g, 1, none⟩ b).heap[g]? = some (.cells #[a, b] t (0, 0)) := by
  unfold World.setCell
  rw [Array.getElem?_modify, if_pos rfl, Array.getElem?_modify, if_pos rfl, h]
  simp

theorem below2' {B : Nat} {a w : World} {g : Nat} (h : Below B a w) (hg : B ≤ g) (x y : Value) : Below B a ((w.setCell ⟨g, 0, none⟩ x).setCell ⟨g, 1, none⟩ y) :=
  (h.setCell (p := ⟨g, 0, none⟩) hg x).setCell (p := ⟨g, 1, none⟩) hg y

set_option maxRecDepth 100000 in
set_option maxHeartbeats 1000000 in
theorem stand_nil (v : Int) (w : World) : Calls Tryz.prog 61 #[.pointer none, .int .i64 v] w fun e w' => e = .returned (.tuple #[zs, .iface 88 (.int .i64 1)]) ∧ Below w.heap.size w w' := by
  go_enter Tryz.func61, Tryz.ntmps61
  go_wp2_with fail
  refine bodyPost_ret (results_pair rfl _ _ w.heap.size 110 #[.int .i32 0, .int .i32 0] (0, 0) _ rfl (by first | exact set2_block' (heap_alloc_new w _) _ _ | exact heap_alloc_new w _) Tryz.underlying110 rfl (by kernel_rfl)) rfl ?_
  exact ⟨rfl, by first | exact below2' (balloc _ _) (Nat.le_refl _) _ _ | exact balloc _ _⟩

set_option maxRecDepth 100000 in
set_option maxHeartbeats 1000000 in
theorem stand_range (v : Int) (h : Tm w lo tb dv sv V E K M D S) (hv : v < 0 ∨ (V : Int) ≤ v) : Calls Tryz.prog 61 #[.pointer (some ⟨tb, 0, none⟩), .int .i64 v] w fun e w' => e = .returned (.tuple #[zs, .iface 88 (.int .i64 12)]) ∧ Below w.heap.size w w' := by
  have c0 := h.c0
  have hlt := h.lt
  have hbn : tb ≠ w.heap.size := by omega
  by_cases h0 : v < 0
  · have t1 : decide (v < 0) = true := decide_eq_true h0
    clear h hv h0
    go_enter Tryz.func61, Tryz.ntmps61
    go_wp2_with fail
    refine bodyPost_ret (results_pair rfl _ _ w.heap.size 110 #[.int .i32 0, .int .i32 0] (0, 0) _ rfl (by first | exact set2_block' (heap_alloc_new w _) _ _ | exact heap_alloc_new w _) Tryz.underlying110 rfl (by kernel_rfl)) rfl ?_
    exact ⟨rfl, by first | exact below2' (balloc _ _) (Nat.le_refl _) _ _ | exact balloc _ _⟩
  · have t1 : decide (v < 0) = false := decide_eq_false h0
    have t2 : decide ((V : Int) ≤ v) = true := decide_eq_true (by omega)
    clear h hv h0
    go_enter Tryz.func61, Tryz.ntmps61
    go_wp2_with fail
    refine bodyPost_ret (results_pair rfl _ _ w.heap.size 110 #[.int .i32 0, .int .i32 0] (0, 0) _ rfl (by first | exact set2_block' (heap_alloc_new w _) _ _ | exact heap_alloc_new w _) Tryz.underlying110 rfl (by kernel_rfl)) rfl ?_
    exact ⟨rfl, by first | exact below2' (balloc _ _) (Nat.le_refl _) _ _ | exact balloc _ _⟩

set_option maxRecDepth 100000 in
set_option maxHeartbeats 1000000 in
theorem stand_ok (v : Nat) (h : Tm w lo tb dv sv V E K M D S) (hv : v < V) : Calls Tryz.prog 61 #[.pointer (some ⟨tb, 0, none⟩), .int .i64 (v : Int)] w fun e w' => e = .returned (.tuple #[sdv (S v), .nilIface]) ∧ Below w.heap.size w w' := by
  have c0 := h.c0
  have c3 := h.c3
  have hlt := h.lt
  have hbn : tb ≠ w.heap.size := by omega
  have t1 : decide ((v : Int) < 0) = false := decide_eq_false (by omega)
  have t2 : decide ((V : Int) ≤ (v : Int)) = false := decide_eq_false (by omega)
  have t2' : decide (V ≤ v) = false := decide_eq_false (by omega)
  by_cases hk : v < M
  · obtain ⟨g, cap, rfl, hc1, hc2⟩ := own_form h.st (by omega)
    have t3 : decide ((M : Int) ≤ (v : Int)) = false := decide_eq_false (by omega)
    have t3' : decide (M ≤ v) = false := decide_eq_false (by omega)
    obtain ⟨a0, a1⟩ := h.sat hk
    obtain ⟨p, q, e0⟩ : ∃ p q : Nat, S v = ⟨p, q⟩ := ⟨(S v).dg, (S v).so, rfl⟩
    rw [e0] at a0 a1 ⊢
    simp only [] at a0 a1
    have hgl := World.block_lt_of_cell? w _ a0
    simp at hgl
    have hgn : g ≠ w.heap.size := by omega
    clear h e0
    go_enter Tryz.func61, Tryz.ntmps61
    go_wp2_with fail
    refine bodyPost_ret (results_pair rfl _ _ w.heap.size 110 #[.int .i32 (p : Int), .int .i32 (q : Int)] (0, 0) _ rfl (by first | exact set2_block' (heap_alloc_new w _) _ _ | exact heap_alloc_new w _) Tryz.underlying110 rfl (by kernel_rfl)) rfl ?_
    exact ⟨rfl, by first | exact below2' (balloc _ _) (Nat.le_refl _) _ _ | exact balloc _ _⟩
  · rw [h.rs v (by omega)]
    obtain ⟨ad, cap, rfl, hc1, hc2⟩ := own_any h.st
    have t3 : decide ((M : Int) ≤ (v : Int)) = true := decide_eq_true (by omega)
    have t3' : decide (M ≤ v) = true := decide_eq_true (by omega)
    clear h
    go_enter Tryz.func61, Tryz.ntmps61
    go_wp2_with fail
    refine bodyPost_ret (results_pair rfl _ _ w.heap.size 110 #[.int .i32 0, .int .i32 0] (0, 0) _ rfl (by first | exact set2_block' (heap_alloc_new w _) _ _ | exact heap_alloc_new w _) Tryz.underlying110 rfl (by kernel_rfl)) rfl ?_
    exact ⟨rfl, by first | exact below2' (balloc _ _) (Nat.le_refl _) _ _ | exact balloc _ _⟩
end

end Go.Proofs.YtghpjljnbdjmaaaGreatDoor
