/- 'alone', 'at', 'top', 'look', walked. -/
import Derived.Test.YtnlbpjppkfenkaaMem7
import Derived.Test.YtnlbpjppkfenkaaChecked
import Derived.Handy
import Derived.Deep.RegionHeld3
namespace Go.Proofs.Ytnlbpjppkfenkaa
open Go.RowKit
set_option linter.unusedVariables false

set_option maxRecDepth 100000 in
set_option maxHeartbeats 1000000 in
theorem alone_ok (x : Nat) (w : World) (hx : x ≤ 4194304) : Calls Try.prog 50 #[.int .i64 (x : Int)] w fun e w' => e = .returned (mbv (alone x)) ∧ Below w.heap.size w w' := by
  have hw : IntKind.i32.wrap (x : Int) = (x : Int) := by rw [IntKind.wrap_i32]; omega
  go_enter Try.func50, Try.ntmps50
  go_wp2_with fail
  go_returns
  exact ⟨rfl, (Below.refl _ _).alloc (Nat.le_refl _) _⟩

/-- A member's own block: its cells. -/
theorem blk3 {w : World} {g : Nat} {t : TypeId} {x y z : Value} (h : w.heap[g]? = some (.cells #[x, y, z] t (0, 0))) : w.cell? ⟨g, 0, none⟩ = some x ∧ w.cell? ⟨g, 1, none⟩ = some y ∧ w.cell? ⟨g, 2, none⟩ = some z ∧ w.frozen? ⟨g, 0, none⟩ = false ∧ w.frozen? ⟨g, 1, none⟩ = false ∧ w.frozen? ⟨g, 2, none⟩ = false := by
  unfold World.cell? World.frozen?
  rw [h]
  simp

theorem set3_block {w : World} {g : Nat} {t : TypeId} {u v x : Value} (h : w.heap[g]? = some (.cells #[u, v, x] t (0, 0))) (a b c : Value) : (((w.setCell ⟨g, 0, none⟩ a).setCell ⟨g, 1, none⟩ b).setCell ⟨g, 2, none⟩ c).heap[g]? = some (.cells #[a, b, c] t (0, 0)) := by
  unfold World.setCell
  rw [Array.getElem?_modify, if_pos rfl, Array.getElem?_modify, if_pos rfl, Array.getElem?_modify, if_pos rfl, h]
  simp

theorem below3 {B : Nat} {a w : World} {g : Nat} (h : Below B a w) (hg : B ≤ g) (x y z : Value) : Below B a (((w.setCell ⟨g, 0, none⟩ x).setCell ⟨g, 1, none⟩ y).setCell ⟨g, 2, none⟩ z) :=
  ((h.setCell (p := ⟨g, 0, none⟩) hg x).setCell (p := ⟨g, 1, none⟩) hg y).setCell (p := ⟨g, 2, none⟩) hg z

set_option maxRecDepth 100000 in
set_option maxHeartbeats 1000000 in
theorem at_ok (gb n K x : Nat) (mv jv : Value) (T : Tb) (js : List (Nat × Nat)) (w : World) (h : Gr w gb mv jv n K T js) (hx : x < n) :
    Calls Try.prog 38 #[.pointer (some ⟨gb, 0, none⟩), .int .i64 (x : Int)] w fun e w' => e = .returned (mbv (T x)) ∧ Below w.heap.size w w' := by
  obtain ⟨ad, cap, rfl, hc1, hc2⟩ := own_any h.mem
  have c1 := h.c1
  have hlt := h.lt
  have hn := h.hn
  by_cases hk : x < K
  · have t1 : decide ((x : Int) < (K : Int)) = true := decide_eq_true (by omega)
    obtain ⟨g, cap', hv, _⟩ := own_form h.mem (by omega)
    simp only [Value.slice.injEq] at hv
    obtain ⟨rfl, _, rfl⟩ := hv
    obtain ⟨a0, a1, a2⟩ := h.at hk
    have hgl := World.block_lt_of_cell? w _ a0
    simp at hgl
    have hgn : g ≠ w.heap.size := by omega
    have hbn : gb ≠ w.heap.size := by omega
    clear h
    go_enter Try.func38, Try.ntmps38
    go_wp2_with fail
    go_returns
    exact ⟨rfl, (Below.refl _ _).alloc (Nat.le_refl _) _⟩
  · have t1 : decide ((x : Int) < (K : Int)) = false := decide_eq_false (by omega)
    have hr := h.rest x (by omega)
    rw [hr]
    have hbn : gb ≠ w.heap.size := by omega
    clear h hr
    go_enter Try.func38, Try.ntmps38
    go_wp2_with fail
    refine (alone_ok x _ (by omega)).mono ?_
    rintro e w1 ⟨rfl, b1⟩
    have hc : w1.heap[w.heap.size]? = some (.cells #[.int .i32 0, .int .i32 0, .int .i32 0] 68 (0, 0)) := (b1.block w.heap.size (by simp)).trans (heap_alloc_new w _)
    have hfin := hid (set3_block hc (.int .i32 ((alone x).up : Int)) (.int .i32 ((alone x).size : Int)) (.int .i32 ((alone x).least : Int)))
    have hbel := hid (below3 (((Below.refl w.heap.size w).alloc (Nat.le_refl _) _).trans (b1.mono (by simp))) (Nat.le_refl _) (.int .i32 ((alone x).up : Int)) (.int .i32 ((alone x).size : Int)) (.int .i32 ((alone x).least : Int)))
    obtain ⟨d0, d1, d2, f0, f1, f2⟩ := blk3 hc
    clear hc b1
    go_wp2_with fail
    refine bodyPost_ret (results_cell_row rfl _ _ w.heap.size 68 _ (0, 0) _ rfl hfin.out Try.underlying68 rfl (by kernel_rfl)) rfl ?_
    exact ⟨rfl, hbel.out⟩

set_option maxRecDepth 100000 in
set_option maxHeartbeats 2000000 in
theorem top_ok (gb n K x : Nat) (mv jv : Value) (T : Tb) (js : List (Nat × Nat)) (r d f : Nat → Nat) (w : World) (h : Gr w gb mv jv n K T js) (ok : Ok n T r d f) (hx : x < n) :
    Calls Try.prog 31 #[.pointer (some ⟨gb, 0, none⟩), .int .i64 (x : Int)] w fun e w' => e = .returned (mbv (T (r x))) ∧ Below w.heap.size w w' := by
  have hn := h.hn
  have hh := hid h
  have okh := hid ok
  have hlt := h.lt
  clear h ok
  go_enter Try.func31, Try.ntmps31
  go_wp2_with fail
  refine (at_ok gb n K x mv jv T js _ (hh.out.more ((Below.refl _ _).alloc (Nat.le_refl _) _)) hx).mono ?_
  rintro e w1 ⟨rfl, b1⟩
  have hw1 : Hid (Below w.heap.size w w1) := ((Below.refl w.heap.size w).alloc (Nat.le_refl _) _).trans (b1.mono (by simp))
  have hc1 : w1.heap[w.heap.size]? = some (.cells #[.int .i32 0, .int .i32 0, .int .i32 0] 68 (0, 0)) := (b1.block w.heap.size (by simp)).trans (heap_alloc_new w _)
  have hs := b1.size
  simp at hs
  replace hc1 := hid hc1
  clear b1
  go_wp2_with fail
  go_loopw [1] (fun u wr => ∃ y : Nat, y < n ∧ u = .int .i64 (y : Int) ∧ Hid (r y = r x ∧ Below w.heap.size w wr ∧ wr.heap[w.heap.size]? = some (.cells #[.int .i32 0, .int .i32 0, .int .i32 0] 68 (0, 0)) ∧ wr.heap[w1.heap.size]? = some (.cells #[.int .i32 ((T y).up : Int), .int .i32 ((T y).size : Int), .int .i32 ((T y).least : Int)] 68 (0, 0))))
    (fun u _ => d (intOf u).toNat)
  case atStart => exact ⟨x, hx, rfl, rfl, hw1.out.alloc (by omega) _, (Below.heap_alloc _ _ _ hs).trans hc1.out, heap_alloc_new _ _⟩
  case round =>
    obtain ⟨y, hy, rfl, hst⟩ := hrel
    obtain ⟨d0, d1, d2, f0, f1, f2⟩ := blk3 hst.out.2.2.2
    have hup := okh.out.upn y hy
    by_cases e : (T y).up = y
    · have t1 : ((((T y).up : Nat) : Int) == (y : Int)) = true := by simp [e]
      have t2 : ((((T y).up : Nat) : Int) != (y : Int)) = false := by simp [e]
      have hry : r x = y := hst.out.1.symm.trans ((okh.out.self y hy).1 e)
      obtain ⟨e0, e1, e2, g0, g1, g2⟩ := blk3 hst.out.2.2.1
      have hfin := hid (set3_block hst.out.2.2.1 (.int .i32 ((T y).up : Int)) (.int .i32 ((T y).size : Int)) (.int .i32 ((T y).least : Int)))
      have hbel := hid (below3 hst.out.2.1 (Nat.le_refl _) (.int .i32 ((T y).up : Int)) (.int .i32 ((T y).size : Int)) (.int .i32 ((T y).least : Int)))
      replace hry := hid hry
      replace e := hid e
      go_wp2_with fail
      refine bodyPost_ret (results_cell_row rfl _ _ w.heap.size 68 _ (0, 0) _ rfl hfin.out Try.underlying68 rfl (by kernel_rfl)) rfl ?_
      exact ⟨by rw [hry.out], hbel.out⟩
    · have t1 : ((((T y).up : Nat) : Int) == (y : Int)) = false := by simp; omega
      have t2 : ((((T y).up : Nat) : Int) != (y : Int)) = true := by simp; omega
      replace e := hid e
      go_wp2_with fail
      refine (at_ok gb n K (T y).up mv jv T js _ (hh.out.more hst.out.2.1) hup).mono ?_
      rintro e' w2 ⟨rfl, b2⟩
      have hsz := hst.out.2.1.size
      have hlt1 := (Array.getElem?_eq_some_iff.1 hst.out.2.2.2).1
      have hk1 := hid ((b2.block _ hlt1).trans hst.out.2.2.2)
      have hk0 := hid ((b2.block _ (by omega)).trans hst.out.2.2.1)
      have hbw := hid (hst.out.2.1.trans (b2.mono hsz))
      obtain ⟨d0, d1, d2, f0, f1, f2⟩ := blk3 hk1.out
      have hfin := hid (set3_block hk1.out (.int .i32 ((T (T y).up).up : Int)) (.int .i32 ((T (T y).up).size : Int)) (.int .i32 ((T (T y).up).least : Int)))
      have hbel := hid (below3 (g := w1.heap.size) hbw.out (by omega) (.int .i32 ((T (T y).up).up : Int)) (.int .i32 ((T (T y).up).size : Int)) (.int .i32 ((T (T y).up).least : Int)))
      clear b2
      go_wp2_with fail
      go_roundw
      case rel =>
        refine ⟨(T y).up, hup, rfl, (okh.out.upr y hy).trans hst.out.1, hbel.out, ?_, hfin.out⟩
        rw [Below.heap_setCell _ _ _ _ (by show _ ≠ w1.heap.size; omega), Below.heap_setCell _ _ _ _ (by show _ ≠ w1.heap.size; omega), Below.heap_setCell _ _ _ _ (by show _ ≠ w1.heap.size; omega)]
        exact hk0.out
      case measure => have := okh.out.ds y hy e.out; simp [intOf]; omega

/-- The block holds these numbers. -/
def Nums (w : World) (b : Nat) (xs : List Int) : Prop := w.heap[b]? = some (.cells (xs.map (fun z => Value.int .i64 z)).toArray 3 (0, 0))

theorem Nums.cell {w : World} {b j : Nat} {xs : List Int} {z : Int} (h : Nums w b xs) (hz : xs[j]? = some z) : w.cell? ⟨b, j, none⟩ = some (.int .i64 z) := by
  unfold World.cell?
  rw [h]
  simp [hz]

set_option maxRecDepth 100000 in
set_option maxHeartbeats 1000000 in
theorem look_nil (s : Value) (w : World) : Calls Try.prog 30 #[.pointer none, s] w fun e w' => e = .returned (.iface 58 (.int .i64 1)) ∧ w = w' := by
  go_enter Try.func30, Try.ntmps30
  go_wp2_with fail
  go_ret
  exact ⟨rfl, rfl⟩

set_option maxRecDepth 100000 in
set_option maxHeartbeats 1000000 in
theorem look_bad (fb b n : Nat) (xs : List Int) (w : World) (hn : w.cell? ⟨fb, 0, none⟩ = some (.int .i64 (n : Int))) (hb : Nums w b xs) (hl : xs.length ≤ 2) (hbad : ¬ ∀ z ∈ xs, 0 ≤ z ∧ z < (n : Int)) :
    Calls Try.prog 30 #[.pointer (some ⟨fb, 0, none⟩), .slice (some ⟨b, 0, none⟩) xs.length xs.length] w fun e w' => e = .returned (.iface 58 (.int .i64 12)) ∧ w = w' := by
  have hbh := hid hb
  have hbad := hid hbad
  clear hb
  go_enter Try.func30, Try.ntmps30
  go_wp2_with fail
  go_loop [6, 12] (fun _ u => ∃ j : Nat, j ≤ xs.length ∧ u = .int .i64 (j : Int) ∧ Hid (∀ k z, k < j → xs[k]? = some z → 0 ≤ z ∧ z < (n : Int))) (fun _ u => xs.length - (intOf u).toNat)
  case atStart => exact ⟨0, by omega, by go_num, fun k z hk => by omega⟩
  case round =>
    obtain ⟨j, hj, rfl, hok⟩ := hrel
    rcases Nat.lt_or_ge j xs.length with hlt | hge
    · obtain ⟨z, hz⟩ : ∃ z, xs[j]? = some z := ⟨_, List.getElem?_eq_getElem hlt⟩
      have hc := hbh.out.cell hz
      have hzh := hid hz
      clear hz
      by_cases h0 : z < 0
      · have t1 : decide (z < 0) = true := decide_eq_true h0
        go_wp2_with fail
        go_ret
        exact ⟨rfl, rfl⟩
      · have t1 : decide (z < 0) = false := decide_eq_false h0
        by_cases h1 : (n : Int) ≤ z
        · have t2 : decide ((n : Int) ≤ z) = true := decide_eq_true h1
          go_wp2_with fail
          go_ret
          exact ⟨rfl, rfl⟩
        · have t2 : decide ((n : Int) ≤ z) = false := decide_eq_false h1
          go_wp2_with fail
          go_round
          case rel =>
            refine ⟨j + 1, by omega, by go_num, fun k z' hk hz' => ?_⟩
            rcases Nat.lt_or_ge k j with h2 | h2
            · exact hok.out k z' h2 hz'
            · obtain rfl : k = j := by omega
              rw [hzh.out] at hz'
              cases hz'
              omega
          case measure => simp [intOf]; omega
    · refine absurd (fun z hz => ?_) hbad.out
      obtain ⟨k, hk⟩ := List.mem_iff_getElem?.1 hz
      exact hok.out k z (by have := (List.getElem?_eq_some_iff.1 hk).1; omega) hk

set_option maxRecDepth 100000 in
set_option maxHeartbeats 1000000 in
theorem look_ok (fb b n : Nat) (xs : List Int) (w : World) (hn : w.cell? ⟨fb, 0, none⟩ = some (.int .i64 (n : Int))) (hb : Nums w b xs) (hl : xs.length ≤ 2) (hok : ∀ z ∈ xs, 0 ≤ z ∧ z < (n : Int)) :
    Calls Try.prog 30 #[.pointer (some ⟨fb, 0, none⟩), .slice (some ⟨b, 0, none⟩) xs.length xs.length] w fun e w' => e = .returned .nilIface ∧ w = w' := by
  have hbh := hid hb
  have hokh := hid hok
  clear hb hok
  go_enter Try.func30, Try.ntmps30
  go_wp2_with fail
  go_loop [6, 12] (fun _ u => ∃ j : Nat, j ≤ xs.length ∧ u = .int .i64 (j : Int)) (fun _ u => xs.length - (intOf u).toNat)
  case atStart => exact ⟨0, by omega, by go_num⟩
  case round =>
    obtain ⟨j, hj, rfl⟩ := hrel
    rcases Nat.lt_or_ge j xs.length with hlt | hge
    · obtain ⟨z, hz⟩ : ∃ z, xs[j]? = some z := ⟨_, List.getElem?_eq_getElem hlt⟩
      have hc := hbh.out.cell hz
      have hzz := hokh.out z (List.mem_of_getElem? hz)
      have t1 : decide (z < 0) = false := decide_eq_false (by omega)
      have t2 : decide ((n : Int) ≤ z) = false := decide_eq_false (by omega)
      clear hz hzz
      go_wp2_with fail
      go_round
      case rel => exact ⟨j + 1, by omega, by go_num⟩
      case measure => simp [intOf]; omega
    · go_wp2_with fail
      go_ret
      exact ⟨rfl, rfl⟩

end Go.Proofs.Ytnlbpjppkfenkaa
