/- 'check', walked. -/
import Derived.Test.YtnlbpjppkfenkaaMem9
namespace Go.Proofs.Ytnlbpjppkfenkaa
open Go.RowKit
set_option linter.unusedVariables false

/-- An edge's ends are vertices. -/
def Inr (n : Int) (q : Ed) : Prop := (0 ≤ q.a ∧ q.a < n) ∧ 0 ≤ q.b ∧ q.b < n
/-- All edges' ends are. -/
def Okr (n : Int) (l : List Ed) : Prop := ∀ q, q ∈ l → Inr n q

set_option maxRecDepth 100000 in
set_option maxHeartbeats 1000000 in
theorem check1_no (bn : Nat) (n x y z : Int) (w : World) (hb : w.cell? ⟨bn, 0, none⟩ = some (.int .i64 n)) (h : Inr n ⟨x, y, z⟩) :
    Calls Try.prog 27 #[.agg #[.int .i64 x, .int .i64 y, .int .i32 z], .pointer (some ⟨bn, 0, none⟩)] w fun e w' => e = .returned (.bool false) ∧ Below w.heap.size w w' := by
  have hb2 : (w.alloc (.cells #[.int .i64 x, .int .i64 y, .int .i32 z] 45)).cell? ⟨bn, 0, none⟩ = some (.int .i64 n) := ((balloc w _).cell (World.block_lt_of_cell? w _ hb)).trans hb
  obtain ⟨⟨h1, h2⟩, h3, h4⟩ := h
  simp only [] at h1 h2 h3 h4
  have d1 : decide (x < 0) = false := decide_eq_false (by omega)
  have d2 : decide (n ≤ x) = false := decide_eq_false (by omega)
  have d3 : decide (y < 0) = false := decide_eq_false (by omega)
  have d4 : decide (n ≤ y) = false := decide_eq_false (by omega)
  clear h1 h2 h3 h4
  go_enter Try.func27, Try.ntmps27
  go_wp2_with fail
  go_ret
  exact ⟨rfl, balloc _ _⟩

set_option maxRecDepth 100000 in
set_option maxHeartbeats 1000000 in
theorem check1_yes (bn : Nat) (n x y z : Int) (w : World) (hb : w.cell? ⟨bn, 0, none⟩ = some (.int .i64 n)) (h : ¬ Inr n ⟨x, y, z⟩) :
    Calls Try.prog 27 #[.agg #[.int .i64 x, .int .i64 y, .int .i32 z], .pointer (some ⟨bn, 0, none⟩)] w fun e w' => e = .returned (.bool true) ∧ Below w.heap.size w w' := by
  have hb2 : (w.alloc (.cells #[.int .i64 x, .int .i64 y, .int .i32 z] 45)).cell? ⟨bn, 0, none⟩ = some (.int .i64 n) := ((balloc w _).cell (World.block_lt_of_cell? w _ hb)).trans hb
  unfold Inr at h
  simp only [] at h
  by_cases h1 : x < 0
  · have d1 : decide (x < 0) = true := decide_eq_true h1
    clear h1 h
    go_enter Try.func27, Try.ntmps27
    go_wp2_with fail
    go_ret
    exact ⟨rfl, balloc _ _⟩
  · have d1 : decide (x < 0) = false := decide_eq_false h1
    by_cases h2 : n ≤ x
    · have d2 : decide (n ≤ x) = true := decide_eq_true h2
      clear h1 h2 h
      go_enter Try.func27, Try.ntmps27
      go_wp2_with fail
      go_ret
      exact ⟨rfl, balloc _ _⟩
    · have d2 : decide (n ≤ x) = false := decide_eq_false h2
      by_cases h3 : y < 0
      · have d3 : decide (y < 0) = true := decide_eq_true h3
        clear h1 h2 h3 h
        go_enter Try.func27, Try.ntmps27
        go_wp2_with fail
        go_ret
        exact ⟨rfl, balloc _ _⟩
      · have d3 : decide (y < 0) = false := decide_eq_false h3
        have d4 : decide (n ≤ y) = true := decide_eq_true (by omega)
        clear h1 h2 h3 h
        go_enter Try.func27, Try.ntmps27
        go_wp2_with fail
        go_ret
        exact ⟨rfl, balloc _ _⟩

theorem take_next {α : Type} {zs : List α} {j : Nat} {z : α} (h : zs[j]? = some z) : zs.take (j + 1) = zs.take j ++ [z] := by
  rw [List.take_add_one, h]; rfl

set_option maxRecDepth 100000 in
set_option maxHeartbeats 2000000 in
theorem index_ok (bn : Nat) (n : Int) (v : Value) (l : List Ed) (w : World) (hb : w.cell? ⟨bn, 0, none⟩ = some (.int .i64 n)) (hv : EV w v l) (hl : l.length ≤ 1048576) :
    Calls Try.prog 35 #[v, .func (.func 27) #[] #[.pointer (some ⟨bn, 0, none⟩)]] w fun e w' => ∃ r : Int, e = .returned (.int .i64 r) ∧ ((r = -1 ∧ Okr n l) ∨ (0 ≤ r ∧ ¬ Okr n l)) ∧ Below w.heap.size w w' := by
  obtain ⟨ad, m, cap, rfl, he, _, _⟩ := hv
  have hm := he.len
  rw [hm] at hl
  replace hm := hid hm
  replace he := hid he
  have hbl := World.block_lt_of_cell? w _ hb
  replace hb := hid hb
  go_enter Try.func35, Try.ntmps35
  go_wp2_with fail
  go_loopw [5, 8] (fun _ u wr => ∃ j : Nat, j ≤ m ∧ u = .int .i64 (j : Int) ∧ Hid (Okr n (l.take j) ∧ Below w.heap.size w wr))
    (fun _ u _ => m - (intOf u).toNat)
  case atStart => exact ⟨0, by omega, by go_num, (fun q hq => by simp at hq), Below.refl _ _⟩
  case round =>
    obtain ⟨j, hj, rfl, hs⟩ := hrel
    rcases Nat.lt_or_ge j m with hlt | hge
    · obtain ⟨q, hq⟩ : ∃ q, l[j]? = some q := ⟨_, List.getElem?_eq_getElem (by rw [hm.out]; exact hlt)⟩
      obtain ⟨g, o, rfl, c0, c1, c2⟩ := (he.out.below hs.out.2).cell j q hq
      have hbn : Hid (wr.cell? ⟨bn, 0, none⟩ = some (.int .i64 n)) := (hs.out.2.cell hbl).trans hb.out
      have htk := hid (take_next hq)
      obtain ⟨x, y, z⟩ := q
      simp only [] at c0 c1 c2
      have i1 : (0 : Int) ≤ (j : Int) := by omega
      have i2 : (j : Int) < (m : Int) := by omega
      by_cases hin : Inr n ⟨x, y, z⟩
      · have hcall := hid (check1_no bn n x y z wr hbn.out hin)
        have hok : Hid (Okr n (l.take (j + 1))) := by
          rw [htk.out]
          intro q hq
          rcases List.mem_append.1 hq with h | h
          · exact hs.out.1 q h
          · simp at h; subst h; exact hin
        have hbel := hid hs.out.2
        clear hq hin hs htk hbn
        go_wp2_with fail
        refine hcall.out.mono ?_
        rintro e w2 ⟨rfl, b2⟩
        have hb2 : Hid (Below w.heap.size w w2) := hbel.out.trans (b2.mono hbel.out.size)
        clear hcall b2 hbel
        go_wp2_with fail
        go_roundw
        case rel => exact ⟨j + 1, by omega, by go_num, hok.out, hb2.out⟩
        case measure => simp [intOf]; omega
      · have hcall := hid (check1_yes bn n x y z wr hbn.out hin)
        have hno : Hid (¬ Okr n l) := fun h => hin (h _ (List.mem_of_getElem? hq))
        have hbel := hid hs.out.2
        clear hq hin hs htk hbn
        go_wp2_with fail
        refine hcall.out.mono ?_
        rintro e w2 ⟨rfl, b2⟩
        have hb2 : Hid (Below w.heap.size w w2) := hbel.out.trans (b2.mono hbel.out.size)
        clear hcall b2 hbel
        go_wp2_with fail
        go_ret
        exact ⟨_, rfl, .inr ⟨by omega, hno.out⟩, hb2.out⟩
    · obtain rfl : j = m := by omega
      have hok : Hid (Okr n l) := by
        have := hs.out.1
        rw [List.take_of_length_le (by rw [hm.out]; exact Nat.le_refl _)] at this
        exact this
      go_wp2_with fail
      go_ret
      exact ⟨_, rfl, .inl ⟨rfl, hok.out⟩, hs.out.2⟩

set_option maxRecDepth 100000 in
set_option maxHeartbeats 1000000 in
theorem contains_no (bn : Nat) (n : Int) (v : Value) (l : List Ed) (w : World) (hb : w.cell? ⟨bn, 0, none⟩ = some (.int .i64 n)) (hv : EV w v l) (hl : l.length ≤ 1048576) (hok : Okr n l) :
    Calls Try.prog 28 #[v, .func (.func 27) #[] #[.pointer (some ⟨bn, 0, none⟩)]] w fun e w' => e = .returned (.bool false) ∧ Below w.heap.size w w' := by
  have h := hid (index_ok bn n v l w hb hv hl)
  clear hb hv
  go_enter Try.func28, Try.ntmps28
  go_wp2_with fail
  refine h.out.mono ?_
  rintro e w1 ⟨r, rfl, h1, b1⟩
  have hr : r = -1 := by
    rcases h1 with ⟨h2, _⟩ | ⟨_, h2⟩
    · exact h2
    · exact absurd hok h2
  subst hr
  replace b1 := hid b1
  clear h h1 hok
  go_wp2_with fail
  go_ret
  exact ⟨rfl, b1.out⟩

set_option maxRecDepth 100000 in
set_option maxHeartbeats 1000000 in
theorem contains_yes (bn : Nat) (n : Int) (v : Value) (l : List Ed) (w : World) (hb : w.cell? ⟨bn, 0, none⟩ = some (.int .i64 n)) (hv : EV w v l) (hl : l.length ≤ 1048576) (hok : ¬ Okr n l) :
    Calls Try.prog 28 #[v, .func (.func 27) #[] #[.pointer (some ⟨bn, 0, none⟩)]] w fun e w' => e = .returned (.bool true) ∧ Below w.heap.size w w' := by
  have h := hid (index_ok bn n v l w hb hv hl)
  clear hb hv
  go_enter Try.func28, Try.ntmps28
  go_wp2_with fail
  refine h.out.mono ?_
  rintro e w1 ⟨r, rfl, h1, b1⟩
  have hr : decide (0 ≤ r) = true := by
    rcases h1 with ⟨_, h2⟩ | ⟨h2, _⟩
    · exact absurd h2 hok
    · exact decide_eq_true h2
  replace b1 := hid b1
  clear h h1 hok
  go_wp2_with fail
  go_ret
  exact ⟨rfl, b1.out⟩

theorem box_new (w : World) (u : Value) (t : TypeId) : (w.alloc (.cells #[u] t)).cell? ⟨w.heap.size, 0, none⟩ = some u := by
  have hn := heap_alloc_new w (.cells #[u] t)
  unfold World.cell?
  rw [hn]
  rfl

set_option maxRecDepth 100000 in
set_option maxHeartbeats 1000000 in
theorem check_ok (n : Int) (v : Value) (l : List Ed) (w : World) (hv : EV w v l) (h1 : 0 ≤ n) (h2 : n ≤ 1048576) (hl : l.length ≤ 1048576) (hok : Okr n l) :
    Calls Try.prog 19 #[.int .i64 n, v] w fun e w' => e = .returned .nilIface ∧ Below w.heap.size w w' := by
  have hc := hid (contains_no w.heap.size n v l (w.alloc (.cells #[.int .i64 n] 3)) (box_new w _ _) (hv.below (balloc _ _)) hl hok)
  obtain ⟨ad, m, cap, rfl, he, _, _⟩ := hv
  have hm := he.len
  have d1 : decide (n < 0) = false := decide_eq_false (by omega)
  have d2 : decide (1048576 < n) = false := decide_eq_false (by omega)
  have d3 : decide (1048576 < (m : Int)) = false := decide_eq_false (by omega)
  clear h1 h2 hl hok he hm
  go_enter Try.func19, Try.ntmps19
  go_wp2_with fail
  refine hc.out.mono ?_
  rintro e w1 ⟨rfl, b1⟩
  have b2 : Hid (Below w.heap.size w w1) := (balloc w (.cells #[.int .i64 n] 3)).trans (b1.mono (by simp))
  clear b1 hc
  go_wp2_with fail
  go_ret
  exact ⟨rfl, b2.out⟩

set_option maxRecDepth 100000 in
set_option maxHeartbeats 1000000 in
theorem check_arg (n : Int) (v : Value) (w : World) (h : n < 0 ∨ 1048576 < n) :
    Calls Try.prog 19 #[.int .i64 n, v] w fun e w' => e = .returned (.iface 58 (.int .i64 1)) ∧ Below w.heap.size w w' := by
  by_cases h1 : n < 0
  · have d1 : decide (n < 0) = true := decide_eq_true h1
    clear h1 h
    go_enter Try.func19, Try.ntmps19
    go_wp2_with fail
    go_ret
    exact ⟨rfl, balloc _ _⟩
  · have d1 : decide (n < 0) = false := decide_eq_false h1
    have d2 : decide (1048576 < n) = true := decide_eq_true (by omega)
    clear h1 h
    go_enter Try.func19, Try.ntmps19
    go_wp2_with fail
    go_ret
    exact ⟨rfl, balloc _ _⟩

set_option maxRecDepth 100000 in
set_option maxHeartbeats 1000000 in
theorem check_range (n : Int) (v : Value) (l : List Ed) (w : World) (hv : EV w v l) (h1 : 0 ≤ n) (h2 : n ≤ 1048576) (hl : l.length ≤ 1048576) (hok : ¬ Okr n l) :
    Calls Try.prog 19 #[.int .i64 n, v] w fun e w' => e = .returned (.iface 58 (.int .i64 12)) ∧ Below w.heap.size w w' := by
  have hc := hid (contains_yes w.heap.size n v l (w.alloc (.cells #[.int .i64 n] 3)) (box_new w _ _) (hv.below (balloc _ _)) hl hok)
  obtain ⟨ad, m, cap, rfl, he, _, _⟩ := hv
  have hm := he.len
  have d1 : decide (n < 0) = false := decide_eq_false (by omega)
  have d2 : decide (1048576 < n) = false := decide_eq_false (by omega)
  have d3 : decide (1048576 < (m : Int)) = false := decide_eq_false (by omega)
  clear h1 h2 hl hok he hm
  go_enter Try.func19, Try.ntmps19
  go_wp2_with fail
  refine hc.out.mono ?_
  rintro e w1 ⟨rfl, b1⟩
  have b2 : Hid (Below w.heap.size w w1) := (balloc w (.cells #[.int .i64 n] 3)).trans (b1.mono (by simp))
  clear b1 hc
  go_wp2_with fail
  go_ret
  exact ⟨rfl, b2.out⟩

end Go.Proofs.Ytnlbpjppkfenkaa
