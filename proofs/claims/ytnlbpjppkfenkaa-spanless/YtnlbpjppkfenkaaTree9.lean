/- 'Tree', 'Most', walked. -/
import Derived.Laws.EntriesVeiled
import Derived.Test.YtnlbpjppkfenkaaGrowW9
namespace Go.Proofs.Ytnlbpjppkfenkaa
open Go.RowKit Go.Sort
set_option linter.unusedVariables false

theorem cfR_lt (l : List Ed) (a b : Nat) : cfR l a b < 0 ↔ Lw (eW l) a b := by
  unfold cfR orI cmpI Lw
  by_cases h1 : eW l a < eW l b
  · simp [h1]
  · by_cases h2 : eW l b < eW l a
    · simp [h1, h2]; omega
    · have h3 : eW l a = eW l b := by omega
      simp [h3]
      by_cases h4 : a < b
      · simp [h4]
      · by_cases h5 : b < a <;> simp [h4, h5]

theorem cmps_rising (bx : Nat) (v : Value) (l : List Ed) (w : World) (hbx : w.cell? ⟨bx, 0, none⟩ = some v) (hv : EV w v l) : Cmps 23 #[.pointer (some ⟨bx, 0, none⟩)] l.length (cfR l) w := fun y hy a b ha hb => by
  have h := rising1_ok bx a b v l y ((hy.cell (World.block_lt_of_cell? w _ hbx)).trans hbx) (hv.below hy) ha hb
  exact h

theorem cmps_most (bm bx : Nat) (v : Value) (l : List Ed) (w : World) (hbm : w.cell? ⟨bm, 0, none⟩ = some (.func (.func 23) #[] #[.pointer (some ⟨bx, 0, none⟩)])) (hbx : w.cell? ⟨bx, 0, none⟩ = some v) (hv : EV w v l) : Cmps 18 #[.pointer (some ⟨bm, 0, none⟩)] l.length (fun a b => cfR l b a) w := fun y hy a b ha hb => by
  have h := most1_ok bm bx a b v l y ((hy.cell (World.block_lt_of_cell? w _ hbm)).trans hbm) ((hy.cell (World.block_lt_of_cell? w _ hbx)).trans hbx) (hv.below hy) ha hb
  exact h

set_option maxRecDepth 100000 in
set_option maxHeartbeats 1000000 in
theorem rising_ok (ad : Option Addr) (m cap : Nat) (w : World) : Calls Try.prog 17 #[.slice ad m cap] w fun e w' => e = .returned (.func (.func 23) #[] #[.pointer (some ⟨w.heap.size, 0, none⟩)]) ∧ w.alloc (.cells #[.slice ad m cap] 33) = w' := by
  go_enter Try.func17, Try.ntmps17
  go_wp2_with fail
  go_ret
  exact ⟨rfl, rfl⟩

set_option maxRecDepth 100000 in
set_option maxHeartbeats 1000000 in
theorem grow_arg (n : Int) (v f : Value) (w : World) (h : n < 0 ∨ 1048576 < n) : Calls Try.prog 16 #[.int .i64 n, v, f] w fun e w' => e = .returned (.tuple #[.slice none 0 0, .int .i64 0, .iface 58 (.int .i64 1)]) ∧ Below w.heap.size w w' := by
  have hc := hid (check_arg n v w h)
  clear h
  go_enter Try.func16, Try.ntmps16
  go_wp2_with fail
  refine hc.out.mono ?_
  rintro e w1 ⟨rfl, b1⟩
  replace b1 := hid b1
  clear hc
  go_wp2_with fail
  go_ret3
  exact ⟨rfl, b1.out⟩

set_option maxRecDepth 100000 in
set_option maxHeartbeats 1000000 in
theorem grow_range (n : Int) (v f : Value) (l : List Ed) (w : World) (hv : EV w v l) (h1 : 0 ≤ n) (h2 : n ≤ 1048576) (hl : l.length ≤ 1048576) (hok : ¬ Okr n l) : Calls Try.prog 16 #[.int .i64 n, v, f] w fun e w' => e = .returned (.tuple #[.slice none 0 0, .int .i64 0, .iface 58 (.int .i64 12)]) ∧ Below w.heap.size w w' := by
  have hc := hid (check_range n v l w hv h1 h2 hl hok)
  clear hv h1 h2 hl hok
  go_enter Try.func16, Try.ntmps16
  go_wp2_with fail
  refine hc.out.mono ?_
  rintro e w1 ⟨rfl, b1⟩
  replace b1 := hid b1
  clear hc
  go_wp2_with fail
  go_ret3
  exact ⟨rfl, b1.out⟩

/-- What Tree, and Most, answer. -/
def Tr (L : Nat → Nat → Prop) (l : List Ed) (w : World) (e : Ending) (w' : World) : Prop := ∃ mv so, e = .returned (.tuple #[mv, .int .i64 (wsum (eW l) (kr (eA l) (eB l) (fun x => x) so)), .nilIface]) ∧ So l.length L so ∧ Rm w.heap.size w' mv l.length (fun i => decide (i ∈ kr (eA l) (eB l) (fun x => x) so)) ∧ Below w.heap.size w w'

theorem Tr.low {L : Nat → Nat → Prop} {l : List Ed} {w w1 w' : World} {e : Ending} (h : Tr L l w1 e w') (hb : Below w.heap.size w w1) : Tr L l w e w' := by
  obtain ⟨mv, so, h1, h2, h3, h4⟩ := h
  exact ⟨mv, so, h1, h2, own_low h3 hb.size, hb.trans (h4.mono hb.size)⟩

set_option maxRecDepth 100000 in
set_option maxHeartbeats 1000000 in
theorem tree_ok (n : Nat) (v : Value) (l : List Ed) (w : World) (hv : EV w v l) (hn : n ≤ 1048576) (hl : l.length ≤ 1048576) (hok : Okr (n : Int) l) (hw : Wr l) :
    Calls Try.prog 7 #[.int .i64 (n : Int), v] w fun e w' => Tr (Lw (eW l)) l w e w' := by
  obtain ⟨ad, m, cap, rfl, he⟩ := hv
  have hv : EV w (.slice ad m cap) l := ⟨ad, m, cap, rfl, he⟩
  have hb1 : Below w.heap.size w (w.alloc (.cells #[.slice ad m cap] 33)) := balloc _ _
  have hgrow := hid (grow_ok n (max n 1) 23 (.slice ad m cap) l #[.pointer (some ⟨w.heap.size, 0, none⟩)] (cfR l) (Lw (eW l)) _ (hv.below hb1) hn hl hok hw (by omega) (enters_of Try.func23 (by kernel_rfl) rfl) (cmps_rising w.heap.size _ l _ (box_new w _ _) (hv.below hb1)) (Lw.lin _ _) (fun a b _ _ => cfR_lt l a b))
  replace hb1 := hid hb1
  clear hv he hn hl hok hw
  go_enter Try.func7, Try.ntmps7
  go_wp2_with fail
  refine (rising_ok _ _ _ _).mono ?_
  rintro e w1 ⟨rfl, rfl⟩
  go_wp2_with fail
  refine hgrow.out.mono ?_
  rintro e w2 ⟨mv, so, rfl, h2⟩
  replace h2 := hid h2
  clear hgrow
  go_wp2_with fail
  go_ret3
  exact Tr.low ⟨mv, so, rfl, h2.out⟩ hb1.out

set_option maxRecDepth 100000 in
set_option maxHeartbeats 1000000 in
theorem tree_arg (n : Int) (v : Value) (l : List Ed) (w : World) (hv : EV w v l) (h : n < 0 ∨ 1048576 < n) :
    Calls Try.prog 7 #[.int .i64 n, v] w fun e w' => e = .returned (.tuple #[.slice none 0 0, .int .i64 0, .iface 58 (.int .i64 1)]) ∧ Below w.heap.size w w' := by
  obtain ⟨ad, m, cap, rfl, he⟩ := hv
  have hb1 : Hid (Below w.heap.size w (w.alloc (.cells #[.slice ad m cap] 33))) := balloc _ _
  have hgrow := hid (fun f y => grow_arg n (.slice ad m cap) f y h)
  clear he h
  go_enter Try.func7, Try.ntmps7
  go_wp2_with fail
  refine (rising_ok _ _ _ _).mono ?_
  rintro e w1 ⟨rfl, rfl⟩
  go_wp2_with fail
  refine (hgrow.out _ _).mono ?_
  rintro e w2 ⟨rfl, h2⟩
  have h3 : Hid (Below w.heap.size w w2) := hb1.out.trans (h2.mono hb1.out.size)
  clear hgrow h2
  go_wp2_with fail
  go_ret3
  exact ⟨rfl, h3.out⟩

set_option maxRecDepth 100000 in
set_option maxHeartbeats 1000000 in
theorem tree_range (n : Int) (v : Value) (l : List Ed) (w : World) (hv : EV w v l) (h1 : 0 ≤ n) (h2 : n ≤ 1048576) (hl : l.length ≤ 1048576) (hok : ¬ Okr n l) :
    Calls Try.prog 7 #[.int .i64 n, v] w fun e w' => e = .returned (.tuple #[.slice none 0 0, .int .i64 0, .iface 58 (.int .i64 12)]) ∧ Below w.heap.size w w' := by
  obtain ⟨ad, m, cap, rfl, he⟩ := hv
  have hv : EV w (.slice ad m cap) l := ⟨ad, m, cap, rfl, he⟩
  have hb1 : Hid (Below w.heap.size w (w.alloc (.cells #[.slice ad m cap] 33))) := balloc _ _
  have hgrow := hid (fun f y (hy : Below w.heap.size w y) => grow_range n (.slice ad m cap) f l y (hv.below hy) h1 h2 hl hok)
  clear hv he h1 h2 hl hok
  go_enter Try.func7, Try.ntmps7
  go_wp2_with fail
  refine (rising_ok _ _ _ _).mono ?_
  rintro e w1 ⟨rfl, rfl⟩
  go_wp2_with fail
  refine (hgrow.out _ _ hb1.out).mono ?_
  rintro e w2 ⟨rfl, h2⟩
  have h3 : Hid (Below w.heap.size w w2) := hb1.out.trans (h2.mono hb1.out.size)
  clear hgrow h2
  go_wp2_with fail
  go_ret3
  exact ⟨rfl, h3.out⟩

theorem two_boxes (w : World) (u v : Value) (t t' : TypeId) : ((w.alloc (.cells #[u] t)).alloc (.cells #[v] t')).cell? ⟨w.heap.size + 1, 0, none⟩ = some v ∧ ((w.alloc (.cells #[u] t)).alloc (.cells #[v] t')).cell? ⟨w.heap.size, 0, none⟩ = some u := by
  have h1 := box_new (w.alloc (.cells #[u] t)) v t'
  have h2 := box_new w u t
  simp only [World.size_alloc] at h1
  exact ⟨h1, ((balloc _ _).cell (World.block_lt_of_cell? _ _ h2)).trans h2⟩

set_option maxRecDepth 100000 in
set_option maxHeartbeats 1000000 in
theorem most_ok (n : Nat) (v : Value) (l : List Ed) (w : World) (hv : EV w v l) (hn : n ≤ 1048576) (hl : l.length ≤ 1048576) (hok : Okr (n : Int) l) (hw : Wr l) :
    Calls Try.prog 14 #[.int .i64 (n : Int), v] w fun e w' => Tr (Gt (eW l)) l w e w' := by
  obtain ⟨ad, m, cap, rfl, he⟩ := hv
  have hv : EV w (.slice ad m cap) l := ⟨ad, m, cap, rfl, he⟩
  have hb1 : Below w.heap.size w ((w.alloc (.cells #[.slice ad m cap] 33)).alloc (.cells #[.func (.func 23) #[] #[.pointer (some ⟨w.heap.size, 0, none⟩)]] 47)) := (balloc _ _).trans ((balloc _ _).mono (by simp))
  obtain ⟨c1, c2⟩ := two_boxes w (.slice ad m cap) (.func (.func 23) #[] #[.pointer (some ⟨w.heap.size, 0, none⟩)]) 33 47
  have hgrow := hid (grow_ok n (max n 1) 18 (.slice ad m cap) l #[.pointer (some ⟨w.heap.size + 1, 0, none⟩)] (fun a b => cfR l b a) (Gt (eW l)) _ (hv.below hb1) hn hl hok hw (by omega) (enters_of Try.func18 (by kernel_rfl) rfl) (cmps_most (w.heap.size + 1) w.heap.size _ l _ c1 c2 (hv.below hb1)) (Gt.lin _ _) (fun a b _ _ => cfR_lt l b a))
  replace hb1 := hid hb1
  clear hv he hn hl hok hw c1 c2
  go_enter Try.func14, Try.ntmps14
  go_wp2_with fail
  refine (rising_ok _ _ _ _).mono ?_
  rintro e w1 ⟨rfl, rfl⟩
  go_wp2_with fail
  refine hgrow.out.mono ?_
  rintro e w2 ⟨mv, so, rfl, h2⟩
  replace h2 := hid h2
  clear hgrow
  go_wp2_with fail
  go_ret3
  exact Tr.low ⟨mv, so, rfl, h2.out⟩ hb1.out

set_option maxRecDepth 100000 in
set_option maxHeartbeats 1000000 in
theorem most_arg (n : Int) (v : Value) (l : List Ed) (w : World) (hv : EV w v l) (h : n < 0 ∨ 1048576 < n) :
    Calls Try.prog 14 #[.int .i64 n, v] w fun e w' => e = .returned (.tuple #[.slice none 0 0, .int .i64 0, .iface 58 (.int .i64 1)]) ∧ Below w.heap.size w w' := by
  obtain ⟨ad, m, cap, rfl, he⟩ := hv
  have hb1 : Hid (Below w.heap.size w ((w.alloc (.cells #[.slice ad m cap] 33)).alloc (.cells #[.func (.func 23) #[] #[.pointer (some ⟨w.heap.size, 0, none⟩)]] 47))) := (balloc _ _).trans ((balloc _ _).mono (by simp))
  have hgrow := hid (fun f y => grow_arg n (.slice ad m cap) f y h)
  clear he h
  go_enter Try.func14, Try.ntmps14
  go_wp2_with fail
  refine (rising_ok _ _ _ _).mono ?_
  rintro e w1 ⟨rfl, rfl⟩
  go_wp2_with fail
  refine (hgrow.out _ _).mono ?_
  rintro e w2 ⟨rfl, h2⟩
  have h3 : Hid (Below w.heap.size w w2) := hb1.out.trans (h2.mono hb1.out.size)
  clear hgrow h2
  go_wp2_with fail
  go_ret3
  exact ⟨rfl, h3.out⟩

set_option maxRecDepth 100000 in
set_option maxHeartbeats 1000000 in
theorem most_range (n : Int) (v : Value) (l : List Ed) (w : World) (hv : EV w v l) (h1 : 0 ≤ n) (h2 : n ≤ 1048576) (hl : l.length ≤ 1048576) (hok : ¬ Okr n l) :
    Calls Try.prog 14 #[.int .i64 n, v] w fun e w' => e = .returned (.tuple #[.slice none 0 0, .int .i64 0, .iface 58 (.int .i64 12)]) ∧ Below w.heap.size w w' := by
  obtain ⟨ad, m, cap, rfl, he⟩ := hv
  have hv : EV w (.slice ad m cap) l := ⟨ad, m, cap, rfl, he⟩
  have hb1 : Hid (Below w.heap.size w ((w.alloc (.cells #[.slice ad m cap] 33)).alloc (.cells #[.func (.func 23) #[] #[.pointer (some ⟨w.heap.size, 0, none⟩)]] 47))) := (balloc _ _).trans ((balloc _ _).mono (by simp))
  have hgrow := hid (fun f y (hy : Below w.heap.size w y) => grow_range n (.slice ad m cap) f l y (hv.below hy) h1 h2 hl hok)
  clear hv he h1 h2 hl hok
  go_enter Try.func14, Try.ntmps14
  go_wp2_with fail
  refine (rising_ok _ _ _ _).mono ?_
  rintro e w1 ⟨rfl, rfl⟩
  go_wp2_with fail
  refine (hgrow.out _ _ hb1.out).mono ?_
  rintro e w2 ⟨rfl, h2⟩
  have h3 : Hid (Below w.heap.size w w2) := hb1.out.trans (h2.mono hb1.out.size)
  clear hgrow h2
  go_wp2_with fail
  go_ret3
  exact ⟨rfl, h3.out⟩

end Go.Proofs.Ytnlbpjppkfenkaa
