/- The document's Lay and Lift where they refuse; its New. -/
import Derived.Test.YtghpjljnbdjmaaaGreatDoorLaid10
namespace Go.Proofs.YtghpjljnbdjmaaaGreatDoor
open Go.RowKit
set_option linter.unusedVariables false

set_option maxRecDepth 100000 in
set_option maxHeartbeats 2000000 in
theorem rlay_range (tv : Value) (E V : Nat) (e a0 a1 b0 b1 : Int) (R : Nat → List Nat) (w : World) (hv : RT w tv E V R) (he : e < 0 ∨ (E : Int) ≤ e) :
    Calls Tryz.prog 66 #[tv, .int .i64 e, .agg #[.int .i64 a0, .int .i64 a1], .agg #[.int .i64 b0, .int .i64 b1]] w fun x w' => x = .returned (.tuple #[tv, .int .i64 12]) ∧ Below w.heap.size w w' := by
  obtain ⟨lv, rfl, hr⟩ := hv
  have hr1 := hr
  obtain ⟨ad, cap, rfl, _⟩ := hr1
  have hk := hid (Fk.new w E (.slice ad V cap) a0 a1 b0 b1)
  obtain ⟨w1, hw1⟩ : ∃ w1, ((((w.alloc (.cells #[.int .i64 (E : Int), .slice ad V cap] 27)).alloc (.cells #[.int .i64 a0, .int .i64 a1] 23)).alloc (.cells #[.int .i64 b0, .int .i64 b1] 23)).alloc (.cells #[.int .i64 0, .slice none 0 0] 27)) = w1 := ⟨_, rfl⟩
  have hb1 : Hid (Below w.heap.size w w1) := by
    rw [← hw1]
    exact hid (((((Below.refl w.heap.size w).alloc (Nat.le_refl _) _).alloc (by simp) _).alloc (by simp; omega) _).alloc (by simp; omega) _)
  rw [hw1] at hk
  obtain ⟨c1, c2, _, _⟩ := blk2 hk.out.1
  obtain ⟨y1, y2, y3, y4⟩ := blk2 hk.out.2.2.2
  replace hw1 := hid hw1
  clear hr
  by_cases h0 : e < 0
  · have d1 : decide (e < 0) = true := decide_eq_true h0
    clear he h0
    go_enter Tryz.func66, Tryz.ntmps66
    go_upto_region 1 with fail
    rw [hw1.out]
    have hfin2 := hid (set2_block hk.out.2.2.2 (.int .i64 (E : Int)) (.slice ad V cap))
    have hbl := hid (below2 hb1.out (show w.heap.size ≤ w.heap.size + 3 by omega) (.int .i64 (E : Int)) (.slice ad V cap))
    go_wp2_with fail
    refine bodyPost_ret (results_cell2 rfl _ _ (w.heap.size + 3) 27 _ (0, 0) _ rfl hfin2.out Tryz.underlying27 rfl (by kernel_rfl)) rfl ?_
    exact ⟨rfl, hbl.out⟩
  · have d1 : decide (e < 0) = false := decide_eq_false h0
    have d2 : decide ((E : Int) ≤ e) = true := decide_eq_true (by omega)
    clear he h0
    go_enter Tryz.func66, Tryz.ntmps66
    go_upto_region 1 with fail
    rw [hw1.out]
    have hfin2 := hid (set2_block hk.out.2.2.2 (.int .i64 (E : Int)) (.slice ad V cap))
    have hbl := hid (below2 hb1.out (show w.heap.size ≤ w.heap.size + 3 by omega) (.int .i64 (E : Int)) (.slice ad V cap))
    go_wp2_with fail
    refine bodyPost_ret (results_cell2 rfl _ _ (w.heap.size + 3) 27 _ (0, 0) _ rfl hfin2.out Tryz.underlying27 rfl (by kernel_rfl)) rfl ?_
    exact ⟨rfl, hbl.out⟩

set_option maxRecDepth 100000 in
set_option maxHeartbeats 2000000 in
theorem rlay_same (tv : Value) (E V e : Nat) (a0 a1 b0 b1 : Int) (R : Nat → List Nat) (w : World) (hv : RT w tv E V R) (he : e < E) (hE : E ≤ 100) (hV : V ≤ 1000) (ht : Tn V E R) (hin : In V R (2 * e)) :
    Calls Tryz.prog 66 #[tv, .int .i64 (e : Int), .agg #[.int .i64 a0, .int .i64 a1], .agg #[.int .i64 b0, .int .i64 b1]] w fun x w' => x = .returned (.tuple #[tv, .int .i64 20]) ∧ Below w.heap.size w w' := by
  have hl' : ∀ u, u < V → (R u).length ≤ 1000 := fun u hu => by have := ht.len hu; omega
  have hf := hid (fun y (hy : Below w.heap.size w y) => rfind_ok tv E V R (2 * (e : Int)) y (hv.below hy) hV hl')
  obtain ⟨lv, rfl, hr⟩ := hv
  have hr1 := hr
  obtain ⟨ad, cap, rfl, _⟩ := hr1
  have hk := hid (Fk.new w E (.slice ad V cap) a0 a1 b0 b1)
  obtain ⟨w1, hw1⟩ : ∃ w1, ((((w.alloc (.cells #[.int .i64 (E : Int), .slice ad V cap] 27)).alloc (.cells #[.int .i64 a0, .int .i64 a1] 23)).alloc (.cells #[.int .i64 b0, .int .i64 b1] 23)).alloc (.cells #[.int .i64 0, .slice none 0 0] 27)) = w1 := ⟨_, rfl⟩
  have hb1 : Hid (Below w.heap.size w w1) := by
    rw [← hw1]
    exact hid (((((Below.refl w.heap.size w).alloc (Nat.le_refl _) _).alloc (by simp) _).alloc (by simp; omega) _).alloc (by simp; omega) _)
  rw [hw1] at hk
  obtain ⟨c1, c2, _, _⟩ := blk2 hk.out.1
  obtain ⟨y1, y2, y3, y4⟩ := blk2 hk.out.2.2.2
  replace hw1 := hid hw1
  clear hr
  have d1 : decide ((e : Int) < 0) = false := decide_eq_false (by omega)
  have d2 : decide ((E : Int) ≤ (e : Int)) = false := decide_eq_false (by omega)
  have d2' : decide (E ≤ e) = false := decide_eq_false (by omega)
  go_enter Tryz.func66, Tryz.ntmps66
  go_upto_region 1 with fail
  rw [hw1.out]
  go_wp2_with fail
  refine (hf.out w1 hb1.out).mono ?_
  rintro x2 w2 ⟨r, s, rfl, hat, b2⟩
  have hr0 : 0 ≤ r := by
    rw [show 2 * (e : Int) = ((2 * e : Nat) : Int) from by omega] at hat
    rcases hat.in with ⟨h, _⟩ | ⟨_, h⟩
    · exact h
    · exact absurd hin h
  have k2 := hid (hk.out.below b2)
  have hb2 : Hid (Below w.heap.size w w2) := hb1.out.trans (b2.mono hb1.out.size)
  clear c1 c2 y1 y2 y3 y4 b2 hat hf hw1
  obtain ⟨c1, c2, _, _⟩ := blk2 k2.out.1
  obtain ⟨y1, y2, y3, y4⟩ := blk2 k2.out.2.2.2
  have d3 : decide (r ≥ 0) = true := decide_eq_true hr0
  have hfin2 := hid (set2_block k2.out.2.2.2 (.int .i64 (E : Int)) (.slice ad V cap))
  have hbl := hid (below2 hb2.out (show w.heap.size ≤ w.heap.size + 3 by omega) (.int .i64 (E : Int)) (.slice ad V cap))
  go_wp2_with fail
  refine bodyPost_ret (results_cell2 rfl _ _ (w.heap.size + 3) 27 _ (0, 0) _ rfl hfin2.out Tryz.underlying27 rfl (by kernel_rfl)) rfl ?_
  exact ⟨rfl, hbl.out⟩

set_option maxRecDepth 100000 in
set_option maxHeartbeats 2000000 in
theorem rlay_bad (tv : Value) (E V e : Nat) (a0 a1 b0 b1 c ca cb : Int) (R : Nat → List Nat) (w : World) (hv : RT w tv E V R) (he : e < E) (hE : E ≤ 100) (hV : V ≤ 1000) (ht : Tn V E R) (hin : ¬ In V R (2 * e))
    (hca : ∀ y, Below w.heap.size w y → Calls Tryz.prog 98 #[tv, .int .i64 a0, .int .i64 a1] y fun x w' => x = .returned (.int .i64 ca) ∧ Below y.heap.size y w')
    (hcb : ∀ y, Below w.heap.size w y → Calls Tryz.prog 98 #[tv, .int .i64 b0, .int .i64 b1] y fun x w' => x = .returned (.int .i64 cb) ∧ Below y.heap.size y w')
    (hr : (ca ≠ 0 ∧ c = ca) ∨ (ca = 0 ∧ cb ≠ 0 ∧ c = cb)) :
    Calls Tryz.prog 66 #[tv, .int .i64 (e : Int), .agg #[.int .i64 a0, .int .i64 a1], .agg #[.int .i64 b0, .int .i64 b1]] w fun x w' => x = .returned (.tuple #[tv, .int .i64 c]) ∧ Below w.heap.size w w' := by
  have hl' : ∀ u, u < V → (R u).length ≤ 1000 := fun u hu => by have := ht.len hu; omega
  have hf := hid (fun y (hy : Below w.heap.size w y) => rfind_ok tv E V R (2 * (e : Int)) y (hv.below hy) hV hl')
  replace hca := hid hca
  replace hcb := hid hcb
  have hrr := hid hr
  clear hr
  obtain ⟨lv, rfl, hr⟩ := hv
  have hr1 := hr
  obtain ⟨ad, cap, rfl, _⟩ := hr1
  have hk := hid (Fk.new w E (.slice ad V cap) a0 a1 b0 b1)
  obtain ⟨w1, hw1⟩ : ∃ w1, ((((w.alloc (.cells #[.int .i64 (E : Int), .slice ad V cap] 27)).alloc (.cells #[.int .i64 a0, .int .i64 a1] 23)).alloc (.cells #[.int .i64 b0, .int .i64 b1] 23)).alloc (.cells #[.int .i64 0, .slice none 0 0] 27)) = w1 := ⟨_, rfl⟩
  have hb1 : Hid (Below w.heap.size w w1) := by
    rw [← hw1]
    exact hid (((((Below.refl w.heap.size w).alloc (Nat.le_refl _) _).alloc (by simp) _).alloc (by simp; omega) _).alloc (by simp; omega) _)
  rw [hw1] at hk
  obtain ⟨c1, c2, _, _⟩ := blk2 hk.out.1
  obtain ⟨y1, y2, y3, y4⟩ := blk2 hk.out.2.2.2
  replace hw1 := hid hw1
  clear hr
  have d1 : decide ((e : Int) < 0) = false := decide_eq_false (by omega)
  have d2 : decide ((E : Int) ≤ (e : Int)) = false := decide_eq_false (by omega)
  have d2' : decide (E ≤ e) = false := decide_eq_false (by omega)
  clear y1 y2 y3 y4
  go_enter Tryz.func66, Tryz.ntmps66
  go_upto_region 1 with fail
  rw [hw1.out]
  go_wp2_with fail
  refine (hf.out w1 hb1.out).mono ?_
  rintro x2 w2 ⟨r, s, rfl, hat, b2⟩
  obtain ⟨rfl, rfl⟩ := At.none (fun k hk x hx hxe => hin ⟨k, hk, by obtain rfl : x = 2 * e := by omega
                                                                    exact hx⟩) hat
  have k2 := hid (hk.out.below b2)
  have hb2 : Hid (Below w.heap.size w w2) := hb1.out.trans (b2.mono hb1.out.size)
  obtain ⟨c3, c4, _, _⟩ := blk2 k2.out.1
  obtain ⟨c5, c6, _, _⟩ := blk2 k2.out.2.1
  clear c1 c2 b2 hat hf hw1
  go_wp2_with fail
  refine (hca.out w2 hb2.out).mono ?_
  rintro x3 w3 ⟨rfl, b3⟩
  have k3 := hid (k2.out.below b3)
  have hb3 : Hid (Below w.heap.size w w3) := hb2.out.trans (b3.mono hb2.out.size)
  obtain ⟨c1, c2, _, _⟩ := blk2 k3.out.1
  obtain ⟨c7, c8, _, _⟩ := blk2 k3.out.2.2.1
  obtain ⟨y1, y2, y3, y4⟩ := blk2 k3.out.2.2.2
  clear c3 c4 c5 c6 b3 k2
  rcases hrr.out with ⟨h1, rfl⟩ | ⟨rfl, h1, rfl⟩
  · have t1 : (c != 0) = true := by simpa using h1
    have t1' : (c == 0) = false := by simpa using h1
    clear hrr h1
    have hfin2 := hid (set2_block k3.out.2.2.2 (.int .i64 (E : Int)) (.slice ad V cap))
    have hbl := hid (below2 hb3.out (show w.heap.size ≤ w.heap.size + 3 by omega) (.int .i64 (E : Int)) (.slice ad V cap))
    go_wp2_with fail
    refine bodyPost_ret (results_cell2 rfl _ _ (w.heap.size + 3) 27 _ (0, 0) _ rfl hfin2.out Tryz.underlying27 rfl (by kernel_rfl)) rfl ?_
    exact ⟨rfl, hbl.out⟩
  · have t1 : (c != 0) = true := by simpa using h1
    have t1' : (c == 0) = false := by simpa using h1
    clear hrr h1 y1 y2 y3 y4
    go_wp2_with fail
    refine (hcb.out w3 hb3.out).mono ?_
    rintro x4 w4 ⟨rfl, b4⟩
    have k4 := hid (k3.out.below b4)
    have hb4 : Hid (Below w.heap.size w w4) := hb3.out.trans (b4.mono hb3.out.size)
    clear c1 c2 c7 c8 b4 k3 hb3
    obtain ⟨c1, c2, _, _⟩ := blk2 k4.out.1
    obtain ⟨y1, y2, y3, y4⟩ := blk2 k4.out.2.2.2
    have hfin2 := hid (set2_block k4.out.2.2.2 (.int .i64 (E : Int)) (.slice ad V cap))
    have hbl := hid (below2 hb4.out (show w.heap.size ≤ w.heap.size + 3 by omega) (.int .i64 (E : Int)) (.slice ad V cap))
    go_wp2_with fail
    refine bodyPost_ret (results_cell2 rfl _ _ (w.heap.size + 3) 27 _ (0, 0) _ rfl hfin2.out Tryz.underlying27 rfl (by kernel_rfl)) rfl ?_
    exact ⟨rfl, hbl.out⟩

set_option maxRecDepth 100000 in
set_option maxHeartbeats 2000000 in
theorem rlift_range (tv : Value) (E V : Nat) (e : Int) (R : Nat → List Nat) (w : World) (hv : RT w tv E V R) (he : e < 0 ∨ (E : Int) ≤ e) :
    Calls Tryz.prog 52 #[tv, .int .i64 e] w fun x w' => x = .returned (.tuple #[tv, .int .i64 12]) ∧ Below w.heap.size w w' := by
  obtain ⟨lv, rfl, hr⟩ := hv
  have hr1 := hr
  obtain ⟨ad, cap, rfl, _⟩ := hr1
  obtain ⟨w1, hw1⟩ : ∃ w1, (w.alloc (.cells #[.int .i64 (E : Int), .slice ad V cap] 27)).alloc (.cells #[.int .i64 0, .slice none 0 0] 27) = w1 := ⟨_, rfl⟩
  have hk : Hid (w1.heap[w.heap.size]? = some (.cells #[.int .i64 (E : Int), .slice ad V cap] 27 (0, 0)) ∧ w1.heap[w.heap.size + 1]? = some (.cells #[.int .i64 0, .slice none 0 0] 27 (0, 0)) ∧ Below w.heap.size w w1) := by
    rw [← hw1]
    refine hid ⟨?_, ?_, (balloc _ _).alloc (by simp) _⟩
    · exact ((balloc (w.alloc (.cells #[.int .i64 (E : Int), .slice ad V cap] 27)) (.cells #[.int .i64 0, .slice none 0 0] 27)).block _ (by simp)).trans (heap_alloc_new _ _)
    · have h1 := heap_alloc_new (w.alloc (.cells #[.int .i64 (E : Int), .slice ad V cap] 27)) (.cells #[.int .i64 0, .slice none 0 0] 27)
      simpa only [World.size_alloc] using h1
  obtain ⟨c1, c2, _, _⟩ := blk2 hk.out.1
  obtain ⟨y1, y2, y3, y4⟩ := blk2 hk.out.2.1
  replace hw1 := hid hw1
  clear hr
  by_cases h0 : e < 0
  · have d1 : decide (e < 0) = true := decide_eq_true h0
    clear he h0
    go_enter Tryz.func52, Tryz.ntmps52
    go_upto_region 1 with fail
    rw [hw1.out]
    have hfin2 := hid (set2_block hk.out.2.1 (.int .i64 (E : Int)) (.slice ad V cap))
    have hbl := hid (below2 hk.out.2.2 (Nat.le_succ _) (.int .i64 (E : Int)) (.slice ad V cap))
    go_wp2_with fail
    refine bodyPost_ret (results_cell2 rfl _ _ (w.heap.size + 1) 27 _ (0, 0) _ rfl hfin2.out Tryz.underlying27 rfl (by kernel_rfl)) rfl ?_
    exact ⟨rfl, hbl.out⟩
  · have d1 : decide (e < 0) = false := decide_eq_false h0
    have d2 : decide ((E : Int) ≤ e) = true := decide_eq_true (by omega)
    clear he h0
    go_enter Tryz.func52, Tryz.ntmps52
    go_upto_region 1 with fail
    rw [hw1.out]
    have hfin2 := hid (set2_block hk.out.2.1 (.int .i64 (E : Int)) (.slice ad V cap))
    have hbl := hid (below2 hk.out.2.2 (Nat.le_succ _) (.int .i64 (E : Int)) (.slice ad V cap))
    go_wp2_with fail
    refine bodyPost_ret (results_cell2 rfl _ _ (w.heap.size + 1) 27 _ (0, 0) _ rfl hfin2.out Tryz.underlying27 rfl (by kernel_rfl)) rfl ?_
    exact ⟨rfl, hbl.out⟩

set_option maxRecDepth 100000 in
set_option maxHeartbeats 2000000 in
theorem rlift_stale (tv : Value) (E V e : Nat) (R : Nat → List Nat) (w : World) (hv : RT w tv E V R) (he : e < E) (hE : E ≤ 100) (hV : V ≤ 1000) (ht : Tn V E R) (hin : ¬ In V R (2 * e)) :
    Calls Tryz.prog 52 #[tv, .int .i64 (e : Int)] w fun x w' => x = .returned (.tuple #[tv, .int .i64 13]) ∧ Below w.heap.size w w' := by
  have hl' : ∀ u, u < V → (R u).length ≤ 1000 := fun u hu => by have := ht.len hu; omega
  have hf := hid (fun y (hy : Below w.heap.size w y) => rfind_ok tv E V R (2 * (e : Int)) y (hv.below hy) hV hl')
  obtain ⟨lv, rfl, hr⟩ := hv
  have hr1 := hr
  obtain ⟨ad, cap, rfl, _⟩ := hr1
  obtain ⟨w1, hw1⟩ : ∃ w1, (w.alloc (.cells #[.int .i64 (E : Int), .slice ad V cap] 27)).alloc (.cells #[.int .i64 0, .slice none 0 0] 27) = w1 := ⟨_, rfl⟩
  have hk : Hid (w1.heap[w.heap.size]? = some (.cells #[.int .i64 (E : Int), .slice ad V cap] 27 (0, 0)) ∧ w1.heap[w.heap.size + 1]? = some (.cells #[.int .i64 0, .slice none 0 0] 27 (0, 0)) ∧ Below w.heap.size w w1) := by
    rw [← hw1]
    refine hid ⟨?_, ?_, (balloc _ _).alloc (by simp) _⟩
    · exact ((balloc (w.alloc (.cells #[.int .i64 (E : Int), .slice ad V cap] 27)) (.cells #[.int .i64 0, .slice none 0 0] 27)).block _ (by simp)).trans (heap_alloc_new _ _)
    · have h1 := heap_alloc_new (w.alloc (.cells #[.int .i64 (E : Int), .slice ad V cap] 27)) (.cells #[.int .i64 0, .slice none 0 0] 27)
      simpa only [World.size_alloc] using h1
  obtain ⟨c1, c2, _, _⟩ := blk2 hk.out.1
  obtain ⟨y1, y2, y3, y4⟩ := blk2 hk.out.2.1
  replace hw1 := hid hw1
  clear hr
  have d1 : decide ((e : Int) < 0) = false := decide_eq_false (by omega)
  have d2 : decide ((E : Int) ≤ (e : Int)) = false := decide_eq_false (by omega)
  have d2' : decide (E ≤ e) = false := decide_eq_false (by omega)
  go_enter Tryz.func52, Tryz.ntmps52
  go_upto_region 1 with fail
  rw [hw1.out]
  go_wp2_with fail
  go_loopw [6, 7, 8, 9] (fun s6 _ _ _ wr => s6 = .int .i64 0 ∧ wr = w1) (fun _ _ _ _ _ => 0)
  case atStart => exact ⟨by go_num, rfl⟩
  case round =>
    obtain ⟨rfl, rfl⟩ := hrel
    go_wp2_with fail
    refine (hf.out wr hk.out.2.2).mono ?_
    rintro x2 w2 ⟨r, s, rfl, hat, b2⟩
    obtain ⟨rfl, rfl⟩ := At.none (fun k hk x hx hxe => hin ⟨k, hk, by obtain rfl : x = 2 * e := by omega
                                                                      exact hx⟩) hat
    have k2 : Hid (w2.heap[w.heap.size]? = some (.cells #[.int .i64 (E : Int), .slice ad V cap] 27 (0, 0)) ∧ w2.heap[w.heap.size + 1]? = some (.cells #[.int .i64 0, .slice none 0 0] 27 (0, 0)) ∧ Below w.heap.size w w2) := ⟨(b2.block _ (Array.getElem?_eq_some_iff.1 hk.out.1).1).trans hk.out.1, (b2.block _ (Array.getElem?_eq_some_iff.1 hk.out.2.1).1).trans hk.out.2.1, hk.out.2.2.trans (b2.mono hk.out.2.2.size)⟩
    clear c1 c2 y1 y2 y3 y4 b2 hat hf hw1
    obtain ⟨c1, c2, _, _⟩ := blk2 k2.out.1
    obtain ⟨y1, y2, y3, y4⟩ := blk2 k2.out.2.1
    have hfin2 := hid (set2_block k2.out.2.1 (.int .i64 (E : Int)) (.slice ad V cap))
    have hbl := hid (below2 k2.out.2.2 (Nat.le_succ _) (.int .i64 (E : Int)) (.slice ad V cap))
    go_wp2_with fail
    refine bodyPost_ret (results_cell2 rfl _ _ (w.heap.size + 1) 27 _ (0, 0) _ rfl hfin2.out Tryz.underlying27 rfl (by kernel_rfl)) rfl ?_
    exact ⟨rfl, hbl.out⟩

set_option maxRecDepth 100000 in
set_option maxHeartbeats 1000000 in
theorem rnew_ok (E V : Nat) (w : World) (hE : E ≤ 100) (hV : V ≤ 1000) : Calls Tryz.prog 31 #[.int .i64 (V : Int), .int .i64 (E : Int)] w fun x w' => ∃ tv, x = .returned tv ∧ RT w' tv E V (fun _ => []) ∧ Below w.heap.size w w' := by
  obtain ⟨i0, hif, hz0, hz1, hz2⟩ := info_parts infoInts
  have hsz : w.heap.size ≤ (w.alloc (.cells #[.int .i64 0, .slice none 0 0] 27)).heap.size := by simp
  have hq := hid (heap_alloc_new w (.cells #[.int .i64 0, .slice none 0 0] 27))
  have hb := hid (balloc w (.cells #[.int .i64 0, .slice none 0 0] 27))
  obtain ⟨w1, hw1⟩ : ∃ w1, w.alloc (.cells #[.int .i64 0, .slice none 0 0] 27) = w1 := ⟨_, rfl⟩
  rw [hw1] at hq hb hsz
  replace hw1 := hid hw1
  go_enter Tryz.func31, Tryz.ntmps31
  go_upto_region 1 with fail
  rw [hw1.out]
  go_wp2_with (at_make; refine wpList_make_full _ rfl (.tmp 6) (.tmp 6) 25 rfl w.heap.size 30 i0 (.slice none 0 0) 1 Tryz.underlying25 hif hz0 hz1 .i64 .i64 _ _ V rfl rfl rfl rfl (by rw [hz2]; omega) (by unfold maxLen; omega) hsz ?_; intro w3 hown hgrow; refine Hid.out ?_)
  have hq3 := (hgrow.block w.heap.size (Array.getElem?_eq_some_iff.1 hq.out).1 (by simp)).trans hq.out
  have hb3 := hb.out.grown hgrow hsz (fun k hk => by cases hk)
  have e1 : (madeCells (Value.slice none 0 0).cells (V * 1)).toList = List.replicate V (.slice none 0 0) := by
    rw [Nat.mul_one]
    show (madeCells #[Value.slice none 0 0] V).toList = _
    rw [toList_madeCells_one]
  rw [e1] at hown
  have hrow : NR w3 (.slice (some ⟨w1.heap.size, 0, none⟩) V V) V (fun _ => []) := by
    refine ⟨_, V, rfl, Nat.le_refl _, ⟨by unfold maxLen; omega, fun a e => ⟨w1.heap.size, 0, (Option.some.inj e).symm, row_ty hown rfl⟩⟩, fun u hu => ⟨w1.heap.size, 0, .slice none 0 0, rfl, ?_, ⟨none, 0, 0, rfl, rfl, ⟨Nat.le_refl _, fun _ => rfl, fun a e => by cases e⟩, Nat.zero_le _, fun j x hx => by simp at hx⟩⟩⟩
    rw [Nat.zero_add, hown.cellAt u (by omega)]
    simp [hu]
  obtain ⟨f1, f2, f3, f4⟩ := blk2 hq3
  have hfin2 := hid (set2_block hq3 (.int .i64 (E : Int)) (.slice (some ⟨w1.heap.size, 0, none⟩) V V))
  have hnr := hid (hrow.al (set2_al hq3 (.int .i64 (E : Int)) (.slice (some ⟨w1.heap.size, 0, none⟩) V V)))
  have hbl := hid (below2 hb3 (Nat.le_refl _) (.int .i64 (E : Int)) (.slice (some ⟨w1.heap.size, 0, none⟩) V V))
  clear hown hgrow hq3 hb3 hrow e1
  refine hid ?_
  go_wp2_with fail
  refine bodyPost_ret (results_cell_row rfl _ _ w.heap.size 27 _ (0, 0) _ rfl hfin2.out Tryz.underlying27 rfl (by kernel_rfl)) rfl ?_
  exact ⟨_, rfl, ⟨_, rfl, hnr.out⟩, hbl.out⟩

end Go.Proofs.YtghpjljnbdjmaaaGreatDoor
