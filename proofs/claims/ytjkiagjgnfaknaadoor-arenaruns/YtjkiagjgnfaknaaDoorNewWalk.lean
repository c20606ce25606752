/- 'newMarks', walked. -/
import Derived.Test.YtjkiagjgnfaknaaDoorNewMarks
namespace Go.Proofs.YtjkiagjgnfaknaaDoor
open Go.RowKit

set_option maxRecDepth 100000 in
set_option maxHeartbeats 4000000 in
theorem newMarks (n : Nat) (w : World) (h1 : 1 ≤ n) (hn : n ≤ 1048576) :
    Calls Tryd.prog 34 #[.int .i64 (n : Int)] w fun e w' => ∃ lb cap lv, e = .returned (.agg #[.int .i64 (n : Int), .slice (some ⟨lb, 0, none⟩) lv.length cap]) ∧ Rep w' w.heap.size w'.heap.size lb lv ∧
      Good (lv.map (·.2)) n (fun _ => False) ∧ Below w.heap.size w w' := by
  obtain ⟨i0, hi, hz0, hz1, hz2⟩ := info_parts infoWords
  have hst := hid (Making.start w n)
  go_enter Tryd.func34, Tryd.ntmps34
  go_wp2_with fail
  go_loopw [4] (fun u wr => ∃ k c : Nat, ∃ v lv, k + c ≤ n ∧ 1 ≤ c ∧ Hid (c = cd n k) ∧ u = .int .i64 (c : Int) ∧ Making w w.heap.size n k v lv wr)
    (fun u _ => (intOf u).toNat)
  case atStart => exact ⟨0, n, .slice none 0 0, [], by omega, h1, hid rfl, by go_num, hst.out⟩
  case round =>
    obtain ⟨k, c, v, lv, hkc, hc1, hc, rfl, hmk⟩ := hrel
    have c0 := hmk.cell0
    have c1 := hmk.cell1
    have hsz := hmk.size
    obtain ⟨N, hN⟩ : ∃ N, (c + 63) / 64 = N := ⟨_, rfl⟩
    have hNi : ((c : Int) + 63) / 64 = (N : Int) := by omega
    have hN1 : N ≤ 1048576 := by omega
    have hmake := make_words N hN1
    have hNc : Hid (N = cd n (k + 1)) := by rw [Hid, ← hN, hc.out]; rfl
    have c1b : (wr.alloc (.cells (Array.replicate N (.int .u64 0)) 77)).cell? ⟨w.heap.size + 1, 1, none⟩ = some v := by rw [World.cell?_alloc_lt _ _ ⟨w.heap.size + 1, 1, none⟩ (by simp; omega)]; exact c1
    have c1c : ((wr.alloc (.cells (Array.replicate N (.int .u64 0)) 77)).alloc (.cells #[.slice (some ⟨wr.heap.size, 0, none⟩) N N] 112)).cell? ⟨w.heap.size + 1, 1, none⟩ = some v := by rw [World.cell?_alloc_lt _ _ ⟨w.heap.size + 1, 1, none⟩ (by simp; omega)]; exact c1b
    clear hN
    go_wp2_with fail
    go_region_law (refine step_append_own rfl (.tmp 12) (.tmp 15) 81 rfl (w.heap.size + 2) 112 i0 (.slice none 0 0) 1 24 Tryd.underlying81 hi hz0 hz1 hz2 rfl (by decide) v k (lv.map sl) (by simp [Act.eval]) ((hmk.drew.row.alloc _).alloc _) ⟨wr.heap.size + 1, 0, none⟩ 1 1 [.slice (some ⟨wr.heap.size, 0, none⟩) N N] (by simp [Act.eval]) rfl (one_new wr _ _ _) (by simp [Value.oneCell']) (by unfold maxLen; omega) (by omega) (by simp; omega) ?_; intro v' w' hown' hgrow'; obtain ⟨g, cap', rfl⟩ := Joins.ownsRow_form hown' (by omega); have hnew := hid (Making.more hmk.drew hNc.out _ hown' hgrow'); obtain ⟨d0, d1, d2⟩ := Making.grown hmk.drew hgrow'; clear hown' hgrow')
    all_goals clear c0 c1 c1b c1c hmake hmk hst
    all_goals
      clear d0 d1 d2
      generalize w'.setCell ⟨w.heap.size + 1, 1, none⟩ (.slice (some ⟨g, 0, none⟩) (k + 1) cap') = W2 at hnew ⊢
      have e0 := hnew.out.cell0
      have e1 := hnew.out.cell1
      obtain ⟨r0, r1, r2, r3⟩ := hnew.out.resCells
      by_cases hlast : N ≤ 1
      · go_wp2
        obtain ⟨f1, f2, f3, f4, f5⟩ := hnew.out.close h1 hn (by omega) (by omega) (by rw [← hNc.out]; exact hlast)
        refine bodyPost_ret (results_cell_row rfl _ _ w.heap.size 83 _ (0, 0) _ rfl f1 Tryd.underlying83 rfl (by kernel_rfl)) rfl ?_
        refine ⟨g, cap', _, ?_, f2, f3, f4⟩
        rw [f5]
      · go_wp2_with fail
        go_roundw
        case rel => exact ⟨k + 1, N, _, _, by omega, by omega, hNc, by go_num, hnew.out⟩
        case measure => simp [intOf]; omega

end Go.Proofs.YtjkiagjgnfaknaaDoor
