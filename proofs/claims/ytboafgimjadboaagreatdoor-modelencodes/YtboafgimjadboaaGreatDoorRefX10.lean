/- The document's Lay and Lift where they refuse; its New. -/
import Derived.Test.YtboafgimjadboaaGreatDoorLaid10
namespace Go.Proofs.YtboafgimjadboaaGreatDoor
open Go.RowKit
set_option linter.unusedVariables false











set_option maxRecDepth 100000 in
set_option maxHeartbeats 1000000 in
theorem rnew_ok (E V : Nat) (w : World) (hE : E ≤ 100) (hV : V ≤ 1000) : Calls Tryz.prog 60 #[.int .i64 (V : Int), .int .i64 (E : Int)] w fun x w' => ∃ tv, x = .returned tv ∧ RT w' tv E V (fun _ => []) ∧ Below w.heap.size w w' := by
  obtain ⟨i0, hif, hz0, hz1, hz2⟩ := info_parts infoInts
  have hsz : w.heap.size ≤ (w.alloc (.cells #[.int .i64 0, .slice none 0 0] 76)).heap.size := by simp
  have hq := hid (heap_alloc_new w (.cells #[.int .i64 0, .slice none 0 0] 76))
  have hb := hid (balloc w (.cells #[.int .i64 0, .slice none 0 0] 76))
  obtain ⟨w1, hw1⟩ : ∃ w1, w.alloc (.cells #[.int .i64 0, .slice none 0 0] 76) = w1 := ⟨_, rfl⟩
  rw [hw1] at hq hb hsz
  replace hw1 := hid hw1
  go_enter Tryz.func60, Tryz.ntmps60
  go_upto_region 1 with fail
  rw [hw1.out]
  go_wp2_with (at_make; refine wpList_make_full _ rfl (.tmp 6) (.tmp 6) 28 rfl w.heap.size 55 i0 (.slice none 0 0) 1 Tryz.underlying28 hif hz0 hz1 .i64 .i64 _ _ V rfl rfl rfl rfl (by rw [hz2]; omega) (by unfold maxLen; omega) hsz ?_; intro w3 hown hgrow; refine Hid.out ?_)
  have hq3 := (hgrow.block w.heap.size (Array.getElem?_eq_some_iff.1 hq.out).1 (by simp)).trans hq.out
  have hb3 := hb.out.grown hgrow hsz (fun k hk => by cases hk)
  have e1 : (madeCells (Value.slice none 0 0).cells (V * 1)).toList = List.replicate V (.slice none 0 0) := by
    rw [Nat.mul_one]
    show (madeCells #[Value.slice none 0 0] V).toList = _
    rw [toList_madeCells_one]
  rw [e1] at hown
  have hrow : NR w3 (.slice (some ⟨w1.heap.size, 0, none⟩) V V) V (fun _ => []) := by
    refine ⟨_, V, rfl, Nat.le_refl _, ⟨by unfold maxLen; omega, fun a e => ⟨w1.heap.size, 0, (Option.some.inj e).symm, row_ty hown rfl⟩⟩, fun u hu => ⟨w1.heap.size, 0, .slice none 0 0, rfl, ?_, ⟨none, 0, 0, rfl, rfl, ⟨Nat.le_refl _, fun _ => rfl, fun a e => by cases e⟩, Nat.zero_le _, fun j x hx => by simp at hx⟩⟩⟩
    rw [Nat.zero_add, hown.cellAt u (by omega)]
    simp [hu]
  obtain ⟨f1, f2, f3, f4⟩ := blk2 hq3
  have hfin2 := hid (set2_block hq3 (.int .i64 (E : Int)) (.slice (some ⟨w1.heap.size, 0, none⟩) V V))
  have hnr := hid (hrow.al (set2_al hq3 (.int .i64 (E : Int)) (.slice (some ⟨w1.heap.size, 0, none⟩) V V)))
  have hbl := hid (below2 hb3 (Nat.le_refl _) (.int .i64 (E : Int)) (.slice (some ⟨w1.heap.size, 0, none⟩) V V))
  clear hown hgrow hq3 hb3 hrow e1
  refine hid ?_
  go_wp2_with fail
  refine bodyPost_ret (results_cell_row rfl _ _ w.heap.size 76 _ (0, 0) _ rfl hfin2.out Tryz.underlying76 rfl (by kernel_rfl)) rfl ?_
  exact ⟨_, rfl, ⟨_, rfl, hnr.out⟩, hbl.out⟩

end Go.Proofs.YtboafgimjadboaaGreatDoor
