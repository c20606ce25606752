/- The document's put, walked. The document's Lay, walked. The document's Lay and Lift where they refuse; its New. -/
import Derived.Test.YtboafgimjadboaaGreatDoorBput
import Derived.Test.YtboafgimjadboaaGreatDoorLift10
import Derived.Deep.CutBlock
namespace Go.Proofs.YtboafgimjadboaaGreatDoor
open Go.RowKit
set_option linter.unusedVariables false

/-- append of nothing onto a row of the call's own, as one step of a region that draws. -/
theorem step_append_none {P : Program} {ops : Array Oper} {o : Oper} {a : Act} {w : World} {K : Act → World → Prop} {Q : Exit → Act → World → Prop} {E : Prop}
    (hg : o.guard = none) (s x : Operand) (t : TypeId) (hop : o.op = Op.call { callee := Callee.builtin Builtin.append, args := #[s, x], argTypes := #[t, t] })
    (base : Nat) (e : TypeId) (i : TypeInfo) (size : Nat) (h1 : P.underlying t = some (.slice e)) (h2 : P.info? e = some i)
    (v : Value) (n : Nat) (xs : List Value) (hs : a.eval s = v) (hown : w.ownsRow base e size v n xs) (hx : a.eval x = .slice none 0 0)
    (hK : K (a.put o.dst v) w) :
    if Region.wanted o (yielded ops a.tmps) = true then Oper.wp P o a w K Q else E := by
  have hw : Region.wanted o (yielded ops a.tmps) = true := by simp [Region.wanted, hg]
  rw [if_pos hw]
  have hrun := run_append_owned_none (P := P) (w := w) base t o.type e i size h1 h2 v n xs hown
  unfold Oper.wp
  simp [execOp, hop, resolve, invoke, builtin, hs, hx, hrun, Result.andThen]
  exact hK



end Go.Proofs.YtboafgimjadboaaGreatDoor

namespace Go.Proofs.YtboafgimjadboaaGreatDoor
open Go.RowKit
set_option linter.unusedVariables false

/-- What Lay keeps: its arguments in blocks of their own, and the answer's. -/
def Fk (s : Nat) (E : Nat) (lv : Value) (a0 a1 b0 b1 : Int) (y : World) : Prop :=
  y.heap[s]? = some (.cells #[.int .i64 (E : Int), lv] 76 (0, 0)) ∧ y.heap[s + 1]? = some (.cells #[.int .i64 a0, .int .i64 a1] 197 (0, 0)) ∧ y.heap[s + 2]? = some (.cells #[.int .i64 b0, .int .i64 b1] 197 (0, 0)) ∧ y.heap[s + 3]? = some (.cells #[.int .i64 0, .slice none 0 0] 76 (0, 0))

theorem Fk.below {s E : Nat} {lv : Value} {a0 a1 b0 b1 : Int} {y y' : World} (h : Fk s E lv a0 a1 b0 b1 y) (hb : Below y.heap.size y y') : Fk s E lv a0 a1 b0 b1 y' := by
  obtain ⟨h1, h2, h3, h4⟩ := h
  have k : ∀ {g : Nat} {o : Obj}, y.heap[g]? = some o → y'.heap[g]? = some o := fun {g o} hg => (hb.block g (Array.getElem?_eq_some_iff.1 hg).1).trans hg
  exact ⟨k h1, k h2, k h3, k h4⟩

theorem Fk.new (w : World) (E : Nat) (lv : Value) (a0 a1 b0 b1 : Int) : Fk w.heap.size E lv a0 a1 b0 b1 ((((w.alloc (.cells #[.int .i64 (E : Int), lv] 76)).alloc (.cells #[.int .i64 a0, .int .i64 a1] 197)).alloc (.cells #[.int .i64 b0, .int .i64 b1] 197)).alloc (.cells #[.int .i64 0, .slice none 0 0] 76)) := by
  obtain ⟨w1, hw1⟩ : ∃ w1, w.alloc (.cells #[.int .i64 (E : Int), lv] 76) = w1 := ⟨_, rfl⟩
  have s1 : w1.heap.size = w.heap.size + 1 := by rw [← hw1]; exact World.size_alloc _ _
  have h1 : w1.heap[w.heap.size]? = some (.cells #[.int .i64 (E : Int), lv] 76 (0, 0)) := by rw [← hw1]; exact heap_alloc_new w _
  rw [hw1]
  obtain ⟨w2, hw2⟩ : ∃ w2, w1.alloc (.cells #[.int .i64 a0, .int .i64 a1] 197) = w2 := ⟨_, rfl⟩
  have s2 : w2.heap.size = w.heap.size + 2 := by rw [← hw2, World.size_alloc, s1]
  have h2 : w2.heap[w.heap.size + 1]? = some (.cells #[.int .i64 a0, .int .i64 a1] 197 (0, 0)) := by rw [← hw2, ← s1]; exact heap_alloc_new w1 _
  have b2 : Below w1.heap.size w1 w2 := by rw [← hw2]; exact balloc _ _
  rw [hw2]
  obtain ⟨w3, hw3⟩ : ∃ w3, w2.alloc (.cells #[.int .i64 b0, .int .i64 b1] 197) = w3 := ⟨_, rfl⟩
  have s3 : w3.heap.size = w.heap.size + 3 := by rw [← hw3, World.size_alloc, s2]
  have h3 : w3.heap[w.heap.size + 2]? = some (.cells #[.int .i64 b0, .int .i64 b1] 197 (0, 0)) := by rw [← hw3, ← s2]; exact heap_alloc_new w2 _
  have b3 : Below w2.heap.size w2 w3 := by rw [← hw3]; exact balloc _ _
  rw [hw3]
  have b4 := balloc w3 (.cells #[.int .i64 0, .slice none 0 0] 76)
  have h4 := heap_alloc_new w3 (.cells #[.int .i64 0, .slice none 0 0] 76)
  rw [s3] at h4
  refine ⟨?_, ?_, ?_, h4⟩
  · rw [b4.block _ (by omega), b3.block _ (by omega), b2.block _ (by omega)]; exact h1
  · rw [b4.block _ (by omega), b3.block _ (by omega)]; exact h2
  · rw [b4.block _ (by omega)]; exact h3



end Go.Proofs.YtboafgimjadboaaGreatDoor

namespace Go.Proofs.YtboafgimjadboaaGreatDoor
open Go.RowKit
set_option linter.unusedVariables false











set_option maxRecDepth 100000 in
set_option maxHeartbeats 1000000 in
theorem rnew_ok (E V : Nat) (w : World) (hE : E ≤ 400) (hV : V ≤ 1000) : Calls Tryz.prog 60 #[.int .i64 (V : Int), .int .i64 (E : Int)] w fun x w' => ∃ tv, x = .returned tv ∧ RT w' tv E V (fun _ => []) ∧ Below w.heap.size w w' := by
  obtain ⟨i0, hif, hz0, hz1, hz2⟩ := info_parts infoInts
  have hsz : w.heap.size ≤ (w.alloc (.cells #[.int .i64 0, .slice none 0 0] 76)).heap.size := by simp
  have hq := hid (heap_alloc_new w (.cells #[.int .i64 0, .slice none 0 0] 76))
  have hb := hid (balloc w (.cells #[.int .i64 0, .slice none 0 0] 76))
  obtain ⟨w1, hw1⟩ : ∃ w1, w.alloc (.cells #[.int .i64 0, .slice none 0 0] 76) = w1 := ⟨_, rfl⟩
  rw [hw1] at hq hb hsz
  replace hw1 := hid hw1
  go_enter Tryz.func60, Tryz.ntmps60
  go_upto_region 1 with fail
  rw [hw1.out]
  go_wp2_with (at_make; refine wpList_make_full _ rfl (.tmp 6) (.tmp 6) 28 rfl w.heap.size 55 i0 (.slice none 0 0) 1 Tryz.underlying28 hif hz0 hz1 .i64 .i64 _ _ V rfl rfl rfl rfl (by rw [hz2]; omega) (by unfold maxLen; omega) hsz ?_; intro w3 hown hgrow; refine Hid.out ?_)
  have hq3 := (hgrow.block w.heap.size (Array.getElem?_eq_some_iff.1 hq.out).1 (by simp)).trans hq.out
  have hb3 := hb.out.grown hgrow hsz (fun k hk => by cases hk)
  have e1 : (madeCells (Value.slice none 0 0).cells (V * 1)).toList = List.replicate V (.slice none 0 0) := by
    rw [Nat.mul_one]
    show (madeCells #[Value.slice none 0 0] V).toList = _
    rw [toList_madeCells_one]
  rw [e1] at hown
  have hrow : NR w3 (.slice (some ⟨w1.heap.size, 0, none⟩) V V) V (fun _ => []) := by
    refine ⟨_, V, rfl, Nat.le_refl _, ⟨by unfold maxLen; omega, fun a e => ⟨w1.heap.size, 0, (Option.some.inj e).symm, row_ty hown rfl⟩⟩, fun u hu => ⟨w1.heap.size, 0, .slice none 0 0, rfl, ?_, ⟨none, 0, 0, rfl, rfl, ⟨Nat.le_refl _, fun _ => rfl, fun a e => by cases e⟩, Nat.zero_le _, fun j x hx => by simp at hx⟩⟩⟩
    rw [Nat.zero_add, hown.cellAt u (by omega)]
    simp [hu]
  obtain ⟨f1, f2, f3, f4⟩ := blk2 hq3
  have hfin2 := hid (set2_block hq3 (.int .i64 (E : Int)) (.slice (some ⟨w1.heap.size, 0, none⟩) V V))
  have hnr := hid (hrow.al (set2_al hq3 (.int .i64 (E : Int)) (.slice (some ⟨w1.heap.size, 0, none⟩) V V)))
  have hbl := hid (below2 hb3 (Nat.le_refl _) (.int .i64 (E : Int)) (.slice (some ⟨w1.heap.size, 0, none⟩) V V))
  clear hown hgrow hq3 hb3 hrow e1
  refine hid ?_
  go_wp2_with fail
  refine bodyPost_ret (results_cell_row rfl _ _ w.heap.size 76 _ (0, 0) _ rfl hfin2.out Tryz.underlying76 rfl (by kernel_rfl)) rfl ?_
  exact ⟨_, rfl, ⟨_, rfl, hnr.out⟩, hbl.out⟩

end Go.Proofs.YtboafgimjadboaaGreatDoor
