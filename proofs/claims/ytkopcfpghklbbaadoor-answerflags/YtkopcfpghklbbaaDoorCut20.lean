/- The last append of Encode: behind bytes that are cut with three indices. -/
import Derived.Test.YtkopcfpghklbbaaDoorPut20
namespace Go.Proofs.YtkopcfpghklbbaaDoor
open Go.RowKit
set_option linter.unusedVariables false

theorem mk20 (L : Nat) (h : L ≤ 1000000) (w : World) : (Instr.makeSlice 25 (.int .i64 0) (.int .i64 (L : Int))).run Tryd.prog w = .ok (.slice (some ⟨w.heap.size, 0, none⟩) 0 L) (w.alloc (.cells (madeCells #[.int .u8 0] (L * 1)) 5)) := by
  obtain ⟨i0, hif, hz0, hz1, hz2⟩ := info_parts infoU8
  have := run_makeSlice (P := Tryd.prog) w 25 5 i0 (.int .u8 0) Tryd.underlying25 hif hz0 .i64 .i64 0 (L : Int) (Int.le_refl _) (by omega) (by rw [hz1]; simp; omega) (by rw [hz2]; omega) (by omega)
  rw [hz1] at this
  exact this

/-- Bytes laid behind bytes that leave no room. -/
theorem run_app_cut {w : World} {g l m c : Nat} {ao : Option Addr} {L D : List UInt8} (hL : Bytes w (some ⟨g, 0, none⟩) l L) (hl : L.length = l) (hD : Bytes w ao c D) (hm : D.length = m) (hb : l + m ≤ 1000000) (ty : TypeId) :
    ∃ ad' cap' w', (Builtin.append_ #[25, 25] ty #[.slice (some ⟨g, 0, none⟩) l l, .slice ao m c]).run Tryd.prog w = .ok (.slice ad' (l + m) cap') w' ∧ Bytes w' ad' cap' (L ++ D) ∧ Below w.heap.size w w' := by
  obtain ⟨i0, hif, hz0, hz1, hz2⟩ := info_parts infoU8
  by_cases h0 : m = 0
  · subst h0
    have hDn : D = [] := List.eq_nil_of_length_eq_zero hm
    subst hDn
    refine ⟨some ⟨g, 0, none⟩, l, w, ?_, by rw [List.append_nil]; exact hL, Below.refl _ _⟩
    cases ao with
    | none => simp [Builtin.append_, run_underlying Tryd.underlying25, sizeOf, typeInfo, hif, Builtin.lenOf, Builtin.firstCells, storeCells]
    | some a =>
      have hf := run_firstCells_some (P := Tryd.prog) w i0.size 0 a 0 c [] (by simp) (by simp)
      simp [Builtin.append_, run_underlying Tryd.underlying25, sizeOf, typeInfo, hif, Builtin.lenOf, hf, storeCells]
  · cases ao with
    | none =>
      have h1 := hD.nil rfl
      have h2 := hD.le
      omega
    | some a =>
      have hr := run_append_grow (P := Tryd.prog) w 25 ty 5 i0 (.int .u8 0) Tryd.underlying25 hif hz0 ⟨g, 0, none⟩ l l (L.map bc) (by rw [hz1, List.length_map]; omega) (fun j u hj => hL.cell _ rfl j u hj) a m c (D.map bc) (by rw [hz1, List.length_map]; omega) (fun j u hj => hD.cell a rfl j u hj) (by omega) (by omega) (by rw [hz2]; exact growslice_fits (by omega) (by omega))
      have hge := grownCap_ge w (l + m) l 5
      have hcm := grownCap_le_maxLen w (l + m) l 5 (by unfold maxLen; omega)
      have hown : (w.drew.alloc (.cells ((L.map bc).toArray ++ (D.map bc).toArray ++ Builtin.zeroCells (Value.int .u8 0).cells (grownCap w (l + m) l 5 - (l + m))) 5)).ownsRow w.heap.size 5 1 (.slice (some ⟨w.heap.size, 0, none⟩) (l + m) (grownCap w (l + m) l 5)) (l + m) ((L ++ D).map bc) := by
        refine ⟨by simp; omega, .inr ⟨w.heap.size, _, _, rfl, Nat.le_refl _, heap_alloc_new w.drew _, hge, hcm, ?_, ?_⟩⟩
        · simp only [Array.size_append, List.size_toArray, List.length_map, size_zeroCells]
          show _ + _ + _ * 1 = _
          omega
        · simp only [Array.toList_append, List.append_assoc, List.map_append]
          rw [← List.append_assoc]
          have e : (l + m) * 1 = (L.map bc ++ D.map bc).length := by simp; omega
          rw [e]
          exact List.take_left
      refine ⟨_, _, _, hr, ?_, ?_⟩
      · obtain ⟨ad', cap', he, hb'⟩ := Bytes.ofOwns hown (by omega)
        injection he with e1 e2 e3
        rw [← e1, ← e3] at hb'
        exact hb'
      · exact ((Below.refl w.heap.size w).drew).alloc (Nat.le_refl _) _

theorem step_app_cut {ops : Array Oper} {o : Oper} {a : Act} {w : World} {K : Act → World → Prop} {Q : Exit → Act → World → Prop} {E : Prop}
    (hg : o.guard = none) (s x : Operand) (hop : o.op = Op.call { callee := Callee.builtin Builtin.append, args := #[s, x], argTypes := #[25, 25] })
    {g l m c : Nat} {ao : Option Addr} {L D : List UInt8} (hs : a.eval s = .slice (some ⟨g, 0, none⟩) l l) (hx : a.eval x = .slice ao m c) (hL : Bytes w (some ⟨g, 0, none⟩) l L) (hl : L.length = l) (hD : Bytes w ao c D) (hm : D.length = m) (hb : l + m ≤ 1000000)
    (hK : ∀ ad' cap' w', Bytes w' ad' cap' (L ++ D) → Below w.heap.size w w' → K (a.put o.dst (.slice ad' (l + m) cap')) w') :
    if Region.wanted o (yielded ops a.tmps) = true then Oper.wp Tryd.prog o a w K Q else E := by
  have hw : Region.wanted o (yielded ops a.tmps) = true := by simp [Region.wanted, hg]
  rw [if_pos hw]
  obtain ⟨ad', cap', w', hrun, r1, r2⟩ := run_app_cut hL hl hD hm hb o.type
  unfold Oper.wp
  simp [execOp, hop, resolve, invoke, builtin, hs, hx, hrun, Result.andThen]
  exact hK ad' cap' w' r1 r2

end Go.Proofs.YtkopcfpghklbbaaDoor
