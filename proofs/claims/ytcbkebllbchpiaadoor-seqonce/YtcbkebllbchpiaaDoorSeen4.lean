/- A list of counts in memory; which nodes were counted. -/
import Derived.Test.YtcbkebllbchpiaaDoorLaws4
import Derived.Test.YtcbkebllbchpiaaDoorAt4
namespace Go.Proofs.YtcbkebllbchpiaaDoor
open Go.RowKit
set_option linter.unusedVariables false

def cnt (K : Nat) (P : Nat → Bool) : List Value := (List.range K).map (fun i => Value.int .i64 (if P (i + 1) then 1 else 0))

def Seen (w : World) (sb K : Nat) (P : Nat → Bool) : Prop := w.heap[sb]? = some (.cells (cnt K P).toArray 3 (0, 0))

theorem cnt_get (K : Nat) (P : Nat → Bool) (i : Nat) (hi : i < K) : (cnt K P)[i]? = some (.int .i64 (if P (i + 1) then 1 else 0)) := by simp [cnt, hi]

theorem Seen.cell {w : World} {sb K i : Nat} {P : Nat → Bool} (h : Seen w sb K P) (hi : i < K) {z : Int} (hz : (if P (i + 1) then (1 : Int) else 0) = z) : w.cell? ⟨sb, i, none⟩ = some (.int .i64 z) := by
  unfold World.cell?
  rw [h]
  simp [cnt_get K P i hi, hz]

theorem Seen.fro {w : World} {sb K i : Nat} {P : Nat → Bool} (h : Seen w sb K P) : w.frozen? ⟨sb, i, none⟩ = false := by
  unfold World.frozen?
  rw [h]
  simp

theorem Seen.keep {w w' : World} {sb K : Nat} {P : Nat → Bool} (h : Seen w sb K P) (k : Keep w w') : Seen w' sb K P := k sb _ _ _ h (by decide) (by decide)

/-- One more is counted. -/
theorem Seen.mark {w : World} {sb K i : Nat} {P P' : Nat → Bool} (h : Seen w sb K P) (hi : i < K) (hP : ∀ d, P' d = (P d || d == i + 1)) : Seen (w.setCell ⟨sb, i, none⟩ (.int .i64 1)) sb K P' := by
  unfold Seen World.setCell
  rw [Array.getElem?_modify, if_pos rfl, h]
  simp only [Option.map_some, Option.some.injEq]
  have e : (cnt K P).set i (.int .i64 1) = cnt K P' := by
    apply List.ext_getElem?
    intro j
    rw [List.getElem?_set]
    by_cases hj : i = j
    · subst hj
      rw [if_pos rfl, if_pos (by simp [cnt]; exact hi), cnt_get K P' i hi]
      simp [hP]
    · rw [if_neg hj]
      by_cases hjK : j < K
      · rw [cnt_get K P j hjK, cnt_get K P' j hjK, hP]
        have : (j + 1 == i + 1) = false := by rw [beq_eq_false_iff_ne]; omega
        rw [this, Bool.or_false]
      · simp [cnt, hjK]
  rw [← e]
  simp

theorem FS.store {lo fb n : Nat} {w wr : World} {v : Nat → Int} {seq : Nat → List Nat} (h : FS lo w fb n v seq wr) {sb K i : Nat} {P : Nat → Bool} (hb : Seen wr sb K P) (hlo : lo ≤ sb) (u : Value) : FS lo w fb n v seq (wr.setCell ⟨sb, i, none⟩ u) := by
  obtain ⟨nb, N, T, sub, h1, h2, h3, h4⟩ := h.st
  have ht : Turned (fun k => k = sb) wr (wr.setCell ⟨sb, i, none⟩ u) := (Turned.refl (fun k => k = sb) wr).setCell (p := ⟨sb, i, none⟩) rfl _
  have nf : fb ≠ sb := fun e => by
    have := h1.self
    rw [e, hb] at this
    injection this with this; injection this with _ this; exact absurd this (by decide)
  have nn : nb ≠ sb := fun e => by
    have := h1.nodes
    rw [e, hb] at this
    injection this with this; injection this with _ this; exact absurd this (by decide)
  exact ⟨⟨nb, N, T, sub, h1.of ht nf nn, h2, h3, h4⟩, h.flo, h.below.trans (ht.below (fun j hj => by rw [hj]; exact hlo) (Nat.le_trans h.lw h.below.size)), h.n1, h.n2, h.lw⟩

set_option maxRecDepth 100000 in
theorem make_ints (K : Nat) (hK : K ≤ 1048576) (w : World) :
    (Instr.makeSlice 50 (.int .i64 (K : Int)) (.int .i64 (K : Int))).run Tryd.prog w = .ok (.slice (some ⟨w.heap.size, 0, none⟩) K K) (w.alloc (.cells (cnt K (fun _ => false)).toArray 3)) := by
  obtain ⟨i0, hi, hz0, hz1, hz2⟩ := info_parts infoInt
  have h := run_make (P := Tryd.prog) w 50 3 i0 _ Tryd.underlying50 hi hz0 .i64 .i64 K K (by omega) (Int.le_refl _) (by rw [hz2]; omega) (by omega)
  rw [h]
  simp only [Int.toNat_natCast, hz1]
  congr 3
  apply Array.ext
  · simp [madeCells, cnt]
  · intro j h1 h2
    simp [madeCells, Value.cells, Nat.mod_one, cnt]

theorem row_store {w : World} {base sb i n : Nat} {u x : Value} {xs : List Value} (h : w.ownsRow base 3 1 u n xs) (hs : sb < base) : (w.setCell ⟨sb, i, none⟩ x).ownsRow base 3 1 u n xs := by
  refine ⟨h.1, ?_⟩
  rcases h.2 with hn | ⟨g, cap, cur, rfl, hb, hgg, rest⟩
  · exact .inl hn
  · exact .inr ⟨g, cap, cur, rfl, hb, by rw [Below.heap_setCell _ _ _ _ (by simp; omega)]; exact hgg, rest⟩

end Go.Proofs.YtcbkebllbchpiaaDoor
