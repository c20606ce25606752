/- The reference's Claim and Free; a slice of pairs of numbers. -/
import Derived.Test.YtddbeebnmjbfiaaDoorRef
import Derived.Deep.SlicePairs
import Derived.ProofKit
import Derived.OpenShut
namespace Go.Proofs.YtddbeebnmjbfiaaDoor
open Go.ChangeShapes Go.WideShapes Go.ChangeAt Go.RowKit

set_option maxHeartbeats 1000000 in
theorem rclaim_out (ad : Option Addr) (cap : Nat) (l : List Bool) (X : Int) (w : World) (hl : l.length ≤ 1048576) (hx : X < 0 ∨ (l.length : Int) ≤ X) :
    Calls Tryd.prog 14 #[.slice ad l.length cap, .int .i64 X] w fun e w' => e = .returned (.int .i64 12) ∧ w = w' := by
  rcases hx with h | h
  · have t : decide (X < 0) = true := decide_eq_true h
    go_enter Tryd.func14, Tryd.ntmps14
    go_wp2_with fail
    go_ret
    exact ⟨rfl, rfl⟩
  · have t : decide (X < 0) = false := decide_eq_false (by omega)
    go_enter Tryd.func14, Tryd.ntmps14
    go_wp2_with fail
    go_ret
    exact ⟨rfl, rfl⟩

set_option maxHeartbeats 1000000 in
theorem rclaim_in (ad : Option Addr) (cap : Nat) (l : List Bool) (x : Nat) (b : Bool) (w : World) (h : Bools w ad cap l) (hl : l.length ≤ 1048576) (hx : l[x]? = some b) :
    Calls Tryd.prog 14 #[.slice ad l.length cap, .int .i64 (x : Int)] w fun e w' => e = .returned (.int .i64 (if b then 20 else 0)) ∧ w = w' := by
  have hxl : x < l.length := (List.getElem?_eq_some_iff.1 hx).1
  cases ad with
  | none => have := h.nil rfl; subst this; simp at hxl
  | some a0 =>
    have hcell := h.cell a0 rfl x b hx
    clear hx
    cases b with
    | true =>
      go_enter Tryd.func14, Tryd.ntmps14
      go_wp2_with fail
      go_ret
      exact ⟨rfl, rfl⟩
    | false =>
      go_enter Tryd.func14, Tryd.ntmps14
      go_wp2_with fail
      go_ret
      exact ⟨rfl, rfl⟩

set_option maxHeartbeats 1000000 in
theorem rfree_out (ad : Option Addr) (cap : Nat) (l : List Bool) (X : Int) (w : World) (hl : l.length ≤ 1048576) (hx : X < 0 ∨ (l.length : Int) ≤ X) :
    Calls Tryd.prog 16 #[.slice ad l.length cap, .int .i64 X] w fun e w' => e = .returned (.int .i64 12) ∧ w = w' := by
  rcases hx with h | h
  · have t : decide (X < 0) = true := decide_eq_true h
    go_enter Tryd.func16, Tryd.ntmps16
    go_wp2_with fail
    go_ret
    exact ⟨rfl, rfl⟩
  · have t : decide (X < 0) = false := decide_eq_false (by omega)
    go_enter Tryd.func16, Tryd.ntmps16
    go_wp2_with fail
    go_ret
    exact ⟨rfl, rfl⟩

set_option maxHeartbeats 1000000 in
theorem rfree_in (ad : Option Addr) (cap : Nat) (l : List Bool) (x : Nat) (b : Bool) (w : World) (h : Bools w ad cap l) (hl : l.length ≤ 1048576) (hx : l[x]? = some b) :
    Calls Tryd.prog 16 #[.slice ad l.length cap, .int .i64 (x : Int)] w fun e w' => e = .returned (.int .i64 (if b then 0 else 21)) ∧ w = w' := by
  have hxl : x < l.length := (List.getElem?_eq_some_iff.1 hx).1
  cases ad with
  | none => have := h.nil rfl; subst this; simp at hxl
  | some a0 =>
    have hcell := h.cell a0 rfl x b hx
    clear hx
    cases b with
    | true =>
      go_enter Tryd.func16, Tryd.ntmps16
      go_wp2_with fail
      go_ret
      exact ⟨rfl, rfl⟩
    | false =>
      go_enter Tryd.func16, Tryd.ntmps16
      go_wp2_with fail
      go_ret
      exact ⟨rfl, rfl⟩

/-- The slice at 'ad' holds these pairs. -/
structure Acts (w : World) (ad : Option Addr) (l : List (Int × Int)) : Prop where
  nil : ad = none → l = []
  bound : l.length ≤ 9223372036854775807
  cell : ∀ a, ad = some a → ∀ j x y, l[j]? = some (x, y) → w.cell? (a.add (j * 2)) = some (.int .i64 x) ∧ w.cell? (a.add (j * 2 + 1)) = some (.int .i64 y)

theorem Acts.below {w w' : World} {ad : Option Addr} {l : List (Int × Int)} (h : Acts w ad l) (hb : Below w.heap.size w w') : Acts w' ad l :=
  ⟨h.nil, h.bound, fun a ha j x y hz => by
    obtain ⟨h1, h2⟩ := h.cell a ha j x y hz
    exact ⟨(hb.cell (World.block_lt_of_cell? w _ h1)).trans h1, (hb.cell (World.block_lt_of_cell? w _ h2)).trans h2⟩⟩

theorem open_acts {H : Type} {enc : TypeId × Value → H} {P : Program} {W : World} {t e : TypeId} {f0 f1 : Field} {a : Option Addr} {len cap : Nat} {d : DataW H} {p : List MemPlace}
    (ht : P.underlying t = some (.slice e)) (he : P.underlying e = some (.struct #[f0, f1])) (ce : P.cellsOf e = 2) (o0 : f0.offset = 0) (o1 : f1.offset = 1) (c0 : P.cellsOf f0.type = 1) (c1 : P.cellsOf f1.type = 1)
    (u0 : P.underlying f0.type = some (.int .i64)) (u1 : P.underlying f1.type = some (.int .i64)) (h : DataW.Trod enc P W 0 (fun _ => true) true t (.slice a len cap) d p) :
    ∃ l : List (Int × Int), len = l.length ∧ len ≤ cap ∧ Acts W a l := by
  obtain ⟨fuel, hf⟩ := h
  rcases Go.Deep.open_slice_pairs ht he ce o0 o1 c0 c1 hf with ⟨hcs, _⟩ | ⟨x, l, c, m, n, V0, V1, D0, D1, P0, P1, hcs, _, hl, hm, hmm, hx, hall⟩
  · simp [Value.cells] at hcs
    obtain ⟨rfl, rfl, rfl⟩ := hcs
    exact ⟨[], rfl, Nat.le_refl _, ⟨fun _ => rfl, by simp, by simp⟩⟩
  · simp [Value.cells] at hcs
    obtain ⟨rfl, rfl, rfl⟩ := hcs
    simp at hmm
    have hv : ∀ i, i < len → ∃ z0 z1 : Int, V0 i = .int .i64 z0 ∧ V1 i = .int .i64 z1 := by
      intro i hi
      obtain ⟨_, _, h3, h4⟩ := hall i (by omega)
      obtain ⟨z0, e0, _⟩ := DataW.trod_int u0 h3
      obtain ⟨z1, e1, _⟩ := DataW.trod_int u1 h4
      exact ⟨z0, z1, by simpa using e0, by simpa using e1⟩
    refine ⟨(List.range len).map (fun i => (intOf (V0 i), intOf (V1 i))), by simp, hl, ⟨by simp, by simp [maxLen] at *; omega, fun a' ha j z0 z1 hj => ?_⟩⟩
    cases ha
    have hjl : j < len := by have := (List.getElem?_eq_some_iff.1 hj).1; simpa using this
    obtain ⟨y0, y1, e0, e1⟩ := hv j hjl
    obtain ⟨h1, h2, _, _⟩ := hall j (by omega)
    simp [hjl, e0, e1, intOf] at hj
    obtain ⟨rfl, rfl⟩ := hj
    rw [h1, h2, e0, e1]
    exact ⟨rfl, rfl⟩

end Go.Proofs.YtddbeebnmjbfiaaDoor
