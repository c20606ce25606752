/- From the reading of an argument that is a slice of numbers to the numbers that it holds. -/
import Derived.Test.YtjkiagjgnfaknaaDoorMem
import Derived.ProofKit
import Derived.OpenShut
namespace Go.Proofs.YtjkiagjgnfaknaaDoor
open Go.ChangeShapes Go.WideShapes Go.ChangeAt Go.RowKit

/-- The slice at 'ad' holds these numbers. -/
structure Ints (w : World) (ad : Option Addr) (l : List Int) : Prop where
  nil : ad = none → l = []
  bound : l.length ≤ 9223372036854775807
  num : ∀ z ∈ l, -9223372036854775808 ≤ z ∧ z < 9223372036854775808
  cell : ∀ a, ad = some a → ∀ j z, l[j]? = some z → w.cell? (a.add j) = some (.int .i64 z)

theorem Ints.below {w w' : World} {ad : Option Addr} {l : List Int} (h : Ints w ad l) (hb : Below w.heap.size w w') : Ints w' ad l :=
  ⟨h.nil, h.bound, h.num, fun a ha j z hz => by
    have hc := h.cell a ha j z hz
    have hl := World.block_lt_of_cell? w _ hc
    rw [hb.cell hl]; exact hc⟩

theorem open_ints64 {H : Type} {enc : TypeId × Value → H} {P : Program} {W : World} {t e : TypeId} {a : Option Addr} {len cap : Nat} {d : DataW H} {p : List MemPlace}
    (ht : P.underlying t = some (.slice e)) (he : P.underlying e = some (.int .i64)) (hc : P.cellsOf e = 1) (h : DataW.Trod enc P W 0 (fun _ => true) true t (.slice a len cap) d p) :
    ∃ l : List Int, len = l.length ∧ len ≤ cap ∧ Ints W a l := by
  obtain ⟨fuel, hf⟩ := h
  rcases open_ints ht he hc hf with ⟨hcs, _⟩ | ⟨x, l, c, zs, hcs, _, hl, hm, hz, hx, hcell, hwz⟩
  · simp [Value.cells] at hcs
    obtain ⟨rfl, rfl, rfl⟩ := hcs
    exact ⟨[], rfl, Nat.le_refl _, ⟨fun _ => rfl, by simp, by simp, by simp⟩⟩
  · simp [Value.cells] at hcs
    obtain ⟨rfl, rfl, rfl⟩ := hcs
    simp at hz
    refine ⟨zs.take len, by simp; omega, hl, ⟨by simp, by simp [maxLen] at *; omega, fun z hz' => ?_, fun a' ha j z hj => ?_⟩⟩
    · have := bounds_i64 (hwz z (List.mem_of_mem_take hz'))
      omega
    · cases ha
      rw [List.getElem?_take] at hj
      split at hj
      · have hjl := (List.getElem?_eq_some_iff.1 hj).1
        rw [hcell j hjl, List.getD_eq_getElem?_getD, hj]
        rfl
      · cases hj

end Go.Proofs.YtjkiagjgnfaknaaDoor
