/- From the reading of an argument that is a slice of slices of bytes to the rows that it holds. -/
import Derived.Test.YtpccgdhiekbmpaaOpened
import Derived.Test.YtpccgdhiekbmpaaBack
import Derived.Deep.Matrix
namespace Go.Proofs.Ytpccgdhiekbmpaa
open Go.ChangeShapes Go.WideShapes Go.ChangeAt Go.RowKit Go.Deep

theorem open_rows {H : Type} {enc : TypeId × Value → H} {P : Program} {W : World} {t e q : TypeId} {a : Option Addr} {len cap : Nat} {d : DataW H} {p : List MemPlace}
    (ht : P.underlying t = some (.slice e)) (he : P.underlying e = some (.slice q)) (hq : P.underlying q = some (.int .u8)) (ce : P.cellsOf e = 1) (cq : P.cellsOf q = 1) (h : DataW.Trod enc P W 0 (fun _ => true) true t (.slice a len cap) d p) :
    ∃ b off A C L, Rows2 W a len b off A C L := by
  obtain ⟨fuel, hf⟩ := h
  rcases open_int_rows ht he hq ce cq hf with ⟨hcs, _⟩ | ⟨x, l, c, A, N, C, Z, hcs, _, hl, hm, hx, hrow⟩
  · simp [Value.cells] at hcs
    obtain ⟨rfl, rfl, rfl⟩ := hcs
    exact ⟨0, 0, fun _ => none, fun _ => 0, fun _ => [], by omega, fun r hr => absurd hr (by omega), fun r hr => absurd hr (by omega)⟩
  · simp [Value.cells] at hcs
    obtain ⟨rfl, rfl, rfl⟩ := hcs
    by_cases h0 : len = 0
    · subst h0
      exact ⟨0, 0, fun _ => none, fun _ => 0, fun _ => [], by omega, fun r hr => absurd hr (by omega), fun r hr => absurd hr (by omega)⟩
    · obtain ⟨b, off, spot⟩ := x
      have hs : spot = none := by simpa [Addr.add] using World.cell?_spot (hrow 0 (by omega)).1
      subst hs
      refine ⟨b, off, A, C, fun r => bytesOf (Z r) (N r), fun _ => rfl, fun r hr => ?_, fun r hr h2 => ?_⟩
      · have h1 := hrow r (by omega)
        have hp : (⟨b, off, none⟩ : Addr).add r = ⟨b, off + r, none⟩ := by unfold Addr.add; split <;> simp_all
        rw [← hp, h1.1, bytesOf_length _ _ (by have := h1.2.1; have := h1.2.2.2.1; omega)]
      · obtain ⟨_, h3, _, h5, h6, h7, h8⟩ := hrow r (by omega)
        rw [bytesOf_length _ _ (by omega)] at h2
        cases hA : A r with
        | none =>
          have hc := h7 hA
          have hz : Z r = [] := List.eq_nil_of_length_eq_zero (by omega)
          rw [hc, hz]
          simp only [bytesOf, List.take_nil, List.map_nil]
          exact Bytes.none W
        | some a' =>
          exact Bytes.ofInts h3 h5 (h8 a' hA).2 h6 (by omega)

end Go.Proofs.Ytpccgdhiekbmpaa
