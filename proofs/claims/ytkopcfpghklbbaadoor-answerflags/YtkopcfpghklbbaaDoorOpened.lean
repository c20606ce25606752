/- From the reading of an argument that is a slice of bytes to the bytes that it holds; and the handle that 'errors.As' reads. -/
import Derived.Test.YtkopcfpghklbbaaDoorBytes
import Derived.ProofKit
import Derived.SizedLaws
import Derived.OpenShut
namespace Go.Proofs.YtkopcfpghklbbaaDoor
open Go.ChangeShapes Go.WideShapes Go.ChangeAt Go.RowKit

theorem byte_of {n : Int} (h : (Lit.int .u8 n).wf = true) : ((UInt8.ofNat n.toNat).toNat : Int) = n := by
  have := bounds_u8 h
  simp
  omega

/-- The bytes that the first len of these numbers are. -/
def bytesOf (zs : List Int) (len : Nat) : List UInt8 := (zs.take len).map fun n => UInt8.ofNat n.toNat

theorem bytesOf_length (zs : List Int) (len : Nat) (h : len ≤ zs.length) : (bytesOf zs len).length = len := by simp [bytesOf]; omega

theorem Bytes.ofInts {w : World} {a : Addr} {len cap : Nat} {zs : List Int} (hl : len ≤ cap) (hz : zs.length = cap) (hcell : ∀ i, i < cap → w.cell? (a.add i) = some (.int .u8 (zs.getD i 0))) (hwz : ∀ n ∈ zs, (Lit.int .u8 n).wf = true) (hr : len ≤ 140737488355328) :
    Bytes w (some a) cap (bytesOf zs len) := by
  have hbl := bytesOf_length zs len (by omega)
  refine ⟨by omega, by omega, by simp, ?_⟩
  intro a' ha j u hu
  cases ha
  rw [bytesOf, List.map_map] at hu
  have hj := (List.getElem?_eq_some_iff.1 hu).1
  simp at hj
  rw [hcell j (by omega)]
  rw [List.getElem?_map, List.getElem?_take, if_pos (by omega), List.getElem?_eq_getElem (by omega)] at hu
  simp only [Option.map_some, Option.some.injEq, Function.comp] at hu
  rw [← hu, bc, byte_of (hwz _ (List.getElem_mem _)), List.getD_eq_getElem?_getD, List.getElem?_eq_getElem (by omega)]
  rfl

/-- An argument that is a slice of bytes: what it holds. -/
theorem open_bytes {H : Type} {enc : TypeId × Value → H} {P : Program} {W : World} {t e : TypeId} {a : Option Addr} {len cap : Nat} {d : DataW H} {p : List MemPlace} {ts : List TypeId} {ds : List (DataW H)} {j : Nat}
    (ht : P.underlying t = some (.slice e)) (he : P.underlying e = some (.int .u8)) (hc : P.cellsOf e = 1) (hy : P.bytesOf e = 1) (h : DataW.Trod enc P W 0 (fun _ => true) true t (.slice a len cap) d p)
    (hsz : (DataW.weightsEach P ts ds).all (· ≤ reachBytes) = true) (hts : ts[j]? = some t) (hds : ds[j]? = some d) : ∃ l : List UInt8, len = l.length ∧ Bytes W a cap l := by
  obtain ⟨fuel, hf⟩ := h
  rcases open_ints ht he hc hf with ⟨hcs, _⟩ | ⟨x, l, c, zs, hcs, _, hl, hm, hz, hx, hcell, hwz⟩
  · simp [Value.cells] at hcs
    obtain ⟨rfl, rfl, rfl⟩ := hcs
    exact ⟨[], rfl, Bytes.none W⟩
  · simp [Value.cells] at hcs
    obtain ⟨rfl, rfl, rfl⟩ := hcs
    have hd : d = .slice (lits .u8 (zs.take len)) (lits .u8 (zs.drop len)) := congrArg Prod.fst hx
    subst hd
    have hs := sized_slice hsz hts hds ht
    simp only [lits, List.length_map, List.length_take, List.length_drop, hy, reachBytes] at hs
    simp at hz
    exact ⟨bytesOf zs len, (bytesOf_length zs len (by omega)).symm, Bytes.ofInts hl hz (fun i hi => hcell i (by omega)) hwz (by omega)⟩

end Go.Proofs.YtkopcfpghklbbaaDoor
