/- Slices of whole numbers, and of such slices, to be read. -/
import Derived.Test.YtboafgimjadboaaGreatDoorBmem
import Derived.ProofKit
import Derived.OpenShut
import Derived.Deep.Matrix
namespace Go.Proofs.YtboafgimjadboaaGreatDoor
open Go.ChangeShapes Go.WideShapes Go.ChangeAt Go.RowKit Go.Deep
set_option linter.unusedVariables false

structure Sl (w : World) (ad : Option Addr) (n : Nat) (zs : List Int) : Prop where
  len : zs.length = n
  big : n ≤ 9223372036854775807
  cell : ∀ j z, zs[j]? = some z → ∃ b o, ad = some ⟨b, o, none⟩ ∧ w.cell? ⟨b, o + j, none⟩ = some (.int .i64 z)

theorem Sl.below {w w' : World} {ad : Option Addr} {n : Nat} {zs : List Int} (h : Sl w ad n zs) (hb : Below w.heap.size w w') : Sl w' ad n zs :=
  ⟨h.len, h.big, fun j z hz => by
    obtain ⟨b, o, h1, h2⟩ := h.cell j z hz
    exact ⟨b, o, h1, (hb.cell (World.block_lt_of_cell? w _ h2)).trans h2⟩⟩

def IV (w : World) (v : Value) (zs : List Int) : Prop := ∃ ad n cap, v = .slice ad n cap ∧ Sl w ad n zs

theorem IV.below {w w' : World} {v : Value} {zs : List Int} (h : IV w v zs) (hb : Below w.heap.size w w') : IV w' v zs := by
  obtain ⟨ad, n, cap, h1, h2⟩ := h
  exact ⟨ad, n, cap, h1, h2.below hb⟩

structure Sr (w : World) (ad : Option Addr) (n : Nat) (ls : List (List Int)) : Prop where
  len : ls.length = n
  big : n ≤ 9223372036854775807
  cell : ∀ i l, ls[i]? = some l → ∃ b o u, ad = some ⟨b, o, none⟩ ∧ w.cell? ⟨b, o + i, none⟩ = some u ∧ IV w u l

theorem Sr.below {w w' : World} {ad : Option Addr} {n : Nat} {ls : List (List Int)} (h : Sr w ad n ls) (hb : Below w.heap.size w w') : Sr w' ad n ls :=
  ⟨h.len, h.big, fun j z hz => by
    obtain ⟨b, o, u, h1, h2, h3⟩ := h.cell j z hz
    exact ⟨b, o, u, h1, (hb.cell (World.block_lt_of_cell? w _ h2)).trans h2, h3.below hb⟩⟩

def RV (w : World) (v : Value) (ls : List (List Int)) : Prop := ∃ ad n cap, v = .slice ad n cap ∧ Sr w ad n ls

theorem RV.below {w w' : World} {v : Value} {ls : List (List Int)} (h : RV w v ls) (hb : Below w.heap.size w w') : RV w' v ls := by
  obtain ⟨ad, n, cap, h1, h2⟩ := h
  exact ⟨ad, n, cap, h1, h2.below hb⟩

theorem add_plain (b o j : Nat) : (⟨b, o, none⟩ : Addr).add j = ⟨b, o + j, none⟩ := by unfold Addr.add; split <;> simp_all

theorem sl_of {w : World} {x : Addr} {n : Nat} {zs : List Int} (hl : zs.length = n) (hb : n ≤ 9223372036854775807) (hc : ∀ j z, zs[j]? = some z → w.cell? (x.add j) = some (.int .i64 z)) : Sl w (some x) n zs := by
  refine ⟨hl, hb, fun j z hz => ?_⟩
  have h1 := hc j z hz
  have hjl := (List.getElem?_eq_some_iff.1 hz).1
  have h0 := hc 0 _ (List.getElem?_eq_getElem (by omega))
  obtain ⟨b, o, s⟩ := x
  have hs : s = none := by simpa [Addr.add] using World.cell?_spot h0
  subst hs
  rw [add_plain] at h1
  exact ⟨b, o, rfl, h1⟩

theorem open_iv {H : Type} {enc : TypeId × Value → H} {P : Program} {W : World} {t e : TypeId} {a : Option Addr} {len cap : Nat} {d : DataW H} {p : List MemPlace}
    (ht : P.underlying t = some (.slice e)) (he : P.underlying e = some (.int .i64)) (hc : P.cellsOf e = 1) (h : DataW.Trod enc P W 0 (fun _ => true) true t (.slice a len cap) d p) :
    ∃ l : List Int, IV W (.slice a len cap) l := by
  obtain ⟨fuel, hf⟩ := h
  rcases open_ints ht he hc hf with ⟨hcs, _⟩ | ⟨x, l, c, zs, hcs, _, hl, hm, hz, hx, hcell, hwz⟩
  · simp [Value.cells] at hcs
    obtain ⟨rfl, rfl, rfl⟩ := hcs
    exact ⟨[], none, 0, 0, rfl, rfl, by omega, fun j z hz => by simp at hz⟩
  · simp [Value.cells] at hcs
    obtain ⟨rfl, rfl, rfl⟩ := hcs
    simp at hz
    refine ⟨zs.take len, some x, len, cap, rfl, sl_of (by simp; omega) (by simp [maxLen] at *; omega) (fun j z hj => ?_)⟩
    rw [List.getElem?_take] at hj
    split at hj
    · have hjl := (List.getElem?_eq_some_iff.1 hj).1
      rw [hcell j hjl, List.getD_eq_getElem?_getD, hj]
      rfl
    · cases hj

theorem open_rv {H : Type} {enc : TypeId × Value → H} {P : Program} {W : World} {t e q : TypeId} {a : Option Addr} {len cap : Nat} {d : DataW H} {p : List MemPlace}
    (ht : P.underlying t = some (.slice e)) (he : P.underlying e = some (.slice q)) (hq : P.underlying q = some (.int .i64)) (ce : P.cellsOf e = 1) (cq : P.cellsOf q = 1) (h : DataW.Trod enc P W 0 (fun _ => true) true t (.slice a len cap) d p) :
    ∃ ls : List (List Int), RV W (.slice a len cap) ls := by
  obtain ⟨fuel, hf⟩ := h
  rcases open_int_rows ht he hq ce cq hf with ⟨hcs, _⟩ | ⟨x, l, c, A, N, C, Z, hcs, _, hl, hm, hx, hrow⟩
  · simp [Value.cells] at hcs
    obtain ⟨rfl, rfl, rfl⟩ := hcs
    exact ⟨[], none, 0, 0, rfl, rfl, by omega, fun j z hz => by simp at hz⟩
  · simp [Value.cells] at hcs
    obtain ⟨rfl, rfl, rfl⟩ := hcs
    refine ⟨(List.range len).map (fun r => (Z r).take (N r)), some x, len, cap, rfl, by simp, by simp [maxLen] at *; omega, fun i l hi => ?_⟩
    have hil : i < len := by have := (List.getElem?_eq_some_iff.1 hi).1; simpa using this
    obtain ⟨h1, h2, h3, h4, _, h6, h7⟩ := hrow i (by omega)
    have h0 := (hrow 0 (by omega)).1
    obtain ⟨b, o, s⟩ := x
    have hs : s = none := by simpa [Addr.add] using World.cell?_spot h0
    subst hs
    rw [add_plain] at h1
    refine ⟨b, o, _, rfl, h1, ?_⟩
    simp [hil] at hi
    subst hi
    have hbig : N i ≤ 9223372036854775807 := by unfold maxLen at h3; omega
    cases hA : A i with
    | none =>
      have h0 := h6 hA
      have hn : N i = 0 := by omega
      exact ⟨none, N i, C i, rfl, by simp; omega, hbig, fun j z hz => by rw [hn] at hz; simp at hz⟩
    | some a' =>
      refine ⟨some a', N i, C i, rfl, sl_of (by simp; omega) hbig (fun j z hj => ?_)⟩
      rw [List.getElem?_take] at hj
      split at hj
      · have hjl := (List.getElem?_eq_some_iff.1 hj).1
        rw [(h7 a' hA).2 j (by omega), List.getD_eq_getElem?_getD, hj]
        rfl
      · cases hj

/-- Numbers from 0 on are such. -/
theorem NL.iv {w : World} {v : Value} {l : List Nat} (h : NL w v l) : IV w v (l.map (fun x : Nat => (x : Int))) := by
  obtain ⟨ad, n, cap, rfl, h1, h2, h3, h4⟩ := h
  unfold maxLen at h3
  refine ⟨ad, n, cap, rfl, by simpa using h1, by omega, fun j z hz => ?_⟩
  rw [List.getElem?_map, Option.map_eq_some_iff] at hz
  obtain ⟨x, hx, rfl⟩ := hz
  exact h4 j x hx

end Go.Proofs.YtboafgimjadboaaGreatDoor
