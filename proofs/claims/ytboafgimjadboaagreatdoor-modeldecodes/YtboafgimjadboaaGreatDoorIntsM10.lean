/- Slices of whole numbers, and of such slices, to be read. -/
import Derived.Test.YtboafgimjadboaaGreatDoorBmem
import Derived.ProofKit
import Derived.OpenShut
import Derived.Deep.Matrix
namespace Go.Proofs.YtboafgimjadboaaGreatDoor
open Go.ChangeShapes Go.WideShapes Go.ChangeAt Go.RowKit Go.Deep
set_option linter.unusedVariables false

structure Sl (w : World) (ad : Option Addr) (n : Nat) (zs : List Int) : Prop where
  len : zs.length = n
  big : n ≤ 9223372036854775807
  cell : ∀ j z, zs[j]? = some z → ∃ b o, ad = some ⟨b, o, none⟩ ∧ w.cell? ⟨b, o + j, none⟩ = some (.int .i64 z)

theorem Sl.below {w w' : World} {ad : Option Addr} {n : Nat} {zs : List Int} (h : Sl w ad n zs) (hb : Below w.heap.size w w') : Sl w' ad n zs :=
  ⟨h.len, h.big, fun j z hz => by
    obtain ⟨b, o, h1, h2⟩ := h.cell j z hz
    exact ⟨b, o, h1, (hb.cell (World.block_lt_of_cell? w _ h2)).trans h2⟩⟩

def IV (w : World) (v : Value) (zs : List Int) : Prop := ∃ ad n cap, v = .slice ad n cap ∧ Sl w ad n zs

theorem IV.below {w w' : World} {v : Value} {zs : List Int} (h : IV w v zs) (hb : Below w.heap.size w w') : IV w' v zs := by
  obtain ⟨ad, n, cap, h1, h2⟩ := h
  exact ⟨ad, n, cap, h1, h2.below hb⟩

structure Sr (w : World) (ad : Option Addr) (n : Nat) (ls : List (List Int)) : Prop where
  len : ls.length = n
  big : n ≤ 9223372036854775807
  cell : ∀ i l, ls[i]? = some l → ∃ b o u, ad = some ⟨b, o, none⟩ ∧ w.cell? ⟨b, o + i, none⟩ = some u ∧ IV w u l

theorem Sr.below {w w' : World} {ad : Option Addr} {n : Nat} {ls : List (List Int)} (h : Sr w ad n ls) (hb : Below w.heap.size w w') : Sr w' ad n ls :=
  ⟨h.len, h.big, fun j z hz => by
    obtain ⟨b, o, u, h1, h2, h3⟩ := h.cell j z hz
    exact ⟨b, o, u, h1, (hb.cell (World.block_lt_of_cell? w _ h2)).trans h2, h3.below hb⟩⟩

def RV (w : World) (v : Value) (ls : List (List Int)) : Prop := ∃ ad n cap, v = .slice ad n cap ∧ Sr w ad n ls

theorem RV.below {w w' : World} {v : Value} {ls : List (List Int)} (h : RV w v ls) (hb : Below w.heap.size w w') : RV w' v ls := by
  obtain ⟨ad, n, cap, h1, h2⟩ := h
  exact ⟨ad, n, cap, h1, h2.below hb⟩

theorem add_plain (b o j : Nat) : (⟨b, o, none⟩ : Addr).add j = ⟨b, o + j, none⟩ := by unfold Addr.add; split <;> simp_all

/-- Numbers from 0 on are such. -/
theorem NL.iv {w : World} {v : Value} {l : List Nat} (h : NL w v l) : IV w v (l.map (fun x : Nat => (x : Int))) := by
  obtain ⟨ad, n, cap, rfl, h1, h2, h3, h4⟩ := h
  unfold maxLen at h3
  refine ⟨ad, n, cap, rfl, by simpa using h1, by omega, fun j z hz => ?_⟩
  rw [List.getElem?_map, Option.map_eq_some_iff] at hz
  obtain ⟨x, hx, rfl⟩ := hz
  exact h4 j x hx

end Go.Proofs.YtboafgimjadboaaGreatDoor
