/- What the laws of stage 11 have in common. -/
import Derived.Test.YtghpjljnbdjmaaaGreatDoorBface
import Derived.Test.YtghpjljnbdjmaaaGreatDoorBsmall
import Derived.Test.YtghpjljnbdjmaaaGreatDoorFAt11
import Derived.Test.YtghpjljnbdjmaaaGreatDoorMade11
namespace Go.Proofs.YtghpjljnbdjmaaaGreatDoor
open Go.RowKit
set_option linter.unusedVariables false

/-- Behind 'made': both, the document's in a variable. -/
theorem Md.ls {w w1 : World} {tb V : Nat} {R : Nat → List Nat} {ad : Option Addr} {cap : Nat} (h : Bo w1 w.heap.size tb (.agg #[.int .i64 8, .slice ad V cap]) V 8 8 R) (hb : Below w.heap.size w w1) : Ls w tb w1.heap.size V 8 8 R (w1.alloc (.cells #[.int .i64 8, .slice ad V cap] 27)) := by
  have b := balloc w1 (.cells #[.int .i64 8, .slice ad V cap] 27)
  exact ⟨ad, cap, h.more b, heap_alloc_new _ _, hb.size, hb.alloc hb.size _⟩

theorem Ls.ta {w y : World} {tb g V E F : Nat} {R : Nat → List Nat} (h : Ls w tb g V E F R y) : TA y w.heap.size tb V E R := by
  obtain ⟨_, _, hbo, _⟩ := h
  exact hbo.ta
theorem Ls.bel {w y : World} {tb g V E F : Nat} {R : Nat → List Nat} (h : Ls w tb g V E F R y) : Below w.heap.size w y := by
  obtain ⟨_, _, _, _, _, hb⟩ := h
  exact hb
theorem Ls.tn {w y : World} {tb g V E F : Nat} {R : Nat → List Nat} (h : Ls w tb g V E F R y) : Tn V F R := by
  obtain ⟨_, _, hbo, _⟩ := h
  exact hbo.tn
theorem Ls.tw {w y : World} {tb g V E F : Nat} {R : Nat → List Nat} (h : Ls w tb g V E F R y) : Tw V F R := by
  obtain ⟨_, _, hbo, _⟩ := h
  exact hbo.tw
/-- The document's turns, and where they lie. -/
theorem Ls.rt {w y : World} {tb g V E F : Nat} {R : Nat → List Nat} (h : Ls w tb g V E F R y) : ∃ ad cap, RT y (.agg #[.int .i64 (F : Int), .slice ad V cap]) F V R ∧ y.cell? ⟨g, 0, none⟩ = some (.int .i64 (F : Int)) ∧ y.cell? ⟨g, 1, none⟩ = some (.slice ad V cap) := by
  obtain ⟨ad, cap, hbo, hg, _⟩ := h
  obtain ⟨c0, c1, _, _⟩ := blk2 hg
  exact ⟨ad, cap, hbo.rt, c0, c1⟩

theorem len16 {V : Nat} {R : Nat → List Nat} (h : Tn V 8 R) : ∀ u, u < V → (R u).length ≤ 1000 := fun u hu => by
  have := h.len hu
  omega

section
variable {w : World} {lo tb V E : Nat} {R : Nat → List Nat}

theorem nextv_in (h : TA w lo tb V E R) (k : Nat) (hk : In V R k) : Calls Tryz.prog 93 #[.pointer (some ⟨tb, 0, none⟩), .int .i64 (k : Int)] w fun x w' => x = .returned (.tuple #[.int .i64 (vx V R k : Int), .nilIface]) ∧ Below w.heap.size w w' := by
  obtain ⟨n, p, o, r, ho, hn, _⟩ := two_ok h (k : Int)
  have hl := hk.low h.tn
  rcases ho with ⟨_, _, _, _, q⟩ | ⟨_, _, _, _, j, e1, _, q⟩ | ⟨rfl, j, v, e1, e2, e3, rfl, _, _⟩
  · omega
  · obtain rfl : k = j := by omega
    exact absurd hk q
  · obtain rfl : k = j := by omega
    rw [vx_at h.tn e2 e3]
    exact hn w (Below.refl _ _)

theorem fnext_out (h : TA w lo tb V E R) (hw : Tw V E R) (k : Nat) (hk : ¬ In V R k) (hl : k < 2 * E) : Calls Tryz.prog 56 #[.pointer (some ⟨tb, 0, none⟩), .int .i64 (k : Int)] w fun x w' => x = .returned (.tuple #[.int .i64 0, .iface 88 (.int .i64 13)]) ∧ Below w.heap.size w w' := by
  have hE := h.hE
  obtain ⟨n, r, hf, hc⟩ := fnext_any h hw (k : Int) (by omega) (by omega)
  have hc := hc w (Below.refl _ _)
  rcases hf with ⟨_, _, q⟩ | ⟨rfl, rfl, _⟩ | ⟨_, j, e, q, _⟩
  · omega
  · exact hc
  · obtain rfl : k = j := by omega
    exact absurd q hk
end

theorem bits_nat (d : Nat) (h : d ≤ 1000000) : bits BinOp.xor IntKind.i64 (d : Int) 1 = (tw d : Int) := by rw [bits_twin _ (by omega) (by omega), twI_nat]

theorem two_at {g : Nat} {a b : Value} {y : World} (h0 : y.cell? ⟨g, 0, none⟩ = some a) (h1 : y.cell? ⟨g, 1, none⟩ = some b) : ∀ z, Below y.heap.size y z → z.cell? ⟨g, 0, none⟩ = some a ∧ z.cell? ⟨g, 1, none⟩ = some b := fun z hz =>
  ⟨(hz.cell (World.block_lt_of_cell? _ _ h0)).trans h0, (hz.cell (World.block_lt_of_cell? _ _ h1)).trans h1⟩

end Go.Proofs.YtghpjljnbdjmaaaGreatDoor
