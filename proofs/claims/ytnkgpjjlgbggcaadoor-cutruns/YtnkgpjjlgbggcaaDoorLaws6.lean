/- What the laws ask of a Forest whatever was done to it; a row of values; 'grown', walked. -/
import Derived.Test.YtnkgpjjlgbggcaaDoorSure6
import Derived.Test.YtnkgpjjlgbggcaaDoorOpen6
namespace Go.Proofs.YtnkgpjjlgbggcaaDoor
open Go.RowKit
set_option linter.unusedVariables false

theorem mod_inN (z : Int) (C : Nat) (h1 : 1 ≤ C) (h2 : C ≤ 1048576) : ∃ a : Nat, wrap64 ((IntKind.u64.wrap z).tmod (C : Int)) = (a : Int) ∧ a < C := by
  have e : (IntKind.u64.wrap z).tmod (C : Int) = z % 18446744073709551616 % (C : Int) := by
    rw [IntKind.wrap_u64, Int.tmod_eq_emod_of_nonneg (by omega)]
  have g1 : 0 ≤ z % 18446744073709551616 % (C : Int) := Int.emod_nonneg _ (by omega)
  have g2 : z % 18446744073709551616 % (C : Int) < C := Int.emod_lt_of_pos _ (by omega)
  rw [e]
  generalize z % 18446744073709551616 % (C : Int) = r at g1 g2
  refine ⟨r.toNat, ?_, by omega⟩
  rw [IntWalk.wrap64_in r ⟨by omega, by omega⟩]
  omega

theorem mod_up (n M : Int) (h1 : 1 ≤ M) (h2 : M ≤ 1000000) : ∃ K : Nat, wrap64 (1 + wrap64 ((IntKind.u64.wrap n).tmod M)) = (K : Int) ∧ 1 ≤ K ∧ (K : Int) ≤ M := by
  have e : (IntKind.u64.wrap n).tmod M = n % 18446744073709551616 % M := by
    rw [IntKind.wrap_u64, Int.tmod_eq_emod_of_nonneg (by omega)]
  have g1 : 0 ≤ n % 18446744073709551616 % M := Int.emod_nonneg _ (by omega)
  have g2 : n % 18446744073709551616 % M < M := Int.emod_lt_of_pos _ (by omega)
  rw [e]
  generalize n % 18446744073709551616 % M = r at g1 g2
  refine ⟨(1 + r).toNat, ?_, by omega, by omega⟩
  have w1 : wrap64 r = r := IntWalk.wrap64_in r ⟨by omega, by omega⟩
  have w2 : wrap64 (1 + r) = 1 + r := IntWalk.wrap64_in _ ⟨by omega, by omega⟩
  rw [w1, w2]
  omega

theorem mod_inM (z : Int) (C : Nat) (h1 : 1 ≤ C) (h2 : C ≤ 1000000000) : ∃ a : Nat, wrap64 ((IntKind.u64.wrap z).tmod (C : Int)) = (a : Int) ∧ a < C := by
  have e : (IntKind.u64.wrap z).tmod (C : Int) = z % 18446744073709551616 % (C : Int) := by
    rw [IntKind.wrap_u64, Int.tmod_eq_emod_of_nonneg (by omega)]
  have g1 : 0 ≤ z % 18446744073709551616 % (C : Int) := Int.emod_nonneg _ (by omega)
  have g2 : z % 18446744073709551616 % (C : Int) < C := Int.emod_lt_of_pos _ (by omega)
  rw [e]
  generalize z % 18446744073709551616 % (C : Int) = r at g1 g2
  refine ⟨r.toNat, ?_, by omega⟩
  rw [IntWalk.wrap64_in r ⟨by omega, by omega⟩]
  omega

theorem mod_up2 (n M : Int) (h1 : 1 ≤ M) (h2 : M ≤ 1000000) : ∃ K : Nat, wrap64 (2 + wrap64 ((IntKind.u64.wrap n).tmod M)) = (K : Int) ∧ 2 ≤ K ∧ (K : Int) ≤ M + 1 := by
  have e : (IntKind.u64.wrap n).tmod M = n % 18446744073709551616 % M := by
    rw [IntKind.wrap_u64, Int.tmod_eq_emod_of_nonneg (by omega)]
  have g1 : 0 ≤ n % 18446744073709551616 % M := Int.emod_nonneg _ (by omega)
  have g2 : n % 18446744073709551616 % M < M := Int.emod_lt_of_pos _ (by omega)
  rw [e]
  generalize n % 18446744073709551616 % M = r at g1 g2
  refine ⟨(2 + r).toNat, ?_, by omega, by omega⟩
  have w1 : wrap64 r = r := IntWalk.wrap64_in r ⟨by omega, by omega⟩
  have w2 : wrap64 (2 + r) = 2 + r := IntWalk.wrap64_in _ ⟨by omega, by omega⟩
  rw [w1, w2]
  omega

/-- Numbers of 64 bits. -/
def Rng (v : Nat → Int) : Prop := ∀ z, -9223372036854775808 ≤ v z ∧ v z ≤ 9223372036854775807
theorem rng_zero : Rng zero := fun z => by simp [zero]
theorem rng_set {v : Nat → Int} {x : Nat} {z : Int} (h : Rng v) (hz : -9223372036854775808 ≤ z ∧ z ≤ 9223372036854775807) : Rng (setV v x z) := fun y => by
  unfold setV; split
  · exact hz
  · exact h y
theorem Rng.in64 {v : Nat → Int} (h : Rng v) (l : List Nat) : In64 v l := fun z _ => h z

section
variable {lo fb n : Nat} {w w0 : World} {v : Nat → Int} {adj : Nat → Nat → Prop}

theorem FS.linkAny (h : FS lo w fb n v adj w0) (x y : Nat) (hx : x < n) (hy : y < n) :
    Calls Tryd.prog 7 #[.pointer (some ⟨fb, 0, none⟩), .int .i64 (x : Int), .int .i64 (y : Int)] w0 fun e w' => ∃ r, e = .returned r ∧ (∃ adj', FS lo w fb n v adj' w') ∧ Keep w0 w' := by
  by_cases hl : ∃ l, Rd adj (x + 1) (y + 1) l
  · obtain ⟨l, hl⟩ := hl
    exact (h.link_same x y hx hy l hl).mono (fun e w' h => ⟨_, h.1, ⟨_, h.2.1⟩, h.2.2⟩)
  · exact (h.link x y hx hy (fun l e => hl ⟨l, e⟩)).mono (fun e w' h => ⟨_, h.1, ⟨_, h.2.1⟩, h.2.2⟩)

theorem FS.cutAny (h : FS lo w fb n v adj w0) (x y : Nat) (hx : x < n) (hy : y < n) :
    Calls Tryd.prog 8 #[.pointer (some ⟨fb, 0, none⟩), .int .i64 (x : Int), .int .i64 (y : Int)] w0 fun e w' => ∃ r, e = .returned r ∧ (∃ adj', FS lo w fb n v adj' w') ∧ Keep w0 w' := by
  by_cases ha : adj (x + 1) (y + 1)
  · exact (h.cut x y hx hy ha).mono (fun e w' h => ⟨_, h.1, ⟨_, h.2.1⟩, h.2.2⟩)
  · exact (h.cutN x y hx hy ha).mono (fun e w' h => ⟨_, h.1, ⟨_, h.2.1⟩, h.2.2⟩)

/-- A store elsewhere. -/
theorem FS.other (h : FS lo w fb n v adj w0) {b : Nat} {cs : Array Value} {t : TypeId} {fr : Nat × Nat} (hb : w0.heap[b]? = some (.cells cs t fr)) (h1 : t ≠ 49) (h2 : t ≠ 53) (hlo : lo ≤ b) (o : Nat) (u : Value) : FS lo w fb n v adj (w0.setCell ⟨b, o, none⟩ u) := by
  obtain ⟨nb, N, T, sub, seq, pp, par, f1, f2, f3, f4, f5⟩ := h.st
  have ht : Turned (fun k => k = b) w0 (w0.setCell ⟨b, o, none⟩ u) := (Turned.refl (fun k => k = b) w0).setCell (p := ⟨b, o, none⟩) rfl u
  have e1 : ¬ fb = b := fun e => by
    have := f1.self
    rw [e, hb] at this
    injection this with this
    injection this with _ this
    exact h2 this
  have e2 : ¬ nb = b := fun e => by
    have := f1.nodes
    rw [e, hb] at this
    injection this with this
    injection this with _ this
    exact h1 this
  exact ⟨⟨nb, N, T, sub, seq, pp, par, f1.of ht e1 e2, f2, f3, f4, f5⟩, h.flo, h.below.setCell (p := ⟨b, o, none⟩) hlo u, h.n1, h.n2, h.lw⟩
end

/-- The values of the nodes as a row of their own. -/
def vals (v : Nat → Int) (K : Nat) : List Value := (List.range K).map (fun i => Value.int .i64 (v (i + 1)))
def VB (w : World) (b K : Nat) (v : Nat → Int) : Prop := w.heap[b]? = some (.cells (vals v K).toArray 2 (0, 0))

theorem VB.keep {w w' : World} {b K : Nat} {v : Nat → Int} (h : VB w b K v) (k : Keep w w') : VB w' b K v := k b _ _ _ h (by decide) (by decide)
theorem VB.more {w w' : World} {b K : Nat} {v : Nat → Int} (h : VB w b K v) (hb : Below w.heap.size w w') : VB w' b K v := h.keep (Keep.ofBelow hb)
theorem VB.cell {w : World} {b K : Nat} {v : Nat → Int} (h : VB w b K v) (d : Nat) (hd : d < K) : w.cell? ⟨b, d, none⟩ = some (.int .i64 (v (d + 1))) := by
  unfold World.cell?
  rw [show w.heap[b]? = _ from h]
  simp [vals, hd]
theorem VB.fro {w : World} {b K : Nat} {v : Nat → Int} (h : VB w b K v) (d : Nat) : w.frozen? ⟨b, d, none⟩ = false := by
  unfold World.frozen?
  rw [show w.heap[b]? = _ from h]
  simp
theorem vals_set (v : Nat → Int) (K a : Nat) (z : Int) : (vals v K).set a (.int .i64 z) = vals (setV v (a + 1) z) K := by
  apply List.ext_getElem?
  intro i
  unfold vals
  rw [List.getElem?_set]
  by_cases e : a = i
  · subst e
    by_cases h : a < K
    · simp [h, setV]
    · simp [h]
  · rw [if_neg e]
    rw [List.getElem?_map, List.getElem?_map]
    by_cases h : i < K
    · rw [List.getElem?_range h]
      simp [setV, Ne.symm e]
    · rw [List.getElem?_eq_none (by simp; omega)]
      rfl
theorem VB.set {w : World} {b K : Nat} {v : Nat → Int} (h : VB w b K v) (a : Nat) (z : Int) : VB (w.setCell ⟨b, a, none⟩ (.int .i64 z)) b K (setV v (a + 1) z) := by
  unfold VB World.setCell
  rw [Array.getElem?_modify, if_pos rfl, show w.heap[b]? = _ from h]
  simp only [Option.map_some, Option.some.injEq]
  rw [← vals_set]
  simp

end Go.Proofs.YtnkgpjjlgbggcaaDoor
