/- The values' row of the laws. -/
import Derived.Test.YtpelpcplagfdiaaDoorFirst4
import Derived.Test.YtpelpcplagfdiaaDoorRfind4
import Derived.Test.YtpelpcplagfdiaaDoorNew4
import Derived.Test.YtpelpcplagfdiaaDoorLaws4
namespace Go.Proofs.YtpelpcplagfdiaaDoor
open Go.RowKit
set_option linter.unusedVariables false

def Rng (v : Nat → Int) : Prop := ∀ z, -9223372036854775808 ≤ v z ∧ v z ≤ 9223372036854775807
theorem rng_zero : Rng zero := fun z => by simp [zero]
theorem rng_set {v : Nat → Int} {x : Nat} {z : Int} (h : Rng v) (hz : -9223372036854775808 ≤ z ∧ z ≤ 9223372036854775807) : Rng (setV v x z) := fun y => by
  unfold setV; split
  · exact hz
  · exact h y
theorem Rng.in64 {v : Nat → Int} (h : Rng v) (l : List Nat) : In64 v l := fun z _ => h z

/-- The values of the nodes as a row of their own. -/
def vals (v : Nat → Int) (K : Nat) : List Value := (List.range K).map (fun i => Value.int .i64 (v (i + 1)))
def VB (w : World) (b K : Nat) (v : Nat → Int) : Prop := w.heap[b]? = some (.cells (vals v K).toArray 2 (0, 0))

theorem VB.keep {w w' : World} {b K : Nat} {v : Nat → Int} (h : VB w b K v) (k : Keep w w') : VB w' b K v := k b _ _ _ h (by decide) (by decide)
theorem VB.more {w w' : World} {b K : Nat} {v : Nat → Int} (h : VB w b K v) (hb : Below w.heap.size w w') : VB w' b K v := h.keep (Keep.ofBelow hb)
theorem VB.cell {w : World} {b K : Nat} {v : Nat → Int} (h : VB w b K v) (d : Nat) (hd : d < K) : w.cell? ⟨b, d, none⟩ = some (.int .i64 (v (d + 1))) := by
  unfold World.cell?
  rw [show w.heap[b]? = _ from h]
  simp [vals, hd]
theorem VB.fro {w : World} {b K : Nat} {v : Nat → Int} (h : VB w b K v) (d : Nat) : w.frozen? ⟨b, d, none⟩ = false := by
  unfold World.frozen?
  rw [show w.heap[b]? = _ from h]
  simp
theorem vals_set (v : Nat → Int) (K a : Nat) (z : Int) : (vals v K).set a (.int .i64 z) = vals (setV v (a + 1) z) K := by
  apply List.ext_getElem?
  intro i
  unfold vals
  rw [List.getElem?_set]
  by_cases e : a = i
  · subst e
    by_cases h : a < K
    · simp [h, setV]
    · simp [h]
  · rw [if_neg e]
    rw [List.getElem?_map, List.getElem?_map]
    by_cases h : i < K
    · rw [List.getElem?_range h]
      simp [setV, Ne.symm e]
    · rw [List.getElem?_eq_none (by simp; omega)]
      rfl
theorem VB.set {w : World} {b K : Nat} {v : Nat → Int} (h : VB w b K v) (a : Nat) (z : Int) : VB (w.setCell ⟨b, a, none⟩ (.int .i64 z)) b K (setV v (a + 1) z) := by
  unfold VB World.setCell
  rw [Array.getElem?_modify, if_pos rfl, show w.heap[b]? = _ from h]
  simp only [Option.map_some, Option.some.injEq]
  rw [← vals_set]
  simp

theorem first_one {v : Nat → Int} {W : Int} : ∀ {A A' B B' : List Nat} {p q : Nat}, A ++ p :: B = A' ++ q :: B' → v p = W → v q = W → (∀ z, z ∈ A → v z ≠ W) → (∀ z, z ∈ A' → v z ≠ W) → p = q
  | [], [], _, _, _, _, h, _, _, _, _ => by simp at h; exact h.1
  | [], a :: A', _, _, p, _, h, hp, _, _, hA => by simp at h; exact absurd hp (h.1 ▸ hA a List.mem_cons_self)
  | a :: A, [], _, _, _, q, h, _, hq, hA, _ => by simp at h; exact absurd hq (h.1 ▸ hA a List.mem_cons_self)
  | a :: A, a' :: A', _, _, _, _, h, hp, hq, hA, hA' => by
    simp at h
    exact first_one h.2 hp hq (fun z hz => hA z (List.mem_cons_of_mem _ hz)) (fun z hz => hA' z (List.mem_cons_of_mem _ hz))

theorem least_one {v : Nat → Int} {l : List Nat} (hr : In64 v l) {d e : Nat} (h : ∃ A B, l = A ++ (d + 1) :: B ∧ v (d + 1) = lowV v l ∧ ∀ z, z ∈ A → v z ≠ lowV v l) (k : Fst v l (e + 1)) : d = e := by
  obtain ⟨A, B, h1, h2, h3⟩ := h
  obtain ⟨A', B', k1, k2, k3⟩ := k
  have hm : e + 1 ∈ l := by rw [k1]; simp
  obtain ⟨z, hz, hzv⟩ := lowV_att v l (by rw [k1]; simp) hr
  have hle : v (e + 1) ≤ v z := by
    rw [k1] at hz
    rcases List.mem_append.1 hz with hz | hz
    · have := k2 z hz; omega
    · rcases List.mem_cons.1 hz with rfl | hz
      · omega
      · exact k3 z hz
  have hge := lowV_mem v l (e + 1) hm
  have he : v (e + 1) = lowV v l := by omega
  have := first_one (h1.symm.trans k1) h2 he h3 (fun z hz => by have := k2 z hz; omega)
  omega

theorem most_one {v : Nat → Int} {l : List Nat} (hr : In64 v l) {d e : Nat} (h : ∃ A B, l = A ++ (d + 1) :: B ∧ v (d + 1) = highV v l ∧ ∀ z, z ∈ A → v z ≠ highV v l) (k : Fst (fun z => -(v z)) l (e + 1)) : d = e := by
  obtain ⟨A, B, h1, h2, h3⟩ := h
  obtain ⟨A', B', k1, k2, k3⟩ := k
  have hm : e + 1 ∈ l := by rw [k1]; simp
  obtain ⟨z, hz, hzv⟩ := highV_att v l (by rw [k1]; simp) hr
  have hle : v z ≤ v (e + 1) := by
    rw [k1] at hz
    rcases List.mem_append.1 hz with hz | hz
    · have : -(v (e + 1)) < -(v z) := k2 z hz
      omega
    · rcases List.mem_cons.1 hz with rfl | hz
      · omega
      · have : -(v (e + 1)) ≤ -(v z) := k3 z hz
        omega
  have hge := highV_mem v l (e + 1) hm
  have he : v (e + 1) = highV v l := by omega
  have := first_one (h1.symm.trans k1) h2 he h3 (fun z hz => by have : -(v (e + 1)) < -(v z) := k2 z hz; omega)
  omega

theorem infoI64 : (Tryd.prog.info? 2).map (fun i => (i.zero, i.size, i.bytes)) = some (some (.int .i64 0), 1, 8) := by kernel_rfl

theorem vb_new (w : World) (K : Nat) : VB (w.alloc (.cells (Array.replicate K (.int .i64 0)) 2)) w.heap.size K zero := by
  unfold VB
  rw [heap_alloc_new]
  congr 2
  apply Array.ext
  · simp [vals]
  · intro j h1 h2
    simp [vals, zero]

set_option maxRecDepth 100000 in
theorem make_vals (M : Nat) (hM : M ≤ 8388700) (w : World) :
    (Instr.makeSlice 31 (.int .i64 (M : Int)) (.int .i64 (M : Int))).run Tryd.prog w = .ok (.slice (some ⟨w.heap.size, 0, none⟩) M M) (w.alloc (.cells (Array.replicate M (.int .i64 0)) 2)) := by
  obtain ⟨i0, hi, hz0, hz1, hz2⟩ := info_parts infoI64
  have h := run_make (P := Tryd.prog) w 31 2 i0 _ Tryd.underlying31 hi hz0 .i64 .i64 M M (by omega) (Int.le_refl _) (by rw [hz2]; omega) (by omega)
  rw [h]
  simp only [Int.toNat_natCast, hz1]
  congr 3
  apply Array.ext
  · simp [madeCells]
  · intro j h1 h2
    simp [madeCells, Value.cells, Nat.mod_one]

theorem FS.other {lo fb n : Nat} {w w0 : World} {v : Nat → Int} {seq : Nat → List Nat} (h : FS lo w fb n v seq w0) {b : Nat} {cs : Array Value} {t : TypeId} {fr : Nat × Nat} (hb : w0.heap[b]? = some (.cells cs t fr)) (h1 : t ≠ 53) (h2 : t ≠ 57) (hlo : lo ≤ b) (o : Nat) (u : Value) : FS lo w fb n v seq (w0.setCell ⟨b, o, none⟩ u) := by
  obtain ⟨nb, N, T, sub, f1, f2, f3, f4⟩ := h.st
  have ht : Turned (fun k => k = b) w0 (w0.setCell ⟨b, o, none⟩ u) := (Turned.refl (fun k => k = b) w0).setCell (p := ⟨b, o, none⟩) rfl u
  have e1 : ¬ fb = b := fun e => by
    have := f1.self
    rw [e, hb] at this
    injection this with this
    injection this with _ this
    exact h2 this
  have e2 : ¬ nb = b := fun e => by
    have := f1.nodes
    rw [e, hb] at this
    injection this with this
    injection this with _ this
    exact h1 this
  exact ⟨⟨nb, N, T, sub, f1.of ht e1 e2, f2, f3, f4⟩, h.flo, h.below.setCell (p := ⟨b, o, none⟩) hlo u, h.n1, h.n2, h.lw⟩

theorem VB.vr {w : World} {b K : Nat} {v : Nat → Int} (h : VB w b K v) : Vr w b K v := fun d hd => h.cell d hd

end Go.Proofs.YtpelpcplagfdiaaDoor
