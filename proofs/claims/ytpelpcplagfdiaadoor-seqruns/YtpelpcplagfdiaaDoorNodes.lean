/- The nodes in memory; what a call may have turned. -/
import Derived.WalkKit
import Derived.WalkSpells
import Derived.WalkLawsBesides
import Derived.Test.YtpelpcplagfdiaaDoorSplay
namespace Go.Proofs.YtpelpcplagfdiaaDoor
open Go.RowKit

theorem hid {p : Prop} (h : p) : Hid p := h

/-- Outside the blocks of S all is as it was; new blocks may have come. -/
structure Turned (S : Nat → Prop) (w w' : World) : Prop where
  os : w'.os = w.os
  tape : w'.tape = w.tape
  output : w'.output = w.output
  size : w.heap.size ≤ w'.heap.size
  block : ∀ k, k < w.heap.size → ¬ S k → w'.heap[k]? = w.heap[k]?

theorem Turned.refl (S : Nat → Prop) (w : World) : Turned S w w := ⟨rfl, rfl, rfl, Nat.le_refl _, fun _ _ _ => rfl⟩

theorem Turned.trans {S : Nat → Prop} {a b c : World} (h : Turned S a b) (k : Turned S b c) : Turned S a c :=
  ⟨k.os.trans h.os, k.tape.trans h.tape, k.output.trans h.output, Nat.le_trans h.size k.size, fun i hi h1 => (k.block i (Nat.lt_of_lt_of_le hi h.size) h1).trans (h.block i hi h1)⟩

/-- What came new in the meantime may turn too. -/
theorem Turned.then {S S' : Nat → Prop} {a b c : World} (h : Turned S a b) (k : Turned S' b c) (hs : ∀ i, i < a.heap.size → S' i → S i) : Turned S a c :=
  ⟨k.os.trans h.os, k.tape.trans h.tape, k.output.trans h.output, Nat.le_trans h.size k.size, fun i hi h1 => (k.block i (Nat.lt_of_lt_of_le hi h.size) (fun e => h1 (hs i hi e))).trans (h.block i hi h1)⟩

theorem Turned.mono {S S' : Nat → Prop} {w w' : World} (h : Turned S w w') (hs : ∀ k, S k → S' k) : Turned S' w w' :=
  ⟨h.os, h.tape, h.output, h.size, fun k hk ho => h.block k hk (fun e => ho (hs k e))⟩

theorem Turned.ofBelow {w w' : World} (h : Below w.heap.size w w') (S : Nat → Prop) : Turned S w w' := ⟨h.os, h.tape, h.output, h.size, fun k hk _ => h.block k hk⟩

theorem Turned.below {S : Nat → Prop} {B : Nat} {w w' : World} (h : Turned S w w') (h1 : ∀ k, S k → B ≤ k) (h2 : B ≤ w.heap.size) : Below B w w' :=
  ⟨h.os, h.tape, h.output, h.size, fun k hk => h.block k (by omega) (fun e => by have := h1 k e; omega)⟩

theorem Turned.drew {S : Nat → Prop} {a w : World} (h : Turned S a w) : Turned S a w.drew := ⟨h.os, h.tape, h.output, h.size, h.block⟩

theorem Turned.setCell {S : Nat → Prop} {a w : World} (h : Turned S a w) {p : Addr} (hp : S p.block) (u : Value) : Turned S a (w.setCell p u) :=
  h.trans ⟨rfl, rfl, rfl, by simp [World.setCell], fun k hk ho => Below.heap_setCell _ _ _ _ (fun e => ho (e ▸ hp))⟩

theorem Turned.alloc {S : Nat → Prop} {a w : World} (h : Turned S a w) (o : Obj) : Turned S a (w.alloc o) :=
  h.trans ⟨rfl, rfl, rfl, by simp, fun k hk _ => Below.heap_alloc _ _ _ hk⟩

theorem Turned.cell {S : Nat → Prop} {w w' : World} (h : Turned S w w') {p : Addr} {v : Value} (hc : w.cell? p = some v) (ho : ¬ S p.block) : w'.cell? p = some v :=
  (World.cell?_of_block (h.block p.block (World.block_lt_of_cell? w p hc) ho)).trans hc

/-- A node's cells. -/
def nc (n : Nd) : List Value := [.int .i64 n.v, .int .i64 n.s, .int .i64 n.lo, .int .i64 n.hi, .int .i32 n.rest, .int .i32 (n.up : Int), .int .i32 (n.l : Int), .int .i32 (n.r : Int), .bool n.t]

def flat (T : Tb) : Nat → List Value
  | 0 => []
  | N + 1 => flat T N ++ nc (T N)

theorem flat_length (T : Tb) : ∀ N, (flat T N).length = N * 9
  | 0 => rfl
  | N + 1 => by simp [flat, flat_length T N, nc]; omega

theorem flat_congr {T T' : Tb} : ∀ {N : Nat}, (∀ i, i < N → T i = T' i) → flat T N = flat T' N
  | 0, _ => rfl
  | N + 1, h => by simp only [flat]; rw [flat_congr (fun i hi => h i (by omega)), h N (by omega)]

theorem flat_get (T : Tb) : ∀ (N i k : Nat), i < N → k < 9 → (flat T N)[i * 9 + k]? = (nc (T i))[k]?
  | 0, i, k, hi, _ => by omega
  | N + 1, i, k, hi, hk => by
    unfold flat
    by_cases e : i = N
    · subst e
      rw [List.getElem?_append_right (by rw [flat_length]; omega), flat_length]
      congr 1; omega
    · rw [List.getElem?_append_left (by rw [flat_length]; omega)]
      exact flat_get T N i k (by omega) hk

theorem flat_set {T : Tb} {i k : Nat} {u : Value} {n' : Nd} (hk : k < 9) (hn : nc n' = (nc (T i)).set k u) : ∀ (N : Nat), i < N → (flat T N).set (i * 9 + k) u = flat (upd T i n') N
  | 0, hi => by omega
  | N + 1, hi => by
    unfold flat
    by_cases e : i = N
    · subst e
      rw [List.set_append_right _ _ (by rw [flat_length]; omega), flat_length, upd_same, hn, flat_congr (T := upd T i n') (T' := T) (fun j hj => upd_ne (by omega))]
      congr 2; omega
    · rw [List.set_append_left _ _ (by rw [flat_length]; omega), flat_set hk hn N (by omega), upd_ne (by omega)]

/-- The Forest at fb: n items, N nodes, in the block nb. -/
structure Fo (w : World) (fb nb n N : Nat) (T : Tb) : Prop where
  self : w.heap[fb]? = some (.cells #[.int .i64 (n : Int), .slice (some ⟨nb, 0, none⟩) N N] 57 (0, 0))
  nodes : w.heap[nb]? = some (.cells (flat T N).toArray 53 (0, 0))
  big : N ≤ 8388609

theorem Fo.ne {w : World} {fb nb n N : Nat} {T : Tb} (h : Fo w fb nb n N T) : fb ≠ nb := fun e => by
  have h1 := h.self
  rw [e, h.nodes] at h1
  injection h1 with h1
  injection h1 with _ h1
  cases h1

theorem Fo.lt {w : World} {fb nb n N : Nat} {T : Tb} (h : Fo w fb nb n N T) : fb < w.heap.size ∧ nb < w.heap.size :=
  ⟨(Array.getElem?_eq_some_iff.1 h.self).1, (Array.getElem?_eq_some_iff.1 h.nodes).1⟩

theorem Fo.c0 {w : World} {fb nb n N : Nat} {T : Tb} (h : Fo w fb nb n N T) : w.cell? ⟨fb, 0, none⟩ = some (.int .i64 (n : Int)) := by
  unfold World.cell?; rw [h.self]; simp
theorem Fo.c1 {w : World} {fb nb n N : Nat} {T : Tb} (h : Fo w fb nb n N T) : w.cell? ⟨fb, 1, none⟩ = some (.slice (some ⟨nb, 0, none⟩) N N) := by
  unfold World.cell?; rw [h.self]; simp
theorem Fo.f1 {w : World} {fb nb n N : Nat} {T : Tb} (h : Fo w fb nb n N T) : w.frozen? ⟨fb, 1, none⟩ = false := by
  unfold World.frozen?; rw [h.self]; simp

theorem Fo.at {w : World} {fb nb n N : Nat} {T : Tb} (h : Fo w fb nb n N T) {i k : Nat} (hi : i < N) (hk : k < 9) : w.cell? ⟨nb, i * 9 + k, none⟩ = (nc (T i))[k]? := by
  unfold World.cell?; rw [h.nodes]; simp [flat_get T N i k hi hk]
theorem Fo.fro {w : World} {fb nb n N : Nat} {T : Tb} (h : Fo w fb nb n N T) (j : Nat) : w.frozen? ⟨nb, j, none⟩ = false := by
  unfold World.frozen?; rw [h.nodes]; simp

section
variable {w : World} {fb nb n N : Nat} {T : Tb} (h : Fo w fb nb n N T) {i : Nat} (hin : i < N)
include h hin
theorem Fo.v : w.cell? ⟨nb, i * 9, none⟩ = some (.int .i64 (T i).v) := h.at (k := 0) hin (by decide)
theorem Fo.s : w.cell? ⟨nb, i * 9 + 1, none⟩ = some (.int .i64 (T i).s) := h.at (k := 1) hin (by decide)
theorem Fo.lo : w.cell? ⟨nb, i * 9 + 2, none⟩ = some (.int .i64 (T i).lo) := h.at (k := 2) hin (by decide)
theorem Fo.hi : w.cell? ⟨nb, i * 9 + 3, none⟩ = some (.int .i64 (T i).hi) := h.at (k := 3) hin (by decide)
theorem Fo.rest : w.cell? ⟨nb, i * 9 + 4, none⟩ = some (.int .i32 (T i).rest) := h.at (k := 4) hin (by decide)
theorem Fo.up : w.cell? ⟨nb, i * 9 + 5, none⟩ = some (.int .i32 ((T i).up : Int)) := h.at (k := 5) hin (by decide)
theorem Fo.l : w.cell? ⟨nb, i * 9 + 6, none⟩ = some (.int .i32 ((T i).l : Int)) := h.at (k := 6) hin (by decide)
theorem Fo.r : w.cell? ⟨nb, i * 9 + 7, none⟩ = some (.int .i32 ((T i).r : Int)) := h.at (k := 7) hin (by decide)
theorem Fo.t : w.cell? ⟨nb, i * 9 + 8, none⟩ = some (.bool (T i).t) := h.at (k := 8) hin (by decide)
end

theorem Fo.set {w : World} {fb nb n N : Nat} {T : Tb} (h : Fo w fb nb n N T) {i : Nat} (k : Nat) {u : Value} (n' : Nd) (hi : i < N) (hk : k < 9) (hn : nc n' = (nc (T i)).set k u) :
    Fo (w.setCell ⟨nb, i * 9 + k, none⟩ u) fb nb n N (upd T i n') := by
  refine ⟨(Below.heap_setCell _ _ _ _ h.ne).trans h.self, ?_, h.big⟩
  unfold World.setCell
  rw [Array.getElem?_modify, if_pos rfl, h.nodes]
  simp only [Option.map_some, Option.some.injEq]
  rw [← flat_set hk hn N hi]
  simp

theorem Fo.drew {w : World} {fb nb n N : Nat} {T : Tb} (h : Fo w fb nb n N T) : Fo w.drew fb nb n N T := ⟨h.self, h.nodes, h.big⟩

theorem Fo.of {w w' : World} {S : Nat → Prop} {fb nb n N : Nat} {T : Tb} (h : Fo w fb nb n N T) (hw : Turned S w w') (h1 : ¬ S fb) (h2 : ¬ S nb) : Fo w' fb nb n N T :=
  ⟨(hw.block _ h.lt.1 h1).trans h.self, (hw.block _ h.lt.2 h2).trans h.nodes, h.big⟩

theorem Fo.congr {w : World} {fb nb n N : Nat} {T T' : Tb} (h : Fo w fb nb n N T) (e : ∀ i, i < N → T i = T' i) : Fo w fb nb n N T' :=
  ⟨h.self, by rw [← flat_congr e]; exact h.nodes, h.big⟩

end Go.Proofs.YtpelpcplagfdiaaDoor
