/- From the reading of an argument that is a slice of edges, of marks, of numbers, to what it holds. -/
import Derived.Test.YtnlbpjppkfenkaaMem9
import Derived.ProofKit
import Derived.OpenShut
import Derived.Deep.Slices
import Derived.Deep.SlicePairs
import Derived.Deep.Grids
namespace Go.Proofs.Ytnlbpjppkfenkaa
open Go.ChangeShapes Go.WideShapes Go.ChangeAt Go.RowKit
set_option linter.unusedVariables false

theorem add_plain (b o j : Nat) : (⟨b, o, none⟩ : Addr).add j = ⟨b, o + j, none⟩ := by unfold Addr.add; split <;> simp_all

theorem open_ev {H : Type} {enc : TypeId × Value → H} {P : Program} {W : World} {t e : TypeId} {f0 f1 f2 : Field} {a : Option Addr} {len cap : Nat} {d : DataW H} {p : List MemPlace}
    (ht : P.underlying t = some (.slice e)) (he : P.underlying e = some (.struct #[f0, f1, f2])) (ce : P.cellsOf e = 3) (o0 : f0.offset = 0) (o1 : f1.offset = 1) (o2 : f2.offset = 2)
    (c0 : P.cellsOf f0.type = 1) (c1 : P.cellsOf f1.type = 1) (c2 : P.cellsOf f2.type = 1)
    (u0 : P.underlying f0.type = some (.int .i64)) (u1 : P.underlying f1.type = some (.int .i64)) (u2 : P.underlying f2.type = some (.int .i32)) (h : DataW.Trod enc P W 0 (fun _ => true) true t (.slice a len cap) d p) :
    ∃ l : List Ed, EV W (.slice a len cap) l ∧ Wr l := by
  obtain ⟨fuel, hf⟩ := h
  rcases Go.Deep.open_slice ht hf with ⟨hcs, _⟩ | ⟨x, l, c, m, n, D, Pl, hcs, _, hl, hm, hmm, hx, hall⟩
  · simp [Value.cells] at hcs
    obtain ⟨rfl, rfl, rfl⟩ := hcs
    exact ⟨[], ⟨none, 0, 0, rfl, ⟨rfl, fun j q hq => by simp at hq⟩, Nat.le_refl _, Nat.zero_le _⟩, fun q hq => by simp at hq⟩
  · simp [Value.cells] at hcs
    obtain ⟨rfl, rfl, rfl⟩ := hcs
    simp at hmm
    have hv : ∀ i, i < len → ∃ q : Ed, W.cell? (x.add (i * 3)) = some (.int .i64 q.a) ∧ W.cell? (x.add (i * 3 + 1)) = some (.int .i64 q.b) ∧ W.cell? (x.add (i * 3 + 2)) = some (.int .i32 q.w) ∧ (-2147483648 ≤ q.w ∧ q.w ≤ 2147483647) := by
      intro i hi
      obtain ⟨cs', h1, h2⟩ := hall i (by omega)
      rw [ce] at h1
      obtain ⟨_, hlen, hcell⟩ := World.cells?_some h1
      obtain ⟨xs, k, hk, hxy, _, hxl, hf⟩ := DataW.trod_struct he h2
      match xs, hxl, cs', hlen with
      | [y0, y1, y2], _, [v0, v1, v2], _ =>
        have g0 := hf 0 f0 rfl
        have g1 := hf 1 f1 rfl
        have g2 := hf 2 f2 rfl
        simp [o0, o1, o2, c0, c1, c2] at g0 g1 g2
        have e0 := hcell 0 (by omega)
        have e1 := hcell 1 (by omega)
        have e2 := hcell 2 (by omega)
        rw [add_add] at e0 e1 e2
        obtain ⟨z0, r0, _⟩ := DataW.trod_int u0 g0
        obtain ⟨z1, r1, _⟩ := DataW.trod_int u1 g1
        obtain ⟨z2, r2, _, w2⟩ := DataW.trod_int u2 g2
        simp at r0 r1 r2
        subst r0 r1 r2
        exact ⟨⟨z0, z1, z2⟩, by simpa using e0, by simpa using e1, by simpa using e2, by unfold Lit.wf at w2; rw [Bool.and_eq_true, decide_eq_true_eq, decide_eq_true_eq] at w2; exact ⟨Int.le_trans (by decide) w2.1, Int.le_trans w2.2 (by decide)⟩⟩
    have hv2 : ∀ i, ∃ q : Ed, i < len → W.cell? (x.add (i * 3)) = some (.int .i64 q.a) ∧ W.cell? (x.add (i * 3 + 1)) = some (.int .i64 q.b) ∧ W.cell? (x.add (i * 3 + 2)) = some (.int .i32 q.w) ∧ (-2147483648 ≤ q.w ∧ q.w ≤ 2147483647) := by
      intro i
      by_cases hi : i < len
      · obtain ⟨q, hq⟩ := hv i hi
        exact ⟨q, fun _ => hq⟩
      · exact ⟨⟨0, 0, 0⟩, fun e => absurd e hi⟩
    obtain ⟨Q, hQ⟩ : ∃ Q : Nat → Ed, ∀ i, i < len → W.cell? (x.add (i * 3)) = some (.int .i64 (Q i).a) ∧ W.cell? (x.add (i * 3 + 1)) = some (.int .i64 (Q i).b) ∧ W.cell? (x.add (i * 3 + 2)) = some (.int .i32 (Q i).w) ∧ (-2147483648 ≤ (Q i).w ∧ (Q i).w ≤ 2147483647) := ⟨fun i => (hv2 i).choose, fun i => (hv2 i).choose_spec⟩
    refine ⟨(List.range len).map Q, ⟨some x, len, cap, rfl, ⟨by simp, fun j q hj => ?_⟩, hl, hm⟩, fun q hq => ?_⟩
    · have hjl : j < len := by have := (List.getElem?_eq_some_iff.1 hj).1; simpa using this
      simp [hjl] at hj
      subst hj
      obtain ⟨h1, h2, h3, _⟩ := hQ j hjl
      have h0 := (hQ 0 (by omega)).1
      obtain ⟨b, o, s⟩ := x
      have hs : s = none := by simpa [Addr.add] using World.cell?_spot h0
      subst hs
      rw [add_plain] at h1 h2 h3
      exact ⟨b, o, rfl, h1, by rw [Nat.add_assoc]; exact h2, by rw [Nat.add_assoc]; exact h3⟩
    · obtain ⟨i, hi, rfl⟩ := List.mem_map.1 hq
      exact (hQ i (List.mem_range.1 hi)).2.2.2

theorem open_bv {H : Type} {enc : TypeId × Value → H} {P : Program} {W : World} {t e : TypeId} {a : Option Addr} {len cap : Nat} {d : DataW H} {p : List MemPlace}
    (ht : P.underlying t = some (.slice e)) (he : P.underlying e = some .bool) (hc : P.cellsOf e = 1) (h : DataW.Trod enc P W 0 (fun _ => true) true t (.slice a len cap) d p) :
    ∃ q : Nat → Bool, BV W (.slice a len cap) len q := by
  obtain ⟨fuel, hf⟩ := h
  rcases Go.Deep.open_bools ht he hc hf with ⟨hcs, _⟩ | ⟨x, l, c, B, hcs, _, hl, hm, hx, hcell⟩
  · simp [Value.cells] at hcs
    obtain ⟨rfl, rfl, rfl⟩ := hcs
    exact ⟨fun _ => false, none, 0, rfl, Nat.le_refl _, Nat.zero_le _, fun j hj => by omega⟩
  · simp [Value.cells] at hcs
    obtain ⟨rfl, rfl, rfl⟩ := hcs
    refine ⟨B, some x, cap, rfl, hl, hm, fun j hj => ?_⟩
    have h1 := hcell j (by omega)
    have h0 := hcell 0 (by omega)
    obtain ⟨b, o, s⟩ := x
    have hs : s = none := by simpa [Addr.add] using World.cell?_spot h0
    subst hs
    rw [add_plain] at h1
    exact ⟨b, o, rfl, h1⟩

/-- A slice of numbers, to be read. -/
def NV (w : World) (v : Value) (zs : List Int) : Prop := ∃ ad n cap, v = .slice ad n cap ∧ zs.length = n ∧ n ≤ 17592186044416 ∧ ∀ (j : Nat) z, zs[j]? = some z → ∃ b o, ad = some ⟨b, o, none⟩ ∧ w.cell? ⟨b, o + j, none⟩ = some (.int .i64 z)

theorem NV.below {w w' : World} {v : Value} {zs : List Int} (h : NV w v zs) (hb : Below w.heap.size w w') : NV w' v zs := by
  obtain ⟨ad, n, cap, h1, h2, h3, h4⟩ := h
  refine ⟨ad, n, cap, h1, h2, h3, fun j z hz => ?_⟩
  obtain ⟨b, o, e1, e2⟩ := h4 j z hz
  exact ⟨b, o, e1, (hb.cell (World.block_lt_of_cell? w _ e2)).trans e2⟩

theorem open_nv {H : Type} {enc : TypeId × Value → H} {P : Program} {W : World} {t e : TypeId} {a : Option Addr} {len cap : Nat} {d : DataW H} {p : List MemPlace} {ts : List TypeId} {ds : List (DataW H)} {j : Nat}
    (ht : P.underlying t = some (.slice e)) (he : P.underlying e = some (.int .i64)) (hc : P.cellsOf e = 1) (hy : P.bytesOf e = 8) (h : DataW.Trod enc P W 0 (fun _ => true) true t (.slice a len cap) d p)
    (hsz : (DataW.weightsEach P ts ds).all (· ≤ reachBytes) = true) (hts : ts[j]? = some t) (hds : ds[j]? = some d) :
    ∃ l : List Int, NV W (.slice a len cap) l := by
  obtain ⟨fuel, hf⟩ := h
  rcases open_ints ht he hc hf with ⟨hcs, _⟩ | ⟨x, l, c, zs, hcs, _, hl, hm, hz, hx, hcell, hwz⟩
  · simp [Value.cells] at hcs
    obtain ⟨rfl, rfl, rfl⟩ := hcs
    exact ⟨[], none, 0, 0, rfl, rfl, by omega, fun j z hz => by simp at hz⟩
  · simp [Value.cells] at hcs
    obtain ⟨rfl, rfl, rfl⟩ := hcs
    simp at hz
    have hd := congrArg Prod.fst hx
    simp only [] at hd
    subst hd
    have hs := sized_slice hsz hts hds ht
    simp only [lits, List.length_map, List.length_take, List.length_drop, hy, reachBytes] at hs
    refine ⟨zs.take len, some x, len, cap, rfl, by simp; omega, by omega, fun j z hj => ?_⟩
    rw [List.getElem?_take] at hj
    split at hj
    · have hjl := (List.getElem?_eq_some_iff.1 hj).1
      have h1 := hcell j hjl
      have h0 := hcell 0 (by omega)
      obtain ⟨b, o, s⟩ := x
      have hs : s = none := by simpa [Addr.add] using World.cell?_spot h0
      subst hs
      rw [add_plain, List.getD_eq_getElem?_getD, hj] at h1
      exact ⟨b, o, rfl, h1⟩
    · cases hj

end Go.Proofs.Ytnlbpjppkfenkaa
