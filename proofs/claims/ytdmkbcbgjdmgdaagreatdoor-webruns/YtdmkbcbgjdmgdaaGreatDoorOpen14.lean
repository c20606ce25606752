/- From the reading of an argument that is a slice of acts (five numbers) to what it holds; an act by value. -/
import Derived.WalkKit
import Derived.ProofKit
import Derived.OpenShut
import Derived.Deep.Slices
import Derived.Deep.SlicePairs
namespace Go.Proofs.YtdmkbcbgjdmgdaaGreatDoor
open Go.ChangeShapes Go.WideShapes Go.ChangeAt Go.RowKit
set_option linter.unusedVariables false

theorem add_flat5 (b o j : Nat) : (⟨b, o, none⟩ : Addr).add j = ⟨b, o + j, none⟩ := by unfold Addr.add; split <;> simp_all
theorem add_twice5 (a : Addr) (i j : Nat) : (a.add i).add j = a.add (i + j) := by
  unfold Addr.add
  by_cases hi : i = 0
  · subst hi; simp
  · by_cases hj : j = 0
    · subst hj; simp
    · simp [hi, hj, Nat.add_assoc]

/-- An act. -/
structure A5 where
  k : Int
  a : Int
  b : Int
  e : Int
  v : Int

/-- Its cells at an address. -/
def A5cells (w : World) (f : Nat → Addr) (q : A5) : Prop :=
  w.cell? (f 0) = some (.int .i64 q.k) ∧ w.cell? (f 1) = some (.int .i64 q.a) ∧ w.cell? (f 2) = some (.int .i64 q.b) ∧ w.cell? (f 3) = some (.int .i64 q.e) ∧ w.cell? (f 4) = some (.int .i64 q.v)

/-- Its key is a number of 64 bits. -/
def A5.ok (q : A5) : Prop := -9223372036854775808 ≤ q.v ∧ q.v ≤ 9223372036854775807

/-- The value is a slice of these acts, to be read. -/
def AV5 (w : World) (v : Value) (l : List A5) : Prop := ∃ ad n cap, v = .slice ad n cap ∧ l.length = n ∧ n ≤ cap ∧ cap ≤ maxLen ∧ ∀ (j : Nat) q, l[j]? = some q → q.ok ∧ ∃ b o, ad = some ⟨b, o, none⟩ ∧ A5cells w (fun i => ⟨b, o + j * 5 + i, none⟩) q

theorem AV5.below {w w' : World} {v : Value} {l : List A5} (h : AV5 w v l) (hb : Below w.heap.size w w') : AV5 w' v l := by
  obtain ⟨ad, n, cap, h1, h2, h3, h4, h5⟩ := h
  refine ⟨ad, n, cap, h1, h2, h3, h4, fun j q hq => ?_⟩
  obtain ⟨ok, b, o, e, c0, c1, c2, c3, c4⟩ := h5 j q hq
  have up : ∀ {a : Addr} {x : Value}, w.cell? a = some x → w'.cell? a = some x := fun hc => (hb.cell (World.block_lt_of_cell? w _ hc)).trans hc
  exact ⟨ok, b, o, e, up c0, up c1, up c2, up c3, up c4⟩

/-- An act's cells, whatever came. -/
theorem AV5.five {w w' : World} {n cap : Nat} {ad : Option Addr} {l : List A5} (h : AV5 w (.slice ad n cap) l) {j : Nat} {q : A5} (hq : l[j]? = some q) : q.ok ∧ ∃ b o, ad = some ⟨b, o, none⟩ ∧ b < w.heap.size ∧ ∀ w', Below w.heap.size w w' → w'.cell? ⟨b, o + j * 5, none⟩ = some (.int .i64 q.k) ∧ w'.cell? ⟨b, o + j * 5 + 1, none⟩ = some (.int .i64 q.a) ∧ w'.cell? ⟨b, o + j * 5 + 2, none⟩ = some (.int .i64 q.b) ∧ w'.cell? ⟨b, o + j * 5 + 3, none⟩ = some (.int .i64 q.e) ∧ w'.cell? ⟨b, o + j * 5 + 4, none⟩ = some (.int .i64 q.v) := by
  obtain ⟨ad', n', cap', e, h2, h3, h4, h5⟩ := h
  simp only [Value.slice.injEq] at e
  obtain ⟨rfl, rfl, rfl⟩ := e
  obtain ⟨ok, b, o, e, c0, c1, c2, c3, c4⟩ := h5 j q hq
  refine ⟨ok, b, o, e, World.block_lt_of_cell? _ _ c0, fun w' hb => ?_⟩
  have up : ∀ {a : Addr} {x : Value}, w.cell? a = some x → w'.cell? a = some x := fun hc => (hb.cell (World.block_lt_of_cell? w _ hc)).trans hc
  exact ⟨up c0, up c1, up c2, up c3, up c4⟩

theorem wf_range {z : Int} (h : (Lit.int .i64 z).wf = true) : -9223372036854775808 ≤ z ∧ z ≤ 9223372036854775807 := by
  unfold Lit.wf at h
  rw [Bool.and_eq_true, decide_eq_true_eq, decide_eq_true_eq] at h
  exact ⟨Int.le_trans (by decide) h.1, Int.le_trans h.2 (by decide)⟩

theorem open_av5 {H : Type} {enc : TypeId × Value → H} {P : Program} {W : World} {t e : TypeId} {f0 f1 f2 f3 f4 : Field} {a : Option Addr} {len cap : Nat} {d : DataW H} {p : List MemPlace}
    (ht : P.underlying t = some (.slice e)) (he : P.underlying e = some (.struct #[f0, f1, f2, f3, f4])) (ce : P.cellsOf e = 5) (o0 : f0.offset = 0) (o1 : f1.offset = 1) (o2 : f2.offset = 2) (o3 : f3.offset = 3) (o4 : f4.offset = 4)
    (c0 : P.cellsOf f0.type = 1) (c1 : P.cellsOf f1.type = 1) (c2 : P.cellsOf f2.type = 1) (c3 : P.cellsOf f3.type = 1) (c4 : P.cellsOf f4.type = 1)
    (u0 : P.underlying f0.type = some (.int .i64)) (u1 : P.underlying f1.type = some (.int .i64)) (u2 : P.underlying f2.type = some (.int .i64)) (u3 : P.underlying f3.type = some (.int .i64)) (u4 : P.underlying f4.type = some (.int .i64))
    (h : DataW.Trod enc P W 0 (fun _ => true) true t (.slice a len cap) d p) : ∃ l : List A5, AV5 W (.slice a len cap) l := by
  obtain ⟨fuel, hf⟩ := h
  rcases Go.Deep.open_slice ht hf with ⟨hcs, _⟩ | ⟨x, l, c, m, n, D, Pl, hcs, _, hl, hm, hmm, hx, hall⟩
  · simp [Value.cells] at hcs
    obtain ⟨rfl, rfl, rfl⟩ := hcs
    exact ⟨[], none, 0, 0, rfl, rfl, Nat.le_refl _, Nat.zero_le _, fun j q hq => by simp at hq⟩
  · simp [Value.cells] at hcs
    obtain ⟨rfl, rfl, rfl⟩ := hcs
    simp at hmm
    have hv : ∀ i, i < len → ∃ q : A5, q.ok ∧ A5cells W (fun r => x.add (i * 5 + r)) q := by
      intro i hi
      obtain ⟨cs', h1, h2⟩ := hall i (by omega)
      rw [ce] at h1
      obtain ⟨_, hlen, hcell⟩ := World.cells?_some h1
      obtain ⟨xs, k, hk, hxy, _, hxl, hf⟩ := DataW.trod_struct he h2
      match xs, hxl, cs', hlen with
      | [y0, y1, y2, y3, y4], _, [v0, v1, v2, v3, v4], _ =>
        have g0 := hf 0 f0 rfl
        have g1 := hf 1 f1 rfl
        have g2 := hf 2 f2 rfl
        have g3 := hf 3 f3 rfl
        have g4 := hf 4 f4 rfl
        simp [o0, o1, o2, o3, o4, c0, c1, c2, c3, c4] at g0 g1 g2 g3 g4
        have e0 := hcell 0 (by omega)
        have e1 := hcell 1 (by omega)
        have e2 := hcell 2 (by omega)
        have e3 := hcell 3 (by omega)
        have e4 := hcell 4 (by omega)
        rw [add_twice5] at e0 e1 e2 e3 e4
        obtain ⟨z0, r0, _⟩ := DataW.trod_int u0 g0
        obtain ⟨z1, r1, _⟩ := DataW.trod_int u1 g1
        obtain ⟨z2, r2, _⟩ := DataW.trod_int u2 g2
        obtain ⟨z3, r3, _⟩ := DataW.trod_int u3 g3
        obtain ⟨z4, r4, _, w4⟩ := DataW.trod_int u4 g4
        simp at r0 r1 r2 r3 r4
        subst r0 r1 r2 r3 r4
        exact ⟨⟨z0, z1, z2, z3, z4⟩, wf_range w4, by simpa using e0, by simpa using e1, by simpa using e2, by simpa using e3, by simpa using e4⟩
    have hv2 : ∀ i, ∃ q : A5, i < len → q.ok ∧ A5cells W (fun r => x.add (i * 5 + r)) q := by
      intro i
      by_cases hi : i < len
      · obtain ⟨q, hq⟩ := hv i hi
        exact ⟨q, fun _ => hq⟩
      · exact ⟨⟨0, 0, 0, 0, 0⟩, fun e => absurd e hi⟩
    obtain ⟨Q, hQ⟩ : ∃ Q : Nat → A5, ∀ i, i < len → (Q i).ok ∧ A5cells W (fun r => x.add (i * 5 + r)) (Q i) := ⟨fun i => (hv2 i).choose, fun i => (hv2 i).choose_spec⟩
    refine ⟨(List.range len).map Q, some x, len, cap, rfl, by simp, hl, hm, fun j q hj => ?_⟩
    have hjl : j < len := by have := (List.getElem?_eq_some_iff.1 hj).1; simpa using this
    simp [hjl] at hj
    subst hj
    have h0 := (hQ 0 (by omega)).2.1
    obtain ⟨b, o, s⟩ := x
    have hs : s = none := by simpa [Addr.add] using World.cell?_spot h0
    subst hs
    obtain ⟨ok, this⟩ := hQ j hjl
    unfold A5cells at this
    simp only [add_flat5, ← Nat.add_assoc] at this
    exact ⟨ok, b, o, rfl, this⟩

theorem open_act5 {H : Type} {enc : TypeId × Value → H} {P : Program} {W : World} {base : Nat} {e : TypeId} {f0 f1 f2 f3 f4 : Field} {v : Value} {d : DataW H} {p : List MemPlace}
    (he : P.underlying e = some (.struct #[f0, f1, f2, f3, f4])) (ce : P.cellsOf e = 5) (o0 : f0.offset = 0) (o1 : f1.offset = 1) (o2 : f2.offset = 2) (o3 : f3.offset = 3) (o4 : f4.offset = 4)
    (c0 : P.cellsOf f0.type = 1) (c1 : P.cellsOf f1.type = 1) (c2 : P.cellsOf f2.type = 1) (c3 : P.cellsOf f3.type = 1) (c4 : P.cellsOf f4.type = 1)
    (u0 : P.underlying f0.type = some (.int .i64)) (u1 : P.underlying f1.type = some (.int .i64)) (u2 : P.underlying f2.type = some (.int .i64)) (u3 : P.underlying f3.type = some (.int .i64)) (u4 : P.underlying f4.type = some (.int .i64))
    (hv : Value.okWide P W .any base e v) (h : DataW.Trod enc P W 0 (fun _ => true) true e v d p) : ∃ q : A5, q.ok ∧ v = .agg #[.int .i64 q.k, .int .i64 q.a, .int .i64 q.b, .int .i64 q.e, .int .i64 q.v] := by
  obtain ⟨fuel, hf⟩ := h
  obtain ⟨cs, rfl, hsz⟩ := okWide_struct he hv
  rw [ce] at hsz
  obtain ⟨cs⟩ := cs
  obtain ⟨xs, k, hk, hxy, _, hxl, hf⟩ := DataW.trod_struct he hf
  match xs, hxl, cs, hsz with
  | [y0, y1, y2, y3, y4], _, [v0, v1, v2, v3, v4], _ =>
    have g0 := hf 0 f0 rfl
    have g1 := hf 1 f1 rfl
    have g2 := hf 2 f2 rfl
    have g3 := hf 3 f3 rfl
    have g4 := hf 4 f4 rfl
    simp [Value.cells, o0, o1, o2, o3, o4, c0, c1, c2, c3, c4] at g0 g1 g2 g3 g4
    obtain ⟨z0, r0, _⟩ := DataW.trod_int u0 g0
    obtain ⟨z1, r1, _⟩ := DataW.trod_int u1 g1
    obtain ⟨z2, r2, _⟩ := DataW.trod_int u2 g2
    obtain ⟨z3, r3, _⟩ := DataW.trod_int u3 g3
    obtain ⟨z4, r4, _, w4⟩ := DataW.trod_int u4 g4
    simp at r0 r1 r2 r3 r4
    subst r0 r1 r2 r3 r4
    exact ⟨⟨z0, z1, z2, z3, z4⟩, wf_range w4, rfl⟩

end Go.Proofs.YtdmkbcbgjdmgdaaGreatDoor
