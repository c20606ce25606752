/- From the reading of an argument that is a slice of acts (two numbers, two pairs) to what it holds. -/
import Derived.WalkKit
import Derived.ProofKit
import Derived.OpenShut
import Derived.Deep.Slices
import Derived.Deep.SlicePairs
namespace Go.Proofs.YtghpjljnbdjmaaaGreatDoor
open Go.ChangeShapes Go.WideShapes Go.ChangeAt Go.RowKit
set_option linter.unusedVariables false

theorem add_flat (b o j : Nat) : (⟨b, o, none⟩ : Addr).add j = ⟨b, o + j, none⟩ := by unfold Addr.add; split <;> simp_all
theorem add_twice (a : Addr) (i j : Nat) : (a.add i).add j = a.add (i + j) := by
  unfold Addr.add
  by_cases hi : i = 0
  · subst hi; simp
  · by_cases hj : j = 0
    · subst hj; simp
    · simp [hi, hj, Nat.add_assoc]

/-- An act. -/
structure Ac where
  k : Int
  e : Int
  a0 : Int
  a1 : Int
  b0 : Int
  b1 : Int

/-- Its cells at an address. -/
def Acells (w : World) (f : Nat → Addr) (q : Ac) : Prop :=
  w.cell? (f 0) = some (.int .i64 q.k) ∧ w.cell? (f 1) = some (.int .i64 q.e) ∧ w.cell? (f 2) = some (.int .i64 q.a0) ∧ w.cell? (f 3) = some (.int .i64 q.a1) ∧ w.cell? (f 4) = some (.int .i64 q.b0) ∧ w.cell? (f 5) = some (.int .i64 q.b1)

/-- The value is a slice of these acts, to be read. -/
def AV (w : World) (v : Value) (l : List Ac) : Prop := ∃ ad n cap, v = .slice ad n cap ∧ l.length = n ∧ n ≤ cap ∧ cap ≤ maxLen ∧ ∀ (j : Nat) q, l[j]? = some q → ∃ b o, ad = some ⟨b, o, none⟩ ∧ Acells w (fun i => ⟨b, o + j * 6 + i, none⟩) q

theorem AV.below {w w' : World} {v : Value} {l : List Ac} (h : AV w v l) (hb : Below w.heap.size w w') : AV w' v l := by
  obtain ⟨ad, n, cap, h1, h2, h3, h4, h5⟩ := h
  refine ⟨ad, n, cap, h1, h2, h3, h4, fun j q hq => ?_⟩
  obtain ⟨b, o, e, c0, c1, c2, c3, c4, c5⟩ := h5 j q hq
  have up : ∀ {a : Addr} {x : Value}, w.cell? a = some x → w'.cell? a = some x := fun hc => (hb.cell (World.block_lt_of_cell? w _ hc)).trans hc
  exact ⟨b, o, e, up c0, up c1, up c2, up c3, up c4, up c5⟩

theorem open_two {H : Type} {enc : TypeId × Value → H} {P : Program} {W : World} {t it : TypeId} {fuel : Nat} {v0 v1 : Value} {x : DataW H × List MemPlace} (ht : P.underlying t = some (.array 2 it)) (hi : P.underlying it = some (.int .i64)) (ci : P.cellsOf it = 1)
    (h : DataW.trod enc P W 0 (fun _ => true) true fuel t [v0, v1] = some x) : ∃ a b : Int, v0 = .int .i64 a ∧ v1 = .int .i64 b := by
  obtain ⟨xs, m, _, _, _, hl, hf⟩ := DataW.trod_array ht h
  match xs, hl with
  | [y0, y1], _ =>
    have g0 := hf 0 (by omega)
    have g1 := hf 1 (by omega)
    simp [ci] at g0 g1
    obtain ⟨z0, r0, _⟩ := DataW.trod_int hi g0
    obtain ⟨z1, r1, _⟩ := DataW.trod_int hi g1
    simp at r0 r1
    exact ⟨z0, z1, r0, r1⟩

theorem open_av {H : Type} {enc : TypeId × Value → H} {P : Program} {W : World} {t e it : TypeId} {f0 f1 f2 f3 : Field} {a : Option Addr} {len cap : Nat} {d : DataW H} {p : List MemPlace}
    (ht : P.underlying t = some (.slice e)) (he : P.underlying e = some (.struct #[f0, f1, f2, f3])) (ce : P.cellsOf e = 6) (o0 : f0.offset = 0) (o1 : f1.offset = 1) (o2 : f2.offset = 2) (o3 : f3.offset = 4)
    (c0 : P.cellsOf f0.type = 1) (c1 : P.cellsOf f1.type = 1) (c2 : P.cellsOf f2.type = 2) (c3 : P.cellsOf f3.type = 2)
    (u0 : P.underlying f0.type = some (.int .i64)) (u1 : P.underlying f1.type = some (.int .i64)) (u2 : P.underlying f2.type = some (.array 2 it)) (u3 : P.underlying f3.type = some (.array 2 it)) (ui : P.underlying it = some (.int .i64)) (ci : P.cellsOf it = 1)
    (h : DataW.Trod enc P W 0 (fun _ => true) true t (.slice a len cap) d p) : ∃ l : List Ac, AV W (.slice a len cap) l := by
  obtain ⟨fuel, hf⟩ := h
  rcases Go.Deep.open_slice ht hf with ⟨hcs, _⟩ | ⟨x, l, c, m, n, D, Pl, hcs, _, hl, hm, hmm, hx, hall⟩
  · simp [Value.cells] at hcs
    obtain ⟨rfl, rfl, rfl⟩ := hcs
    exact ⟨[], none, 0, 0, rfl, rfl, Nat.le_refl _, Nat.zero_le _, fun j q hq => by simp at hq⟩
  · simp [Value.cells] at hcs
    obtain ⟨rfl, rfl, rfl⟩ := hcs
    simp at hmm
    have hv : ∀ i, i < len → ∃ q : Ac, Acells W (fun r => x.add (i * 6 + r)) q := by
      intro i hi
      obtain ⟨cs', h1, h2⟩ := hall i (by omega)
      rw [ce] at h1
      obtain ⟨_, hlen, hcell⟩ := World.cells?_some h1
      obtain ⟨xs, k, hk, hxy, _, hxl, hf⟩ := DataW.trod_struct he h2
      match xs, hxl, cs', hlen with
      | [y0, y1, y2, y3], _, [v0, v1, v2, v3, v4, v5], _ =>
        have g0 := hf 0 f0 rfl
        have g1 := hf 1 f1 rfl
        have g2 := hf 2 f2 rfl
        have g3 := hf 3 f3 rfl
        simp [o0, o1, o2, o3, c0, c1, c2, c3] at g0 g1 g2 g3
        have e0 := hcell 0 (by omega)
        have e1 := hcell 1 (by omega)
        have e2 := hcell 2 (by omega)
        have e3 := hcell 3 (by omega)
        have e4 := hcell 4 (by omega)
        have e5 := hcell 5 (by omega)
        rw [add_twice] at e0 e1 e2 e3 e4 e5
        obtain ⟨z0, r0, _⟩ := DataW.trod_int u0 g0
        obtain ⟨z1, r1, _⟩ := DataW.trod_int u1 g1
        obtain ⟨p0, p1, rfl, rfl⟩ := open_two u2 ui ci g2
        obtain ⟨q0, q1, rfl, rfl⟩ := open_two u3 ui ci g3
        simp at r0 r1
        subst r0 r1
        exact ⟨⟨z0, z1, p0, p1, q0, q1⟩, by simpa using e0, by simpa using e1, by simpa using e2, by simpa using e3, by simpa using e4, by simpa using e5⟩
    have hv2 : ∀ i, ∃ q : Ac, i < len → Acells W (fun r => x.add (i * 6 + r)) q := by
      intro i
      by_cases hi : i < len
      · obtain ⟨q, hq⟩ := hv i hi
        exact ⟨q, fun _ => hq⟩
      · exact ⟨⟨0, 0, 0, 0, 0, 0⟩, fun e => absurd e hi⟩
    obtain ⟨Q, hQ⟩ : ∃ Q : Nat → Ac, ∀ i, i < len → Acells W (fun r => x.add (i * 6 + r)) (Q i) := ⟨fun i => (hv2 i).choose, fun i => (hv2 i).choose_spec⟩
    refine ⟨(List.range len).map Q, some x, len, cap, rfl, by simp, hl, hm, fun j q hj => ?_⟩
    have hjl : j < len := by have := (List.getElem?_eq_some_iff.1 hj).1; simpa using this
    simp [hjl] at hj
    subst hj
    have h0 := (hQ 0 (by omega)).1
    obtain ⟨b, o, s⟩ := x
    have hs : s = none := by simpa [Addr.add] using World.cell?_spot h0
    subst hs
    have := hQ j hjl
    unfold Acells at this
    simp only [add_flat, ← Nat.add_assoc] at this
    exact ⟨b, o, rfl, this⟩

end Go.Proofs.YtghpjljnbdjmaaaGreatDoor
