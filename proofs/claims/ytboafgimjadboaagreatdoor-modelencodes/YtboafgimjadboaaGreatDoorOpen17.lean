/- From the reading of an argument that is a model, by value, to its parts. -/
import Derived.Test.YtboafgimjadboaaGreatDoorBmm
import Derived.ProofKit
import Derived.OpenShut
import Derived.Deep.Slices
import Derived.Deep.SlicePairs
namespace Go.Proofs.YtboafgimjadboaaGreatDoor
open Go.ChangeShapes Go.WideShapes Go.ChangeAt Go.RowKit
set_option linter.unusedVariables false

theorem add17 (b o j : Nat) : (⟨b, o, none⟩ : Addr).add j = ⟨b, o + j, none⟩ := by unfold Addr.add; split <;> simp_all
theorem add_twice17 (a : Addr) (i j : Nat) : (a.add i).add j = a.add (i + j) := by
  unfold Addr.add
  by_cases hi : i = 0
  · subst hi; simp
  · by_cases hj : j = 0
    · subst hj; simp
    · simp [hi, hj, Nat.add_assoc]

theorem open_pv {H : Type} {enc : TypeId × Value → H} {P : Program} {W : World} {t e : TypeId} {f0 f1 : Field} {v : Value} {fuel : Nat} {x : DataW H × List MemPlace}
    (ht : P.underlying t = some (.slice e)) (he : P.underlying e = some (.struct #[f0, f1])) (ce : P.cellsOf e = 2) (o0 : f0.offset = 0) (o1 : f1.offset = 1) (c0 : P.cellsOf f0.type = 1) (c1 : P.cellsOf f1.type = 1)
    (u0 : P.underlying f0.type = some (.int .u32)) (u1 : P.underlying f1.type = some (.int .i64)) (h : DataW.trod enc P W 0 (fun _ => true) true fuel t [v] = some x) :
    ∃ l : List (Int × Int), PV W v l := by
  rcases Go.Deep.open_slice_pairs ht he ce o0 o1 c0 c1 h with ⟨hcs, _⟩ | ⟨x, l, c, m, n, V0, V1, D0, D1, P0, P1, hcs, _, hl, hm, hmm, hx, hall⟩
  · simp only [List.cons.injEq, and_true] at hcs
    subst hcs
    exact ⟨[], none, 0, 0, rfl, ⟨rfl, fun p hp => by simp at hp, fun j z hz => by simp at hz⟩, fun _ => rfl, Nat.le_refl _, Nat.zero_le _⟩
  · simp only [List.cons.injEq, and_true] at hcs
    subst hcs
    simp at hmm
    have hv : ∀ i, i < l → ∃ z0 z1 : Int, V0 i = .int .u32 z0 ∧ V1 i = .int .i64 z1 ∧ 0 ≤ z0 ∧ z0 ≤ 4294967295 := by
      intro i hi
      obtain ⟨_, _, h3, h4⟩ := hall i (by omega)
      obtain ⟨z0, e0, _, g0⟩ := DataW.trod_int u0 h3
      obtain ⟨z1, e1, _, g1⟩ := DataW.trod_int u1 h4
      have := bounds_u32 g0
      exact ⟨z0, z1, by simpa using e0, by simpa using e1, this.1, this.2⟩
    refine ⟨(List.range l).map (fun i => (intOf (V0 i), intOf (V1 i))), some x, l, c, rfl, ⟨by simp, fun p hp => ?_, fun j q hj => ?_⟩, (fun e => by cases e), hl, hm⟩
    · obtain ⟨i, hi, rfl⟩ := List.mem_map.1 hp
      obtain ⟨y0, y1, e0, e1, g0, g1⟩ := hv i (List.mem_range.1 hi)
      simp only [e0, intOf]
      omega
    · have hjl : j < l := by have := (List.getElem?_eq_some_iff.1 hj).1; simpa using this
      obtain ⟨y0, y1, e0, e1, _, _⟩ := hv j hjl
      obtain ⟨h1, h2, _, _⟩ := hall j (by omega)
      have h0 := (hall 0 (by omega)).1
      simp [hjl, e0, e1, intOf] at hj
      subst hj
      obtain ⟨b, o, s⟩ := x
      have hs : s = none := by simpa [Addr.add] using World.cell?_spot h0
      subst hs
      rw [add17] at h1 h2
      exact ⟨b, o, rfl, by rw [h1, e0], by rw [Nat.add_assoc, h2, e1]⟩

theorem open_u2 {H : Type} {enc : TypeId × Value → H} {P : Program} {W : World} {t it : TypeId} {fuel : Nat} {v0 v1 : Value} {x : DataW H × List MemPlace} (ht : P.underlying t = some (.array 2 it)) (hi : P.underlying it = some (.int .u32)) (ci : P.cellsOf it = 1)
    (h : DataW.trod enc P W 0 (fun _ => true) true fuel t [v0, v1] = some x) : ∃ a b : Nat, v0 = .int .u32 (a : Int) ∧ v1 = .int .u32 (b : Int) ∧ a < 4294967296 ∧ b < 4294967296 := by
  obtain ⟨xs, m, _, _, _, hl, hf⟩ := DataW.trod_array ht h
  match xs, hl with
  | [y0, y1], _ =>
    have g0 := hf 0 (by omega)
    have g1 := hf 1 (by omega)
    simp [ci] at g0 g1
    obtain ⟨z0, r0, _, w0⟩ := DataW.trod_int hi g0
    obtain ⟨z1, r1, _, w1⟩ := DataW.trod_int hi g1
    have b0 := bounds_u32 w0
    have b1 := bounds_u32 w1
    simp at r0 r1
    exact ⟨z0.toNat, z1.toNat, by rw [r0, Int.toNat_of_nonneg b0.1], by rw [r1, Int.toNat_of_nonneg b1.1], by omega, by omega⟩

theorem wf_i32 {z : Int} (h : (Lit.int .i32 z).wf = true) : -2147483648 ≤ z ∧ z ≤ 2147483647 := by
  unfold Lit.wf at h
  rw [Bool.and_eq_true, decide_eq_true_eq, decide_eq_true_eq] at h
  exact ⟨Int.le_trans (by decide) h.1, Int.le_trans h.2 (by decide)⟩

theorem open_egv {H : Type} {enc : TypeId × Value → H} {P : Program} {W : World} {t e it : TypeId} {f0 f1 f2 : Field} {v : Value} {fuel : Nat} {x : DataW H × List MemPlace}
    (ht : P.underlying t = some (.slice e)) (he : P.underlying e = some (.struct #[f0, f1, f2])) (ce : P.cellsOf e = 5) (o0 : f0.offset = 0) (o1 : f1.offset = 2) (o2 : f2.offset = 4)
    (c0 : P.cellsOf f0.type = 2) (c1 : P.cellsOf f1.type = 2) (c2 : P.cellsOf f2.type = 1)
    (u0 : P.underlying f0.type = some (.array 2 it)) (u1 : P.underlying f1.type = some (.array 2 it)) (u2 : P.underlying f2.type = some (.int .i32)) (ui : P.underlying it = some (.int .u32)) (ci : P.cellsOf it = 1)
    (h : DataW.trod enc P W 0 (fun _ => true) true fuel t [v] = some x) : ∃ l : List Eg, EgV W v l := by
  rcases Go.Deep.open_slice ht h with ⟨hcs, _⟩ | ⟨x, len, cap, m, n, D, Pl, hcs, _, hl, hm, hmm, hx, hall⟩
  · simp only [List.cons.injEq, and_true] at hcs
    subst hcs
    exact ⟨[], none, 0, 0, rfl, ⟨rfl, fun p hp => by simp at hp, fun j z hz => by simp at hz⟩, Nat.le_refl _, Nat.zero_le _⟩
  · simp only [List.cons.injEq, and_true] at hcs
    subst hcs
    simp at hmm
    have hv : ∀ i, i < len → ∃ q : Eg, (q.f0 < 4294967296 ∧ q.f1 < 4294967296 ∧ q.n0 < 4294967296 ∧ q.n1 < 4294967296 ∧ -2147483648 ≤ q.w ∧ q.w ≤ 2147483647) ∧ W.cell? (x.add (i * 5)) = some (.int .u32 (q.f0 : Int)) ∧ W.cell? (x.add (i * 5 + 1)) = some (.int .u32 (q.f1 : Int)) ∧ W.cell? (x.add (i * 5 + 2)) = some (.int .u32 (q.n0 : Int)) ∧ W.cell? (x.add (i * 5 + 3)) = some (.int .u32 (q.n1 : Int)) ∧ W.cell? (x.add (i * 5 + 4)) = some (.int .i32 q.w) := by
      intro i hi
      obtain ⟨cs', h1, h2⟩ := hall i (by omega)
      rw [ce] at h1
      obtain ⟨_, hlen, hcell⟩ := World.cells?_some h1
      obtain ⟨xs, k, hk, hxy, _, hxl, hf⟩ := DataW.trod_struct he h2
      match xs, hxl, cs', hlen with
      | [y0, y1, y2], _, [v0, v1, v2, v3, v4], _ =>
        have g0 := hf 0 f0 rfl
        have g1 := hf 1 f1 rfl
        have g2 := hf 2 f2 rfl
        simp [o0, o1, o2, c0, c1, c2] at g0 g1 g2
        have e0 := hcell 0 (by omega)
        have e1 := hcell 1 (by omega)
        have e2 := hcell 2 (by omega)
        have e3 := hcell 3 (by omega)
        have e4 := hcell 4 (by omega)
        rw [add_twice17] at e0 e1 e2 e3 e4
        obtain ⟨p0, p1, rfl, rfl, b0, b1⟩ := open_u2 u0 ui ci g0
        obtain ⟨q0, q1, rfl, rfl, b2, b3⟩ := open_u2 u1 ui ci g1
        obtain ⟨z4, r4, _, w4⟩ := DataW.trod_int u2 g2
        simp at r4
        subst r4
        have b4 := wf_i32 w4
        exact ⟨⟨p0, p1, q0, q1, z4⟩, ⟨b0, b1, b2, b3, b4.1, b4.2⟩, by simpa using e0, by simpa using e1, by simpa using e2, by simpa using e3, by simpa using e4⟩
    have hv2 : ∀ i, ∃ q : Eg, i < len → (q.f0 < 4294967296 ∧ q.f1 < 4294967296 ∧ q.n0 < 4294967296 ∧ q.n1 < 4294967296 ∧ -2147483648 ≤ q.w ∧ q.w ≤ 2147483647) ∧ W.cell? (x.add (i * 5)) = some (.int .u32 (q.f0 : Int)) ∧ W.cell? (x.add (i * 5 + 1)) = some (.int .u32 (q.f1 : Int)) ∧ W.cell? (x.add (i * 5 + 2)) = some (.int .u32 (q.n0 : Int)) ∧ W.cell? (x.add (i * 5 + 3)) = some (.int .u32 (q.n1 : Int)) ∧ W.cell? (x.add (i * 5 + 4)) = some (.int .i32 q.w) := by
      intro i
      by_cases hi : i < len
      · obtain ⟨q, hq⟩ := hv i hi
        exact ⟨q, fun _ => hq⟩
      · exact ⟨ez, fun e => absurd e hi⟩
    obtain ⟨Q, hQ⟩ : ∃ Q : Nat → Eg, ∀ i, i < len → ((Q i).f0 < 4294967296 ∧ (Q i).f1 < 4294967296 ∧ (Q i).n0 < 4294967296 ∧ (Q i).n1 < 4294967296 ∧ -2147483648 ≤ (Q i).w ∧ (Q i).w ≤ 2147483647) ∧ W.cell? (x.add (i * 5)) = some (.int .u32 ((Q i).f0 : Int)) ∧ W.cell? (x.add (i * 5 + 1)) = some (.int .u32 ((Q i).f1 : Int)) ∧ W.cell? (x.add (i * 5 + 2)) = some (.int .u32 ((Q i).n0 : Int)) ∧ W.cell? (x.add (i * 5 + 3)) = some (.int .u32 ((Q i).n1 : Int)) ∧ W.cell? (x.add (i * 5 + 4)) = some (.int .i32 (Q i).w) := ⟨fun i => (hv2 i).choose, fun i => (hv2 i).choose_spec⟩
    refine ⟨(List.range len).map Q, some x, len, cap, rfl, ⟨by simp, fun q hq => ?_, fun j q hj => ?_⟩, hl, hm⟩
    · obtain ⟨i, hi, rfl⟩ := List.mem_map.1 hq
      exact (hQ i (List.mem_range.1 hi)).1
    · have hjl : j < len := by have := (List.getElem?_eq_some_iff.1 hj).1; simpa using this
      simp [hjl] at hj
      subst hj
      have h0 := (hQ 0 (by omega)).2.1
      obtain ⟨b, o, s⟩ := x
      have hs : s = none := by simpa [Addr.add] using World.cell?_spot h0
      subst hs
      have this := (hQ j hjl).2
      simp only [add17, ← Nat.add_assoc] at this
      exact ⟨b, o, rfl, this⟩

theorem open_model {H : Type} {enc : TypeId × Value → H} {P : Program} {W : World} {base : Nat} {e pe ee it : TypeId} {f0 f1 f2 f3 g0 g1 h0 h1 h2 : Field} {v : Value} {d : DataW H} {p : List MemPlace}
    (he : P.underlying e = some (.struct #[f0, f1, f2, f3])) (ce : P.cellsOf e = 4) (o0 : f0.offset = 0) (o1 : f1.offset = 1) (o2 : f2.offset = 2) (o3 : f3.offset = 3)
    (c0 : P.cellsOf f0.type = 1) (c1 : P.cellsOf f1.type = 1) (c2 : P.cellsOf f2.type = 1) (c3 : P.cellsOf f3.type = 1)
    (u0 : P.underlying f0.type = some (.int .i64)) (u1 : P.underlying f1.type = some (.slice pe)) (u2 : P.underlying f2.type = some (.slice pe)) (u3 : P.underlying f3.type = some (.slice ee))
    (hp : P.underlying pe = some (.struct #[g0, g1])) (cp : P.cellsOf pe = 2) (po0 : g0.offset = 0) (po1 : g1.offset = 1) (pc0 : P.cellsOf g0.type = 1) (pc1 : P.cellsOf g1.type = 1) (pu0 : P.underlying g0.type = some (.int .u32)) (pu1 : P.underlying g1.type = some (.int .i64))
    (hq : P.underlying ee = some (.struct #[h0, h1, h2])) (cq : P.cellsOf ee = 5) (qo0 : h0.offset = 0) (qo1 : h1.offset = 2) (qo2 : h2.offset = 4) (qc0 : P.cellsOf h0.type = 2) (qc1 : P.cellsOf h1.type = 2) (qc2 : P.cellsOf h2.type = 1)
    (qu0 : P.underlying h0.type = some (.array 2 it)) (qu1 : P.underlying h1.type = some (.array 2 it)) (qu2 : P.underlying h2.type = some (.int .i32)) (ui : P.underlying it = some (.int .u32)) (ci : P.cellsOf it = 1)
    (hv : Value.okWide P W .any base e v) (h : DataW.Trod enc P W 0 (fun _ => true) true e v d p) : ∃ vv ev lv m, v = .agg #[.int .i64 m.n, vv, ev, lv] ∧ Mp W vv ev lv m := by
  obtain ⟨fuel, hf⟩ := h
  obtain ⟨cs, rfl, hsz⟩ := okWide_struct he hv
  rw [ce] at hsz
  obtain ⟨cs⟩ := cs
  obtain ⟨xs, k, hk, hxy, _, hxl, hf⟩ := DataW.trod_struct he hf
  match xs, hxl, cs, hsz with
  | [y0, y1, y2, y3], _, [v0, v1, v2, v3], _ =>
    have g0 := hf 0 f0 rfl
    have g1 := hf 1 f1 rfl
    have g2 := hf 2 f2 rfl
    have g3 := hf 3 f3 rfl
    simp [Value.cells, o0, o1, o2, o3, c0, c1, c2, c3] at g0 g1 g2 g3
    obtain ⟨z0, r0, _⟩ := DataW.trod_int u0 g0
    obtain ⟨l1, p1⟩ := open_pv u1 hp cp po0 po1 pc0 pc1 pu0 pu1 g1
    obtain ⟨l2, p2⟩ := open_pv u2 hp cp po0 po1 pc0 pc1 pu0 pu1 g2
    obtain ⟨l3, p3⟩ := open_egv u3 hq cq qo0 qo1 qo2 qc0 qc1 qc2 qu0 qu1 qu2 ui ci g3
    simp at r0
    subst r0
    exact ⟨v1, v2, v3, ⟨z0, l1, l2, l3⟩, rfl, p1, p2, p3⟩

end Go.Proofs.YtboafgimjadboaaGreatDoor
