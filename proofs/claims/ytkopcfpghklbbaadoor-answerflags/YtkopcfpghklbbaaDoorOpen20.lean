/- From the reading of an argument that is an answer, by value, to its parts. -/
import Derived.Test.YtkopcfpghklbbaaDoorAns20
import Derived.Test.YtkopcfpghklbbaaDoorOpened
import Derived.ProofKit
import Derived.OpenShut
import Derived.Deep.Slices
import Derived.Deep.SlicePairs
namespace Go.Proofs.YtkopcfpghklbbaaDoor
open Go.ChangeShapes Go.WideShapes Go.ChangeAt Go.RowKit
set_option linter.unusedVariables false

/-- A slice of handles, to be read. -/
structure HV (w : World) (ad : Option Addr) (n cap : Nat) (l : List (Nat × Nat)) : Prop where
  len : l.length = n
  le : n ≤ cap
  max : cap ≤ maxLen
  num : ∀ p, p ∈ l → p.1 < 4294967296 ∧ p.2 < 4294967296
  cell : ∀ j p, l[j]? = some p → ∃ b o, ad = some ⟨b, o, none⟩ ∧ w.cell? ⟨b, o + j * 2, none⟩ = some (.int .u32 (p.1 : Int)) ∧ w.cell? ⟨b, o + j * 2 + 1, none⟩ = some (.int .u32 (p.2 : Int))

/-- A slice of darts, to be read. -/
structure DV (w : World) (ad : Option Addr) (n cap : Nat) (l : List Dt) : Prop where
  len : l.length = n
  le : n ≤ cap
  max : cap ≤ maxLen
  num : ∀ p, p ∈ l → p.a < 4294967296 ∧ p.p < 4294967296
  cell : ∀ j p, l[j]? = some p → ∃ b o, ad = some ⟨b, o, none⟩ ∧ w.cell? ⟨b, o + j * 3, none⟩ = some (.int .u32 (p.a : Int)) ∧ w.cell? ⟨b, o + j * 3 + 1, none⟩ = some (.int .u32 (p.p : Int)) ∧ w.cell? ⟨b, o + j * 3 + 2, none⟩ = some (.int .i64 p.s)

theorem HV.below {w w' : World} {ad : Option Addr} {n cap : Nat} {l : List (Nat × Nat)} (h : HV w ad n cap l) (hb : Below w.heap.size w w') : HV w' ad n cap l :=
  ⟨h.len, h.le, h.max, h.num, fun j p hj => by
    obtain ⟨b, o, e, c1, c2⟩ := h.cell j p hj
    exact ⟨b, o, e, (hb.cell (World.block_lt_of_cell? w _ c1)).trans c1, (hb.cell (World.block_lt_of_cell? w _ c2)).trans c2⟩⟩

theorem DV.below {w w' : World} {ad : Option Addr} {n cap : Nat} {l : List Dt} (h : DV w ad n cap l) (hb : Below w.heap.size w w') : DV w' ad n cap l :=
  ⟨h.len, h.le, h.max, h.num, fun j p hj => by
    obtain ⟨b, o, e, c1, c2, c3⟩ := h.cell j p hj
    exact ⟨b, o, e, (hb.cell (World.block_lt_of_cell? w _ c1)).trans c1, (hb.cell (World.block_lt_of_cell? w _ c2)).trans c2, (hb.cell (World.block_lt_of_cell? w _ c3)).trans c3⟩⟩

theorem HV.nil (w : World) : HV w none 0 0 [] := ⟨rfl, Nat.le_refl _, Nat.zero_le _, fun p hp => by simp at hp, fun j p hj => by simp at hj⟩
theorem DV.nil (w : World) : DV w none 0 0 [] := ⟨rfl, Nat.le_refl _, Nat.zero_le _, fun p hp => by simp at hp, fun j p hj => by simp at hj⟩

theorem add20 (b o j : Nat) : (⟨b, o, none⟩ : Addr).add j = ⟨b, o + j, none⟩ := by unfold Addr.add; split <;> simp_all
theorem add_twice20 (a : Addr) (i j : Nat) : (a.add i).add j = a.add (i + j) := by
  unfold Addr.add
  by_cases hi : i = 0
  · subst hi; simp
  · by_cases hj : j = 0
    · subst hj; simp
    · simp [hi, hj, Nat.add_assoc]

theorem nat_u32 {z : Int} (h : (Lit.int .u32 z).wf = true) : ∃ a : Nat, z = (a : Int) ∧ a < 4294967296 := by
  have := bounds_u32 h
  exact ⟨z.toNat, by omega, by omega⟩

theorem open_hv {H : Type} {enc : TypeId × Value → H} {P : Program} {W : World} {t e : TypeId} {f0 f1 : Field} {v : Value} {fuel : Nat} {x : DataW H × List MemPlace}
    (ht : P.underlying t = some (.slice e)) (he : P.underlying e = some (.struct #[f0, f1])) (ce : P.cellsOf e = 2) (o0 : f0.offset = 0) (o1 : f1.offset = 1) (c0 : P.cellsOf f0.type = 1) (c1 : P.cellsOf f1.type = 1)
    (u0 : P.underlying f0.type = some (.int .u32)) (u1 : P.underlying f1.type = some (.int .u32)) (h : DataW.trod enc P W 0 (fun _ => true) true fuel t [v] = some x) :
    ∃ (ad : Option Addr) (n cap : Nat) (l : List (Nat × Nat)), v = .slice ad n cap ∧ HV W ad n cap l := by
  rcases Go.Deep.open_slice_pairs ht he ce o0 o1 c0 c1 h with ⟨hcs, _⟩ | ⟨y, l, c, m, n, V0, V1, D0, D1, P0, P1, hcs, _, hl, hm, hmm, hx, hall⟩
  · simp only [List.cons.injEq, and_true] at hcs
    subst hcs
    exact ⟨none, 0, 0, [], rfl, HV.nil W⟩
  · simp only [List.cons.injEq, and_true] at hcs
    subst hcs
    simp at hmm
    have hv : ∀ i, ∃ q : Nat × Nat, i < l → V0 i = .int .u32 (q.1 : Int) ∧ V1 i = .int .u32 (q.2 : Int) ∧ q.1 < 4294967296 ∧ q.2 < 4294967296 := by
      intro i
      by_cases hi : i < l
      · obtain ⟨_, _, h3, h4⟩ := hall i (by omega)
        obtain ⟨z0, e0, _, g0⟩ := DataW.trod_int u0 h3
        obtain ⟨z1, e1, _, g1⟩ := DataW.trod_int u1 h4
        obtain ⟨a, rfl, ha⟩ := nat_u32 g0
        obtain ⟨b, rfl, hb⟩ := nat_u32 g1
        exact ⟨(a, b), fun _ => ⟨by simpa using e0, by simpa using e1, ha, hb⟩⟩
      · exact ⟨(0, 0), fun q => absurd q hi⟩
    obtain ⟨Q, hQ⟩ : ∃ Q : Nat → Nat × Nat, ∀ i, i < l → V0 i = .int .u32 ((Q i).1 : Int) ∧ V1 i = .int .u32 ((Q i).2 : Int) ∧ (Q i).1 < 4294967296 ∧ (Q i).2 < 4294967296 := ⟨fun i => (hv i).choose, fun i => (hv i).choose_spec⟩
    refine ⟨some y, l, c, (List.range l).map Q, rfl, by simp, hl, hm, fun p hp => ?_, fun j p hj => ?_⟩
    · obtain ⟨i, hi, rfl⟩ := List.mem_map.1 hp
      exact (hQ i (List.mem_range.1 hi)).2.2
    · have hjl : j < l := by have := (List.getElem?_eq_some_iff.1 hj).1; simpa using this
      simp [hjl] at hj
      subst hj
      obtain ⟨h1, h2, _, _⟩ := hall j (by omega)
      have h0 := (hall 0 (by omega)).1
      obtain ⟨e0, e1, _, _⟩ := hQ j hjl
      obtain ⟨b, o, s⟩ := y
      have hs : s = none := by simpa [Addr.add] using World.cell?_spot h0
      subst hs
      rw [add20] at h1 h2
      exact ⟨b, o, rfl, by rw [h1, e0], by rw [Nat.add_assoc, h2, e1]⟩

theorem open_dv {H : Type} {enc : TypeId × Value → H} {P : Program} {W : World} {t e : TypeId} {f0 f1 g0 g1 : Field} {v : Value} {fuel : Nat} {x : DataW H × List MemPlace}
    (ht : P.underlying t = some (.slice e)) (he : P.underlying e = some (.struct #[f0, f1])) (ce : P.cellsOf e = 3) (o0 : f0.offset = 0) (o1 : f1.offset = 2) (c0 : P.cellsOf f0.type = 2) (c1 : P.cellsOf f1.type = 1)
    (uh : P.underlying f0.type = some (.struct #[g0, g1])) (p0 : g0.offset = 0) (p1 : g1.offset = 1) (d0 : P.cellsOf g0.type = 1) (d1 : P.cellsOf g1.type = 1)
    (u0 : P.underlying g0.type = some (.int .u32)) (u1 : P.underlying g1.type = some (.int .u32)) (u2 : P.underlying f1.type = some (.int .i64)) (h : DataW.trod enc P W 0 (fun _ => true) true fuel t [v] = some x) :
    ∃ (ad : Option Addr) (n cap : Nat) (l : List Dt), v = .slice ad n cap ∧ DV W ad n cap l := by
  rcases Go.Deep.open_slice ht h with ⟨hcs, _⟩ | ⟨y, len, cap, m, n, D, Pl, hcs, _, hl, hm, hmm, hx, hall⟩
  · simp only [List.cons.injEq, and_true] at hcs
    subst hcs
    exact ⟨none, 0, 0, [], rfl, DV.nil W⟩
  · simp only [List.cons.injEq, and_true] at hcs
    subst hcs
    simp at hmm
    have hv : ∀ i, ∃ q : Dt, i < len → (q.a < 4294967296 ∧ q.p < 4294967296) ∧ W.cell? (y.add (i * 3)) = some (.int .u32 (q.a : Int)) ∧ W.cell? (y.add (i * 3 + 1)) = some (.int .u32 (q.p : Int)) ∧ W.cell? (y.add (i * 3 + 2)) = some (.int .i64 q.s) := by
      intro i
      by_cases hi : i < len
      · obtain ⟨cs', h1, h2⟩ := hall i (by omega)
        rw [ce] at h1
        obtain ⟨_, hlen, hcell⟩ := World.cells?_some h1
        obtain ⟨xs, k, hk, hxy, _, hxl, hf⟩ := DataW.trod_struct he h2
        match xs, hxl, cs', hlen with
        | [y0, y1], _, [v0, v1, v2], _ =>
          have q0 := hf 0 f0 rfl
          have q1 := hf 1 f1 rfl
          simp [o0, o1, c0, c1] at q0 q1
          obtain ⟨ys, k2, _, _, _, hyl, hy⟩ := DataW.trod_struct uh q0
          match ys, hyl with
          | [a0, a1], _ =>
            have r0 := hy 0 g0 rfl
            have r1 := hy 1 g1 rfl
            simp [p0, p1, d0, d1] at r0 r1
            obtain ⟨z0, e0, _, w0⟩ := DataW.trod_int u0 r0
            obtain ⟨z1, e1, _, w1⟩ := DataW.trod_int u1 r1
            obtain ⟨z2, e2, _⟩ := DataW.trod_int u2 q1
            obtain ⟨a, rfl, ha⟩ := nat_u32 w0
            obtain ⟨b, rfl, hb⟩ := nat_u32 w1
            simp at e0 e1 e2
            have k0 := hcell 0 (by omega)
            have k1 := hcell 1 (by omega)
            have k3 := hcell 2 (by omega)
            rw [add_twice20] at k0 k1 k3
            exact ⟨⟨a, b, z2⟩, fun _ => ⟨⟨ha, hb⟩, by simpa [e0] using k0, by simpa [e1] using k1, by simpa [e2] using k3⟩⟩
      · exact ⟨⟨0, 0, 0⟩, fun q => absurd q hi⟩
    obtain ⟨Q, hQ⟩ : ∃ Q : Nat → Dt, ∀ i, i < len → ((Q i).a < 4294967296 ∧ (Q i).p < 4294967296) ∧ W.cell? (y.add (i * 3)) = some (.int .u32 ((Q i).a : Int)) ∧ W.cell? (y.add (i * 3 + 1)) = some (.int .u32 ((Q i).p : Int)) ∧ W.cell? (y.add (i * 3 + 2)) = some (.int .i64 (Q i).s) := ⟨fun i => (hv i).choose, fun i => (hv i).choose_spec⟩
    refine ⟨some y, len, cap, (List.range len).map Q, rfl, by simp, hl, hm, fun p hp => ?_, fun j p hj => ?_⟩
    · obtain ⟨i, hi, rfl⟩ := List.mem_map.1 hp
      exact (hQ i (List.mem_range.1 hi)).1
    · have hjl : j < len := by have := (List.getElem?_eq_some_iff.1 hj).1; simpa using this
      simp [hjl] at hj
      subst hj
      have h0 := (hQ 0 (by omega)).2.1
      obtain ⟨b, o, s⟩ := y
      have hs : s = none := by simpa [Addr.add] using World.cell?_spot h0
      subst hs
      have this := (hQ j hjl).2
      simp only [add20, ← Nat.add_assoc] at this
      exact ⟨b, o, rfl, this⟩

theorem open_i4 {H : Type} {enc : TypeId × Value → H} {P : Program} {W : World} {t it : TypeId} {fuel : Nat} {v0 v1 v2 v3 : Value} {x : DataW H × List MemPlace} (ht : P.underlying t = some (.array 4 it)) (hi : P.underlying it = some (.int .i64)) (ci : P.cellsOf it = 1)
    (h : DataW.trod enc P W 0 (fun _ => true) true fuel t [v0, v1, v2, v3] = some x) : ∃ a b c d : Int, v0 = .int .i64 a ∧ v1 = .int .i64 b ∧ v2 = .int .i64 c ∧ v3 = .int .i64 d := by
  obtain ⟨xs, m, _, _, _, hl, hf⟩ := DataW.trod_array ht h
  match xs, hl with
  | [y0, y1, y2, y3], _ =>
    have g0 := hf 0 (by omega)
    have g1 := hf 1 (by omega)
    have g2 := hf 2 (by omega)
    have g3 := hf 3 (by omega)
    simp [ci] at g0 g1 g2 g3
    obtain ⟨z0, r0, _⟩ := DataW.trod_int hi g0
    obtain ⟨z1, r1, _⟩ := DataW.trod_int hi g1
    obtain ⟨z2, r2, _⟩ := DataW.trod_int hi g2
    obtain ⟨z3, r3, _⟩ := DataW.trod_int hi g3
    simp at r0 r1 r2 r3
    exact ⟨z0, z1, z2, z3, r0, r1, r2, r3⟩

theorem open_bs20 {H : Type} {enc : TypeId × Value → H} {P : Program} {W : World} {t e : TypeId} {v : Value} {fuel : Nat} {x : DataW H × List MemPlace} (ht : P.underlying t = some (.slice e)) (he : P.underlying e = some (.int .u8)) (hc : P.cellsOf e = 1)
    (h : DataW.trod enc P W 0 (fun _ => true) true fuel t [v] = some x) : ∃ (ad : Option Addr) (n cap : Nat) (l : List UInt8), v = .slice ad n cap ∧ l.length = n ∧ (n ≤ 5000 → Bytes W ad cap l) := by
  rcases open_ints ht he hc h with ⟨hcs, _⟩ | ⟨y, l, c, zs, hcs, _, hl, hm, hz, hx, hcell, hwz⟩
  · simp only [List.cons.injEq, and_true] at hcs
    subst hcs
    exact ⟨none, 0, 0, [], rfl, rfl, fun _ => Bytes.none W⟩
  · simp only [List.cons.injEq, and_true] at hcs
    subst hcs
    simp at hz
    exact ⟨some y, l, c, bytesOf zs l, rfl, bytesOf_length zs l (by omega), fun h5 => Bytes.ofInts hl hz (fun i hi => hcell i (by omega)) hwz (by omega)⟩

theorem wf_i64 {z : Int} (h : (Lit.int .i64 z).wf = true) : -9223372036854775808 ≤ z ∧ z ≤ 9223372036854775807 := by
  unfold Lit.wf at h
  rw [Bool.and_eq_true, decide_eq_true_eq, decide_eq_true_eq] at h
  exact ⟨Int.le_trans (by decide) h.1, Int.le_trans h.2 (by decide)⟩

/-- An answer as a value. -/
abbrev av (x : An) (hv dv bv : Value) : Value := .agg #[.int .i64 x.err, hv, .bool x.is, .int .i64 x.n, dv, .int .i64 x.c0, .int .i64 x.c1, .int .i64 x.c2, .int .i64 x.c3, .int .i64 x.sum, bv]

theorem open_ans {H : Type} {enc : TypeId × Value → H} {P : Program} {W : World} {base : Nat} {e ht dt xt bt : TypeId} {f0 f1 f2 f3 f4 f5 f6 f7 g0 g1 h0 h1 k0 k1 : Field} {v : Value} {d : DataW H} {p : List MemPlace}
    (he : P.underlying e = some (.struct #[f0, f1, f2, f3, f4, f5, f6, f7])) (ce : P.cellsOf e = 11) (o0 : f0.offset = 0) (o1 : f1.offset = 1) (o2 : f2.offset = 2) (o3 : f3.offset = 3) (o4 : f4.offset = 4) (o5 : f5.offset = 5) (o6 : f6.offset = 9) (o7 : f7.offset = 10)
    (c0 : P.cellsOf f0.type = 1) (c1 : P.cellsOf f1.type = 1) (c2 : P.cellsOf f2.type = 1) (c3 : P.cellsOf f3.type = 1) (c4 : P.cellsOf f4.type = 1) (c5 : P.cellsOf f5.type = 4) (c6 : P.cellsOf f6.type = 1) (c7 : P.cellsOf f7.type = 1)
    (u0 : P.underlying f0.type = some (.int .i64)) (u1 : P.underlying f1.type = some (.slice ht)) (u2 : P.underlying f2.type = some .bool) (u3 : P.underlying f3.type = some (.int .i64)) (u4 : P.underlying f4.type = some (.slice dt)) (u5 : P.underlying f5.type = some (.array 4 xt)) (u6 : P.underlying f6.type = some (.int .i64)) (u7 : P.underlying f7.type = some (.slice bt))
    (hh : P.underlying ht = some (.struct #[g0, g1])) (ch : P.cellsOf ht = 2) (go0 : g0.offset = 0) (go1 : g1.offset = 1) (gc0 : P.cellsOf g0.type = 1) (gc1 : P.cellsOf g1.type = 1) (gu0 : P.underlying g0.type = some (.int .u32)) (gu1 : P.underlying g1.type = some (.int .u32))
    (hd : P.underlying dt = some (.struct #[h0, h1])) (cd : P.cellsOf dt = 3) (ho0 : h0.offset = 0) (ho1 : h1.offset = 2) (hc0 : P.cellsOf h0.type = 2) (hc1 : P.cellsOf h1.type = 1) (hu0 : P.underlying h0.type = some (.struct #[k0, k1])) (ko0 : k0.offset = 0) (ko1 : k1.offset = 1) (kc0 : P.cellsOf k0.type = 1) (kc1 : P.cellsOf k1.type = 1) (ku0 : P.underlying k0.type = some (.int .u32)) (ku1 : P.underlying k1.type = some (.int .u32)) (hu1 : P.underlying h1.type = some (.int .i64))
    (ux : P.underlying xt = some (.int .i64)) (cx : P.cellsOf xt = 1) (ub : P.underlying bt = some (.int .u8)) (cb : P.cellsOf bt = 1)
    (hv : Value.okWide P W .any base e v) (h : DataW.Trod enc P W 0 (fun _ => true) true e v d p) :
    ∃ (x : An) (ha : Option Addr) (hn hc : Nat) (da : Option Addr) (dn dc : Nat) (ba : Option Addr) (bn bc : Nat), v = av x (.slice ha hn hc) (.slice da dn dc) (.slice ba bn bc) ∧ HV W ha hn hc x.hs ∧ DV W da dn dc x.ds ∧ x.d.length = bn ∧ (bn ≤ 5000 → Bytes W ba bc x.d) ∧ Wn x := by
  obtain ⟨fuel, hf⟩ := h
  obtain ⟨cs, rfl, hsz⟩ := okWide_struct he hv
  rw [ce] at hsz
  obtain ⟨cs⟩ := cs
  obtain ⟨xs, k, hk, hxy, _, hxl, hf⟩ := DataW.trod_struct he hf
  match xs, hxl, cs, hsz with
  | [y0, y1, y2, y3, y4, y5, y6, y7], _, [v0, v1, v2, v3, v4, v5, v6, v7, v8, v9, v10], _ =>
    have q0 := hf 0 f0 rfl
    have q1 := hf 1 f1 rfl
    have q2 := hf 2 f2 rfl
    have q3 := hf 3 f3 rfl
    have q4 := hf 4 f4 rfl
    have q5 := hf 5 f5 rfl
    have q6 := hf 6 f6 rfl
    have q7 := hf 7 f7 rfl
    simp [Value.cells, o0, o1, o2, o3, o4, o5, o6, o7, c0, c1, c2, c3, c4, c5, c6, c7] at q0 q1 q2 q3 q4 q5 q6 q7
    obtain ⟨z0, r0, _⟩ := DataW.trod_int u0 q0
    obtain ⟨ha, hn, hc, hl, rfl, hH⟩ := open_hv u1 hh ch go0 go1 gc0 gc1 gu0 gu1 q1
    obtain ⟨b, r2, _⟩ := DataW.trod_bool u2 q2
    obtain ⟨z3, r3, _⟩ := DataW.trod_int u3 q3
    obtain ⟨da, dn, dc, dl, rfl, hD⟩ := open_dv u4 hd cd ho0 ho1 hc0 hc1 hu0 ko0 ko1 kc0 kc1 ku0 ku1 hu1 q4
    obtain ⟨x0, x1, x2, x3, rfl, rfl, rfl, rfl⟩ := open_i4 u5 ux cx q5
    obtain ⟨z6, r6, _, w6⟩ := DataW.trod_int u6 q6
    obtain ⟨ba, bn, bc, bl, rfl, hbl, hB⟩ := open_bs20 u7 ub cb q7
    simp at r0 r2 r3 r6
    subst r0 r2 r3 r6
    have b6 := wf_i64 w6
    exact ⟨⟨z0, hl, b, z3, dl, x0, x1, x2, x3, z6, bl⟩, ha, hn, hc, da, dn, dc, ba, bn, bc, rfl, hH, hD, hbl, hB, ⟨hH.num, hD.num, b6.1, b6.2⟩⟩

end Go.Proofs.YtkopcfpghklbbaaDoor
