/- From the reading of an argument that is a command, by value, to its parts. -/
import Derived.Test.YtmmpkhoejcfdmaaDoorAll19
import Derived.Test.YtmmpkhoejcfdmaaDoorOpened
import Derived.ProofKit
import Derived.OpenShut
import Derived.Deep.Slices
namespace Go.Proofs.YtmmpkhoejcfdmaaDoor
open Go.ChangeShapes Go.WideShapes Go.ChangeAt Go.RowKit
set_option linter.unusedVariables false

theorem open_h2 {H : Type} {enc : TypeId × Value → H} {P : Program} {W : World} {t it : TypeId} {g0 g1 : Field} {fuel : Nat} {v0 v1 v2 v3 : Value} {x : DataW H × List MemPlace} (ht : P.underlying t = some (.array 2 it))
    (hi : P.underlying it = some (.struct #[g0, g1])) (ci : P.cellsOf it = 2) (o0 : g0.offset = 0) (o1 : g1.offset = 1) (c0 : P.cellsOf g0.type = 1) (c1 : P.cellsOf g1.type = 1) (u0 : P.underlying g0.type = some (.int .u32)) (u1 : P.underlying g1.type = some (.int .u32))
    (h : DataW.trod enc P W 0 (fun _ => true) true fuel t [v0, v1, v2, v3] = some x) : ∃ a b c d : Nat, v0 = .int .u32 (a : Int) ∧ v1 = .int .u32 (b : Int) ∧ v2 = .int .u32 (c : Int) ∧ v3 = .int .u32 (d : Int) ∧ a < 4294967296 ∧ b < 4294967296 ∧ c < 4294967296 ∧ d < 4294967296 := by
  obtain ⟨xs, m, _, _, _, hl, hf⟩ := DataW.trod_array ht h
  match xs, hl with
  | [y0, y1], _ =>
    have q0 := hf 0 (by omega)
    have q1 := hf 1 (by omega)
    simp [ci] at q0 q1
    obtain ⟨ys, k, _, _, _, hyl, hy⟩ := DataW.trod_struct hi q0
    obtain ⟨zs, k2, _, _, _, hzl, hz⟩ := DataW.trod_struct hi q1
    match ys, hyl, zs, hzl with
    | [a0, a1], _, [b0, b1], _ =>
      have r0 := hy 0 g0 rfl
      have r1 := hy 1 g1 rfl
      have s0 := hz 0 g0 rfl
      have s1 := hz 1 g1 rfl
      simp [o0, o1, c0, c1] at r0 r1 s0 s1
      obtain ⟨z0, e0, _, w0⟩ := DataW.trod_int u0 r0
      obtain ⟨z1, e1, _, w1⟩ := DataW.trod_int u1 r1
      obtain ⟨z2, e2, _, w2⟩ := DataW.trod_int u0 s0
      obtain ⟨z3, e3, _, w3⟩ := DataW.trod_int u1 s1
      have b0 := bounds_u32 w0
      have b1 := bounds_u32 w1
      have b2 := bounds_u32 w2
      have b3 := bounds_u32 w3
      simp at e0 e1 e2 e3
      exact ⟨z0.toNat, z1.toNat, z2.toNat, z3.toNat, by rw [e0, Int.toNat_of_nonneg b0.1], by rw [e1, Int.toNat_of_nonneg b1.1], by rw [e2, Int.toNat_of_nonneg b2.1], by rw [e3, Int.toNat_of_nonneg b3.1], by omega, by omega, by omega, by omega⟩

theorem open_i2 {H : Type} {enc : TypeId × Value → H} {P : Program} {W : World} {t it : TypeId} {fuel : Nat} {v0 v1 : Value} {x : DataW H × List MemPlace} (ht : P.underlying t = some (.array 2 it)) (hi : P.underlying it = some (.int .i64)) (ci : P.cellsOf it = 1)
    (h : DataW.trod enc P W 0 (fun _ => true) true fuel t [v0, v1] = some x) : ∃ a b : Int, v0 = .int .i64 a ∧ v1 = .int .i64 b := by
  obtain ⟨xs, m, _, _, _, hl, hf⟩ := DataW.trod_array ht h
  match xs, hl with
  | [y0, y1], _ =>
    have g0 := hf 0 (by omega)
    have g1 := hf 1 (by omega)
    simp [ci] at g0 g1
    obtain ⟨z0, r0, _⟩ := DataW.trod_int hi g0
    obtain ⟨z1, r1, _⟩ := DataW.trod_int hi g1
    simp at r0 r1
    exact ⟨z0, z1, r0, r1⟩

theorem wf_i32 {z : Int} (h : (Lit.int .i32 z).wf = true) : -2147483648 ≤ z ∧ z ≤ 2147483647 := by
  unfold Lit.wf at h
  rw [Bool.and_eq_true, decide_eq_true_eq, decide_eq_true_eq] at h
  exact ⟨Int.le_trans (by decide) h.1, Int.le_trans h.2 (by decide)⟩

theorem open_bs {H : Type} {enc : TypeId × Value → H} {P : Program} {W : World} {t e : TypeId} {v : Value} {fuel : Nat} {x : DataW H × List MemPlace} (ht : P.underlying t = some (.slice e)) (he : P.underlying e = some (.int .u8)) (hc : P.cellsOf e = 1)
    (h : DataW.trod enc P W 0 (fun _ => true) true fuel t [v] = some x) : ∃ (ad : Option Addr) (n cap : Nat) (l : List UInt8), v = .slice ad n cap ∧ l.length = n ∧ (n ≤ 5000 → Bytes W ad cap l) := by
  rcases open_ints ht he hc h with ⟨hcs, _⟩ | ⟨y, l, c, zs, hcs, _, hl, hm, hz, hx, hcell, hwz⟩
  · simp only [List.cons.injEq, and_true] at hcs
    subst hcs
    exact ⟨none, 0, 0, [], rfl, rfl, fun _ => Bytes.none W⟩
  · simp only [List.cons.injEq, and_true] at hcs
    subst hcs
    simp at hz
    exact ⟨some y, l, c, bytesOf zs l, rfl, bytesOf_length zs l (by omega), fun h5 => Bytes.ofInts hl hz (fun i hi => hcell i (by omega)) hwz (by omega)⟩

theorem open_cmd {H : Type} {enc : TypeId × Value → H} {P : Program} {W : World} {base : Nat} {e ht xt bt : TypeId} {f0 f1 f2 f3 f4 g0 g1 : Field} {v : Value} {d : DataW H} {p : List MemPlace}
    (he : P.underlying e = some (.struct #[f0, f1, f2, f3, f4])) (ce : P.cellsOf e = 9) (o0 : f0.offset = 0) (o1 : f1.offset = 1) (o2 : f2.offset = 5) (o3 : f3.offset = 7) (o4 : f4.offset = 8)
    (c0 : P.cellsOf f0.type = 1) (c1 : P.cellsOf f1.type = 4) (c2 : P.cellsOf f2.type = 2) (c3 : P.cellsOf f3.type = 1) (c4 : P.cellsOf f4.type = 1)
    (u0 : P.underlying f0.type = some (.int .i64)) (u1 : P.underlying f1.type = some (.array 2 ht)) (u2 : P.underlying f2.type = some (.array 2 xt)) (u3 : P.underlying f3.type = some (.int .i32)) (u4 : P.underlying f4.type = some (.slice bt))
    (hh : P.underlying ht = some (.struct #[g0, g1])) (ch : P.cellsOf ht = 2) (go0 : g0.offset = 0) (go1 : g1.offset = 1) (gc0 : P.cellsOf g0.type = 1) (gc1 : P.cellsOf g1.type = 1) (gu0 : P.underlying g0.type = some (.int .u32)) (gu1 : P.underlying g1.type = some (.int .u32))
    (ux : P.underlying xt = some (.int .i64)) (cx : P.cellsOf xt = 1) (ub : P.underlying bt = some (.int .u8)) (cb : P.cellsOf bt = 1)
    (hv : Value.okWide P W .any base e v) (h : DataW.Trod enc P W 0 (fun _ => true) true e v d p) : ∃ (c : Cm) (ad : Option Addr) (n cap : Nat), v = cv c (.slice ad n cap) ∧ c.d.length = n ∧ Wf c ∧ (n ≤ 5000 → Bytes W ad cap c.d) := by
  obtain ⟨fuel, hf⟩ := h
  obtain ⟨cs, rfl, hsz⟩ := okWide_struct he hv
  rw [ce] at hsz
  obtain ⟨cs⟩ := cs
  obtain ⟨xs, k, hk, hxy, _, hxl, hf⟩ := DataW.trod_struct he hf
  match xs, hxl, cs, hsz with
  | [y0, y1, y2, y3, y4], _, [v0, v1, v2, v3, v4, v5, v6, v7, v8], _ =>
    have g0 := hf 0 f0 rfl
    have g1 := hf 1 f1 rfl
    have g2 := hf 2 f2 rfl
    have g3 := hf 3 f3 rfl
    have g4 := hf 4 f4 rfl
    simp [Value.cells, o0, o1, o2, o3, o4, c0, c1, c2, c3, c4] at g0 g1 g2 g3 g4
    obtain ⟨z0, r0, _⟩ := DataW.trod_int u0 g0
    obtain ⟨a0, p0, a1, p1, rfl, rfl, rfl, rfl, b0, b1, b2, b3⟩ := open_h2 u1 hh ch go0 go1 gc0 gc1 gu0 gu1 g1
    obtain ⟨s0, s1, rfl, rfl⟩ := open_i2 u2 ux cx g2
    obtain ⟨z3, r3, _, w3⟩ := DataW.trod_int u3 g3
    obtain ⟨ad, n, cap, l, rfl, hl, hb⟩ := open_bs u4 ub cb g4
    simp at r0 r3
    subst r0 r3
    have b4 := wf_i32 w3
    exact ⟨⟨z0, a0, p0, a1, p1, s0, s1, z3, l⟩, ad, n, cap, rfl, hl, ⟨b0, b1, b2, b3, b4.1, b4.2⟩, hb⟩

end Go.Proofs.YtmmpkhoejcfdmaaDoor
