/- From the reading of an argument that is an act (two numbers, two pairs), by value, to its numbers. -/
import Derived.Test.YtegljhbjjdfhiaaDoorBdo
namespace Go.Proofs.YtegljhbjjdfhiaaDoor
open Go.ChangeShapes Go.WideShapes Go.ChangeAt Go.RowKit
set_option linter.unusedVariables false

theorem open_act {H : Type} {enc : TypeId × Value → H} {P : Program} {W : World} {base : Nat} {e it : TypeId} {f0 f1 f2 f3 : Field} {v : Value} {d : DataW H} {p : List MemPlace}
    (he : P.underlying e = some (.struct #[f0, f1, f2, f3])) (ce : P.cellsOf e = 6) (o0 : f0.offset = 0) (o1 : f1.offset = 1) (o2 : f2.offset = 2) (o3 : f3.offset = 4)
    (c0 : P.cellsOf f0.type = 1) (c1 : P.cellsOf f1.type = 1) (c2 : P.cellsOf f2.type = 2) (c3 : P.cellsOf f3.type = 2)
    (u0 : P.underlying f0.type = some (.int .i64)) (u1 : P.underlying f1.type = some (.int .i64)) (u2 : P.underlying f2.type = some (.array 2 it)) (u3 : P.underlying f3.type = some (.array 2 it)) (ui : P.underlying it = some (.int .i64)) (ci : P.cellsOf it = 1)
    (hv : Value.okWide P W .any base e v) (h : DataW.Trod enc P W 0 (fun _ => true) true e v d p) : ∃ q : Ac, v = acv q := by
  obtain ⟨fuel, hf⟩ := h
  obtain ⟨cs, rfl, hsz⟩ := okWide_struct he hv
  rw [ce] at hsz
  obtain ⟨cs⟩ := cs
  obtain ⟨xs, k, hk, hxy, _, hxl, hf⟩ := DataW.trod_struct he hf
  match xs, hxl, cs, hsz with
  | [y0, y1, y2, y3], _, [v0, v1, v2, v3, v4, v5], _ =>
    have g0 := hf 0 f0 rfl
    have g1 := hf 1 f1 rfl
    have g2 := hf 2 f2 rfl
    have g3 := hf 3 f3 rfl
    simp [Value.cells, o0, o1, o2, o3, c0, c1, c2, c3] at g0 g1 g2 g3
    obtain ⟨z0, r0, _⟩ := DataW.trod_int u0 g0
    obtain ⟨z1, r1, _⟩ := DataW.trod_int u1 g1
    obtain ⟨p0, p1, rfl, rfl⟩ := open_two u2 ui ci g2
    obtain ⟨q0, q1, rfl, rfl⟩ := open_two u3 ui ci g3
    simp at r0 r1
    subst r0 r1
    exact ⟨⟨z0, z1, p0, p1, q0, q1⟩, rfl⟩

end Go.Proofs.YtegljhbjjdfhiaaDoor
