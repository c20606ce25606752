/- 'givePlaces' and 'samePlaces' of the laws; from the reading of an argument that is a slice of places to the places that it holds. -/
import Derived.Test.YtjkiagjgnfaknaaDoorBad3
import Derived.Test.YtjkiagjgnfaknaaDoorNewMarks
import Derived.Deep.SlicePairs
import Derived.Deep.RegionLaw
import Derived.ProofKit
import Derived.SizedLaws
import Derived.OpenShut
namespace Go.Proofs.YtjkiagjgnfaknaaDoor
open Go.ChangeShapes Go.WideShapes Go.ChangeAt Go.RowKit

theorem open_places {H : Type} {enc : TypeId × Value → H} {P : Program} {W : World} {t e : TypeId} {f0 f1 : Field} {a : Option Addr} {len cap : Nat} {d : DataW H} {p : List MemPlace} {ts : List TypeId} {ds : List (DataW H)} {j : Nat}
    (ht : P.underlying t = some (.slice e)) (he : P.underlying e = some (.struct #[f0, f1])) (ce : P.cellsOf e = 2) (o0 : f0.offset = 0) (o1 : f1.offset = 1) (c0 : P.cellsOf f0.type = 1) (c1 : P.cellsOf f1.type = 1)
    (u0 : P.underlying f0.type = some (.int .u32)) (u1 : P.underlying f1.type = some (.int .i64)) (hy : P.bytesOf e = 16) (h : DataW.Trod enc P W 0 (fun _ => true) true t (.slice a len cap) d p)
    (hsz : (DataW.weightsEach P ts ds).all (· ≤ reachBytes) = true) (hts : ts[j]? = some t) (hds : ds[j]? = some d) :
    ∃ l : List (Int × Int), len = l.length ∧ l.length * 16 ≤ 140737488355328 ∧ (a = none → cap = 0) ∧ Prow W a l := by
  obtain ⟨fuel, hf⟩ := h
  rcases Go.Deep.open_slice_pairs ht he ce o0 o1 c0 c1 hf with ⟨hcs, _⟩ | ⟨x, l, c, m, n, V0, V1, D0, D1, P0, P1, hcs, _, hl, hm, hmm, hx, hall⟩
  · simp [Value.cells] at hcs
    obtain ⟨rfl, rfl, rfl⟩ := hcs
    exact ⟨[], rfl, by simp, fun _ => rfl, ⟨fun _ => rfl, by simp, by simp, by simp⟩⟩
  · simp [Value.cells] at hcs
    obtain ⟨rfl, rfl, rfl⟩ := hcs
    simp at hmm
    have hd : d = .slice ((List.range len).map fun i => .agg [D0 i, D1 i]) ((List.range (m - len)).map fun j => .agg [D0 (len + j), D1 (len + j)]) := congrArg Prod.fst hx
    subst hd
    have hs := sized_slice hsz hts hds ht
    simp only [List.length_map, List.length_range, hy, reachBytes] at hs
    have hv : ∀ i, i < len → ∃ z0 z1 : Int, V0 i = .int .u32 z0 ∧ V1 i = .int .i64 z1 ∧ 0 ≤ z0 ∧ z0 ≤ 4294967295 := by
      intro i hi
      obtain ⟨_, _, h3, h4⟩ := hall i (by omega)
      obtain ⟨z0, e0, _, g0⟩ := DataW.trod_int u0 h3
      obtain ⟨z1, e1, _, g1⟩ := DataW.trod_int u1 h4
      have := bounds_u32 g0
      exact ⟨z0, z1, by simpa using e0, by simpa using e1, this.1, this.2⟩
    refine ⟨(List.range len).map (fun i => (intOf (V0 i), intOf (V1 i))), by simp, by simp; omega, by simp, ⟨by simp, by simp [maxLen] at *; omega, fun j q hj => ?_, fun a' ha j q hj => ?_⟩⟩
    · have hjl : j < len := by have := (List.getElem?_eq_some_iff.1 hj).1; simpa using this
      obtain ⟨y0, y1, e0, e1, g0, g1⟩ := hv j hjl
      simp [hjl, e0, e1, intOf] at hj
      subst hj
      exact ⟨g0, by simp; omega⟩
    · cases ha
      have hjl : j < len := by have := (List.getElem?_eq_some_iff.1 hj).1; simpa using this
      obtain ⟨y0, y1, e0, e1, _, _⟩ := hv j hjl
      obtain ⟨h1, h2, _, _⟩ := hall j (by omega)
      simp [hjl, e0, e1, intOf] at hj
      subst hj
      rw [h1, h2, e0, e1]
      exact ⟨rfl, rfl⟩

theorem pcs_two_new (w : World) (a s : Int) : ∀ j u, (pcs [(a, s)])[j]? = some u → (w.alloc (.cells #[.int .u32 a, .int .i64 s] 70)).cell? ((⟨w.heap.size, 0, none⟩ : Addr).add j) = some u := by
  intro j u hu
  rw [add0]
  have hn := heap_alloc_new w (.cells #[.int .u32 a, .int .i64 s] 70)
  unfold World.cell?
  rw [hn]
  simpa [pcs] using hu

set_option maxRecDepth 100000 in
set_option maxHeartbeats 2000000 in
theorem give_ok (ad : Option Addr) (ps : List (Int × Int)) (cap : Nat) (w : World) (h : Prow w ad ps) (hb : ps.length * 16 ≤ 140737488355328) :
    Calls Tryd.prog 5 #[.slice ad ps.length cap] w fun e w' => ∃ ad' cap', e = .returned (.slice ad' ps.length cap') ∧ Prow w' ad' ps ∧ (ad' = none → cap' = 0) ∧ Below w.heap.size w w' := by
  obtain ⟨i0, hif, hz0, hz1, hz2⟩ := info_parts infoPlace
  have hl := h.bound
  go_enter Tryd.func5, Tryd.ntmps5
  go_wp2_with fail
  go_loopw [3, 4] (fun v u wr => ∃ j : Nat, j ≤ ps.length ∧ u = .int .i64 (j : Int) ∧ wr.ownsRow w.heap.size 70 2 v j (pcs (ps.take j)) ∧ Below w.heap.size w wr)
    (fun _ u _ => ps.length - (intOf u).toNat)
  case atStart => exact ⟨0, by omega, by go_num, World.ownsRow_nil _ _ _ _, Below.refl _ _⟩
  case round =>
    obtain ⟨j, hj, rfl, hown, hbr⟩ := hrel
    rcases Nat.lt_or_ge j ps.length with hlt | hge
    · obtain ⟨⟨a, s⟩, hp⟩ : ∃ p, ps[j]? = some p := ⟨_, List.getElem?_eq_getElem hlt⟩
      cases ad with
      | none => have := h.nil rfl; subst this; simp at hlt
      | some ad =>
        have hc0 := (h.below hbr).first hp
        have hc1 := (h.below hbr).second hp
        have hsz := hbr.size
        have htk := hid (take_get hp)
        clear hp
        go_wp2_with fail
        go_region_law (refine step_append_own rfl (.tmp 11) (.tmp 23) 30 rfl w.heap.size 70 i0 _ 2 16 Tryd.underlying30 hif hz0 hz1 hz2 rfl (by decide) u3 j (pcs (ps.take j)) (by simp [Act.eval]) (hown.drew.alloc _) ⟨wr.heap.size, 0, none⟩ 1 1 (pcs [(a, s)]) (by simp [Act.eval]) rfl (pcs_two_new wr a s) (pcs_one _) (by unfold maxLen; omega) (by omega) (by simp; omega) ?_; intro v' w' hown' hgrow')
        all_goals
          have hb3 := ((hbr.drew).alloc hbr.size (.cells #[.int .u32 a, .int .i64 s] 70)).grown hgrow' (by simp; omega) (fun k hk => (hown.lt k hk).1)
          rw [← pcs_append, ← htk.out] at hown'
          clear hown hgrow'
          go_wp2_with fail
          refine ⟨⟨j + 1, by omega, by go_num, hown', hb3⟩, ?_⟩
          simp [intOf]; omega
    · obtain rfl : j = ps.length := by omega
      rw [List.take_length] at hown
      have hr := hid hown.2
      obtain ⟨ad2, cap2, hv, hob, hp2⟩ := Prow.ofRow hown h.num
      subst hv
      have hp2h := hid hp2
      clear hown hp2 hob
      go_wp2_with fail
      go_ret
      refine ⟨ad2, cap2, rfl, hp2h.out, fun e => ?_, hbr⟩
      subst e
      rcases hr.out with ⟨e, _⟩ | ⟨g, c, cur, e, _⟩
      · injection e
      · injection e with e1; cases e1

end Go.Proofs.YtjkiagjgnfaknaaDoor
