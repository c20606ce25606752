/- The reference's Drop and Add. -/
import Derived.Test.YtjkiagjgnfaknaaDoorRefW3
namespace Go.Proofs.YtjkiagjgnfaknaaDoor
open Go.RowKit
set_option linter.unusedVariables false

theorem results_cell4 {P : Program} {fn : Func} {p u v x : Tmp} {ty : TypeId} (h : fn.results = #[.cell p ty, .tmp u, .tmp v, .tmp x]) (tmps : Array Value) (w : World) (g : Nat) (t : TypeId) (cs : Array Value) (fr : Nat × Nat) (d : TypeDesc)
    (hp : tmps.getD p undef = .pointer (some ⟨g, 0, none⟩)) (hg : w.heap[g]? = some (.cells cs t fr))
    (hu : P.underlying ty = some d) (hd : (match d with | .struct _ | .array _ _ => true | _ => false) = true) (hi : (P.info? ty).map (·.size) = some cs.size) :
    (results fn tmps).run P w = .ok (.tuple #[.agg cs, tmps.getD u undef, tmps.getD v undef, tmps.getD x undef]) w := by
  have hp' : tmps[p]?.getD undef = .pointer (some ⟨g, 0, none⟩) := by simpa using hp
  simp [results, h, hp', asAddr, run_loadVar_row w g t ty cs fr d hg hu hd hi]

/-- The two blocks that such a call opens with. -/
theorem two_blocks (w : World) (x y u v : Value) (t : TypeId) :
    ∃ W0, ((w.alloc (.cells #[x, y] t)).alloc (.cells #[u, v] t)) = W0 ∧ Hid (Below w.heap.size w W0) ∧ W0.heap.size = w.heap.size + 2 ∧
      Hid (∀ z, Below (w.heap.size + 2) W0 z → z.heap[w.heap.size]? = some (.cells #[x, y] t (0, 0)) ∧ z.heap[w.heap.size + 1]? = some (.cells #[u, v] t (0, 0)) ∧ Below w.heap.size w z) := by
  refine ⟨_, rfl, ?_, by simp, ?_⟩
  · exact hid (((Below.refl _ _).alloc (Nat.le_refl _) _).alloc (by simp) _)
  · refine hid (fun z hz => ⟨(hz.block _ (by omega)).trans ?_, (hz.block _ (by omega)).trans ?_, ?_⟩)
    · rw [Below.heap_alloc _ _ _ (by simp)]
      exact heap_alloc_new w _
    · have := heap_alloc_new (w.alloc (.cells #[x, y] t)) (.cells #[u, v] t)
      simpa using this
    · exact (((Below.refl _ _).alloc (Nat.le_refl _) _).alloc (by simp) _).trans (hz.mono (by omega))

set_option maxRecDepth 100000 in
set_option maxHeartbeats 4000000 in
theorem rdrop_hit (K : Nat) (ad : Option Addr) (ps : List (Int × Int)) (cap : Nat) (A : Int) (x : Nat) (w : World) (h : Prow w ad ps) (h0 : ad = none → cap = 0) (hl : ps.length ≤ K) (hK : K ≤ 1000) (hat : atP ps x = (A, 1)) (ps' : List (Int × Int)) (hp' : putP ps x (A, if A = 4294967295 then 2 else 0) = ps') :
    Calls Tryd.prog 8 #[ra K ad ps.length cap, .int .u32 A, .int .u32 (x : Int)] w fun e w' => ∃ ad' cap', e = .returned (.tuple #[ra K ad' ps'.length cap', .int .i64 0]) ∧ RB w.heap.size w' ad' ps' ∧ (ad' = none → cap' = 0) ∧ Below w.heap.size w w' := by
  have hxl : x < ps.length := live_lt (by rw [hat])
  have hxp : ps[x]? = some (A, 1) := by rw [← hat]; exact live_get (by rw [hat])
  have hA := h.num x _ hxp
  simp only at hA
  obtain ⟨W0, hW0, hb0, hsz, hk⟩ := two_blocks w (.int .i64 K) (.slice ad ps.length cap) (.int .i64 0) (.slice none 0 0) 33
  have hh := hid h
  have hfd := hid (rfind_ok K ad ps cap A x W0 (h.below hb0.out) hl hK (by omega) 0 (Or.inr (Or.inr ⟨hat, rfl⟩)))
  obtain ⟨m0, _, _⟩ := hk.out W0 (Below.refl _ _)
  obtain ⟨d0, d1⟩ := blk2 m0
  clear h hxp hat m0
  go_enter Tryd.func8, Tryd.ntmps8
  go_wp2_with fail
  try rw [hW0]
  refine hfd.out.mono ?_
  rintro e w1 ⟨rfl, b1⟩
  rw [hsz] at b1
  obtain ⟨k0, k1, bw⟩ := hk.out w1 b1
  have hwi := hid (fun s => rwith_ok K ad ps cap x A s w1 (hh.out.below bw) h0 (by omega) (by omega) hA _ rfl)
  obtain ⟨c0, c1⟩ := blk2 k0
  replace b1 := hid b1
  clear hfd k0 k1 bw hW0 d0 d1
  by_cases hm : A = 4294967295
  · subst hm
    rw [if_pos rfl] at hp'
    subst hp'
    go_wp2_with fail
    refine (hwi.out 2).mono ?_
    rintro e w2 ⟨ad', cap', rfl, hr, hn, b2⟩
    have hb2 := hid (b1.out.trans (b2.mono (by have := b1.out.size; omega)))
    have hsz1 := b1.out.size
    obtain ⟨k0, k1, bw⟩ := hk.out w2 (hb2.out.mono (by omega))
    obtain ⟨z0, z1⟩ := blk2 k1
    obtain ⟨f0, f1⟩ := run2 k1
    have hk1 := hid k1
    have hrh := hid hr
    replace bw := hid bw
    clear hwi hr b2 k0 k1 c0 c1
    go_wp2_with fail
    have hfin := set2_block hk1.out (.int .i64 K) (.slice ad' (putP ps x (4294967295, 2)).length cap')
    refine bodyPost_ret (results_cell2 rfl _ _ (w.heap.size + 1) 33 _ (0, 0) _ rfl hfin Tryd.underlying33 rfl (by kernel_rfl)) rfl ?_
    refine ⟨ad', cap', rfl, (hrh.out.mono (by omega)).same (fun a ha => ?_), hn, (bw.out.setCell (by simp) _).setCell (by simp) _⟩
    have := (hrh.out.2 a ha).1
    rw [Below.heap_setCell _ _ _ _ (by simp; omega), Below.heap_setCell _ _ _ _ (by simp; omega)]
  · have tA : (A == 4294967295) = false := by simpa using hm
    rw [if_neg hm] at hp'
    subst hp'
    go_wp2_with fail
    refine (hwi.out 0).mono ?_
    rintro e w2 ⟨ad', cap', rfl, hr, hn, b2⟩
    have hb2 := hid (b1.out.trans (b2.mono (by have := b1.out.size; omega)))
    have hsz1 := b1.out.size
    obtain ⟨k0, k1, bw⟩ := hk.out w2 (hb2.out.mono (by omega))
    obtain ⟨z0, z1⟩ := blk2 k1
    obtain ⟨f0, f1⟩ := run2 k1
    have hk1 := hid k1
    have hrh := hid hr
    replace bw := hid bw
    clear hwi hr b2 k0 k1 c0 c1
    go_wp2_with fail
    have hfin := set2_block hk1.out (.int .i64 K) (.slice ad' (putP ps x (A, 0)).length cap')
    refine bodyPost_ret (results_cell2 rfl _ _ (w.heap.size + 1) 33 _ (0, 0) _ rfl hfin Tryd.underlying33 rfl (by kernel_rfl)) rfl ?_
    refine ⟨ad', cap', rfl, (hrh.out.mono (by omega)).same (fun a ha => ?_), hn, (bw.out.setCell (by simp) _).setCell (by simp) _⟩
    have := (hrh.out.2 a ha).1
    rw [Below.heap_setCell _ _ _ _ (by simp; omega), Below.heap_setCell _ _ _ _ (by simp; omega)]

set_option maxRecDepth 100000 in
set_option maxHeartbeats 4000000 in
theorem rdrop_err (K : Nat) (ad : Option Addr) (ps : List (Int × Int)) (cap : Nat) (A : Int) (x : Nat) (w : World) (h : Prow w ad ps) (hl : ps.length ≤ K) (hK : K ≤ 1000) (hx : x < 4294967296) (c : Nat) (hc : (K ≤ x ∧ c = 12) ∨ (x < K ∧ atP ps x ≠ (A, 1) ∧ c = 13)) :
    Calls Tryd.prog 8 #[ra K ad ps.length cap, .int .u32 A, .int .u32 (x : Int)] w fun e w' => e = .returned (.tuple #[ra K ad ps.length cap, .int .i64 (c : Int)]) ∧ Below w.heap.size w w' := by
  obtain ⟨W0, hW0, hb0, hsz, hk⟩ := two_blocks w (.int .i64 K) (.slice ad ps.length cap) (.int .i64 0) (.slice none 0 0) 33
  have hfd := hid (rfind_ok K ad ps cap A x W0 (h.below hb0.out) hl hK hx c (hc.imp id Or.inl))
  have tc : ((c : Int) == 0) = false := by rcases hc with ⟨_, rfl⟩ | ⟨_, _, rfl⟩ <;> rfl
  have tc' : ((c : Int) != 0) = true := by rcases hc with ⟨_, rfl⟩ | ⟨_, _, rfl⟩ <;> rfl
  obtain ⟨m0, _, _⟩ := hk.out W0 (Below.refl _ _)
  obtain ⟨d0, d1⟩ := blk2 m0
  clear h hc m0
  go_enter Tryd.func8, Tryd.ntmps8
  go_wp2_with fail
  try rw [hW0]
  refine hfd.out.mono ?_
  rintro e w1 ⟨rfl, b1⟩
  rw [hsz] at b1
  obtain ⟨k0, k1, bw⟩ := hk.out w1 b1
  obtain ⟨c0, c1⟩ := blk2 k0
  obtain ⟨z0, z1⟩ := blk2 k1
  obtain ⟨f0, f1⟩ := run2 k1
  have hk1 := hid k1
  replace bw := hid bw
  clear hfd b1 k0 k1 hW0 d0 d1
  go_wp2_with fail
  have hfin := set2_block hk1.out (.int .i64 K) (.slice ad ps.length cap)
  refine bodyPost_ret (results_cell2 rfl _ _ (w.heap.size + 1) 33 _ (0, 0) _ rfl hfin Tryd.underlying33 rfl (by kernel_rfl)) rfl ?_
  exact ⟨rfl, (bw.out.setCell (by simp) _).setCell (by simp) _⟩

end Go.Proofs.YtjkiagjgnfaknaaDoor
