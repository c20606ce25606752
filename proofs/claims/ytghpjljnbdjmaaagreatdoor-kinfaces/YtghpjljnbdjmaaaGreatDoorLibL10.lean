/- 'ints', 'corner', 'sure', walked. -/
import Derived.Test.YtghpjljnbdjmaaaGreatDoorRefX10
import Derived.Test.YtghpjljnbdjmaaaGreatDoorTLay10
namespace Go.Proofs.YtghpjljnbdjmaaaGreatDoor
open Go.RowKit
set_option linter.unusedVariables false

set_option maxRecDepth 100000 in
set_option maxHeartbeats 1000000 in
theorem ints_ok (u v : Value) (zs : List Nat) (w : World) (hu : NL w u zs) (hv : NL w v zs) :
    Calls Tryz.prog 13 #[u, v] w fun e w' => e = .returned (.bool true) ∧ ∃ m, w' = w.drewN m := by
  obtain ⟨a, n, ca, rfl, hl, ⟨hn1, _, _⟩, hca, ha⟩ := hu
  obtain ⟨b, n', cb, rfl, hl2, ⟨hn2, _, _⟩, hcb, hb⟩ := hv
  obtain rfl : n' = n := by rw [← hl, ← hl2]
  replace ha := hid ha
  replace hb := hid hb
  replace hl := hid hl
  clear hl2
  unfold maxLen at hca
  go_enter Tryz.func13, Tryz.ntmps13
  go_wp2_with fail
  go_loopw [5] (fun u wr => ∃ j : Nat, j ≤ n' ∧ u = .int .i64 (j : Int) ∧ Hid (∃ m, wr = w.drewN m))
    (fun u _ => n' - (intOf u).toNat)
  case atStart => exact ⟨0, by omega, by go_num, ⟨0, rfl⟩⟩
  case round =>
    obtain ⟨j, hj, rfl, hw⟩ := hrel
    rcases Nat.lt_or_ge j n' with hlt | hge
    · obtain ⟨z, hz⟩ : ∃ z, zs[j]? = some z := ⟨_, List.getElem?_eq_getElem (by rw [hl.out]; exact hlt)⟩
      obtain ⟨b1, o1, rfl, c1⟩ := ha.out j z hz
      obtain ⟨b2, o2, rfl, c2⟩ := hb.out j z hz
      have c1' : wr.cell? ⟨b1, o1 + j, none⟩ = some (.int .i64 (z : Int)) := by
        obtain ⟨m, hm⟩ := hw.out
        rw [hm]; exact c1
      have c2' : wr.cell? ⟨b2, o2 + j, none⟩ = some (.int .i64 (z : Int)) := by
        obtain ⟨m, hm⟩ := hw.out
        rw [hm]; exact c2
      have hw2 : Hid (∃ m, wr.drew = w.drewN m) := by
        obtain ⟨m, hm⟩ := hw.out
        exact ⟨m + 1, by rw [hm]; rfl⟩
      clear hz c1 c2
      have i1 : (0 : Int) ≤ (j : Int) := by omega
      have i2 : (j : Int) < (n' : Int) := by omega
      go_wp2_with fail
      go_region_held3 (fun y => y.cell? ⟨b1, o1 + j, none⟩ = some (.int .i64 (z : Int)) ∧ y.cell? ⟨b2, o2 + j, none⟩ = some (.int .i64 (z : Int))) (go_keep) (fail)
      go_wp2_with fail
      go_roundw
      case rel => exact ⟨j + 1, by omega, by go_num, hw2⟩
      case measure => simp [intOf]; omega
    · obtain rfl : j = n' := by omega
      go_wp2_with fail
      go_ret
      exact ⟨rfl, hw.out⟩

theorem mod_inN (z : Int) (C : Nat) (h1 : 1 ≤ C) (h2 : C ≤ 1048576) : ∃ a : Nat, wrap64 ((IntKind.u64.wrap z).tmod (C : Int)) = (a : Int) ∧ a < C ∧ IntKind.i64.wrap ((IntKind.u64.wrap z).tmod (C : Int)) = (a : Int) := by
  have e : (IntKind.u64.wrap z).tmod (C : Int) = z % 18446744073709551616 % (C : Int) := by
    rw [IntKind.wrap_u64, Int.tmod_eq_emod_of_nonneg (by omega)]
  have g1 : 0 ≤ z % 18446744073709551616 % (C : Int) := Int.emod_nonneg _ (by omega)
  have g2 : z % 18446744073709551616 % (C : Int) < C := Int.emod_lt_of_pos _ (by omega)
  rw [e]
  generalize z % 18446744073709551616 % (C : Int) = r at g1 g2
  refine ⟨r.toNat, ?_, by omega, ?_⟩
  · rw [IntWalk.wrap64_in r ⟨by omega, by omega⟩]
    omega
  · rw [IntKind.wrap_i64]; omega

/-- 'corner's three blocks. -/
def Ck (s : Nat) (E : Nat) (lv : Value) (a0 a1 : Int) (y : World) : Prop :=
  y.heap[s]? = some (.cells #[.int .i64 (E : Int), lv] 27 (0, 0)) ∧ y.heap[s + 1]? = some (.cells #[.int .i64 a0, .int .i64 a1] 23 (0, 0)) ∧ y.heap[s + 2]? = some (.cells #[.int .i64 0, .int .i64 0] 23 (0, 0))

theorem Ck.new (w : World) (E : Nat) (lv : Value) (a0 a1 : Int) : Ck w.heap.size E lv a0 a1 (((w.alloc (.cells #[.int .i64 (E : Int), lv] 27)).alloc (.cells #[.int .i64 a0, .int .i64 a1] 23)).alloc (.cells #[.int .i64 0, .int .i64 0] 23)) := by
  obtain ⟨w1, hw1⟩ : ∃ w1, w.alloc (.cells #[.int .i64 (E : Int), lv] 27) = w1 := ⟨_, rfl⟩
  have s1 : w1.heap.size = w.heap.size + 1 := by rw [← hw1]; exact World.size_alloc _ _
  have h1 : w1.heap[w.heap.size]? = some (.cells #[.int .i64 (E : Int), lv] 27 (0, 0)) := by rw [← hw1]; exact heap_alloc_new w _
  rw [hw1]
  obtain ⟨w2, hw2⟩ : ∃ w2, w1.alloc (.cells #[.int .i64 a0, .int .i64 a1] 23) = w2 := ⟨_, rfl⟩
  have s2 : w2.heap.size = w.heap.size + 2 := by rw [← hw2, World.size_alloc, s1]
  have h2 : w2.heap[w.heap.size + 1]? = some (.cells #[.int .i64 a0, .int .i64 a1] 23 (0, 0)) := by rw [← hw2, ← s1]; exact heap_alloc_new w1 _
  have b2 : Below w1.heap.size w1 w2 := by rw [← hw2]; exact balloc _ _
  rw [hw2]
  have b4 := balloc w2 (.cells #[.int .i64 0, .int .i64 0] 23)
  have h4 := heap_alloc_new w2 (.cells #[.int .i64 0, .int .i64 0] 23)
  rw [s2] at h4
  refine ⟨?_, ?_, h4⟩
  · rw [b4.block _ (by omega), b2.block _ (by omega)]; exact h1
  · rw [b4.block _ (by omega)]; exact h2

theorem pset_al {w : World} {g : Nat} {u v : Value} (h : w.heap[g]? = some (.cells #[u, v] 23 (0, 0))) (a b : Value) : Al w ((w.setCell ⟨g, 0, none⟩ a).setCell ⟨g, 1, none⟩ b) := fun k hk => by
  have hne : k ≠ g := fun e => by
    subst e
    rcases hk with hk | hk
    · exact absurd (hk.uniq ⟨_, _, h⟩) (by decide)
    · exact absurd (hk.uniq ⟨_, _, h⟩) (by decide)
  rw [Below.heap_setCell _ _ _ _ hne, Below.heap_setCell _ _ _ _ hne]

set_option maxRecDepth 100000 in
set_option maxHeartbeats 1000000 in
theorem corner_raw (tv : Value) (E V : Nat) (R : Nat → List Nat) (c0 c1 : Int) (w : World) (hv : RT w tv E V R) :
    Calls Tryz.prog 65 #[tv, .agg #[.int .i64 c0, .int .i64 c1], .bool true] w fun x w' => x = .returned (.agg #[.int .i64 c0, .int .i64 c1]) ∧ Below w.heap.size w w' := by
  obtain ⟨lv, rfl, ad, cap, rfl, _⟩ := hv
  have hk := hid (Ck.new w E (.slice ad V cap) c0 c1)
  obtain ⟨w1, hw1⟩ : ∃ w1, ((w.alloc (.cells #[.int .i64 (E : Int), .slice ad V cap] 27)).alloc (.cells #[.int .i64 c0, .int .i64 c1] 23)).alloc (.cells #[.int .i64 0, .int .i64 0] 23) = w1 := ⟨_, rfl⟩
  have hb1 : Hid (Below w.heap.size w w1) := by
    rw [← hw1]
    exact hid ((((Below.refl w.heap.size w).alloc (Nat.le_refl _) _).alloc (by simp) _).alloc (by simp; omega) _)
  rw [hw1] at hk
  obtain ⟨q0, q1, _, _⟩ := blk2 hk.out.2.1
  obtain ⟨y1, y2, y3, y4⟩ := blk2 hk.out.2.2
  have hfin := hid (set2_block hk.out.2.2 (.int .i64 c0) (.int .i64 c1))
  have hbl := hid (below2 hb1.out (show w.heap.size ≤ w.heap.size + 2 by omega) (.int .i64 c0) (.int .i64 c1))
  replace hw1 := hid hw1
  go_enter Tryz.func65, Tryz.ntmps65
  go_upto_region 1 with fail
  rw [hw1.out]
  go_wp2_with fail
  refine bodyPost_ret (results_cell_row rfl _ _ (w.heap.size + 2) 23 _ (0, 0) _ rfl hfin.out Tryz.underlying23 rfl (by kernel_rfl)) rfl ?_
  exact ⟨rfl, hbl.out⟩

set_option maxRecDepth 100000 in
set_option maxHeartbeats 2000000 in
theorem corner_ok (tv : Value) (E V : Nat) (R : Nat → List Nat) (c0 c1 : Int) (w : World) (hv : RT w tv E V R) (ht : Tn V E R) (hV1 : 1 ≤ V) (hV : V ≤ 1000) (hE : E ≤ 100) :
    Calls Tryz.prog 65 #[tv, .agg #[.int .i64 c0, .int .i64 c1], .bool false] w fun x w' => ∃ (u : Nat) (b : Int), x = .returned (.agg #[.int .i64 (u : Int), .int .i64 b]) ∧ u < V ∧ Co V R (u : Int) b ∧ Below w.heap.size w w' := by
  obtain ⟨u, hu1, hu, hu2⟩ := mod_inN c0 V hV1 (by omega)
  obtain ⟨lv, rfl, hr⟩ := hv
  have hlen := ht.len hu
  have hr0 := hid hr
  obtain ⟨ad, cap, rfl, hcap, hcap2, hro⟩ := hr
  obtain ⟨b1, o1, x, rfl, cx0, hx⟩ := hro u hu
  have hk := hid (Ck.new w E (.slice (some ⟨b1, o1, none⟩) V cap) c0 c1)
  obtain ⟨w1, hw1⟩ : ∃ w1, ((w.alloc (.cells #[.int .i64 (E : Int), .slice (some ⟨b1, o1, none⟩) V cap] 27)).alloc (.cells #[.int .i64 c0, .int .i64 c1] 23)).alloc (.cells #[.int .i64 0, .int .i64 0] 23) = w1 := ⟨_, rfl⟩
  have hb1 : Hid (Below w.heap.size w w1) := by
    rw [← hw1]
    exact hid ((((Below.refl w.heap.size w).alloc (Nat.le_refl _) _).alloc (by simp) _).alloc (by simp; omega) _)
  rw [hw1] at hk
  have cx := (hb1.out.cell (World.block_lt_of_cell? _ _ cx0)).trans cx0
  have hb1l : b1 < w.heap.size := World.block_lt_of_cell? _ _ cx0
  replace hx := hx.below hb1.out
  obtain ⟨ad2, n2, cap2, rfl, hn2, _, hc3, hcell⟩ := hx
  rw [hn2] at hlen
  obtain ⟨p0, p1, _, _⟩ := blk2 hk.out.1
  obtain ⟨q0, q1, _, _⟩ := blk2 hk.out.2.1
  obtain ⟨y1, y2, y3, y4⟩ := blk2 hk.out.2.2
  have huV : IntKind.u64.wrap (V : Int) = (V : Int) := by rw [IntKind.wrap_u64]; omega
  have i1 : (0 : Int) ≤ (u : Int) := by omega
  have i2 : (u : Int) < (V : Int) := by omega
  have z1 : ¬ (V = 0) := by omega
  have z2 : ¬ ((V : Int) = 0) := by omega
  replace hw1 := hid hw1
  replace hn2 := hid hn2
  replace hcell := hid hcell
  clear hro cx0
  by_cases h0 : n2 = 0
  · subst h0
    have hfin := hid (set2_block hk.out.2.2 (.int .i64 (u : Int)) (.int .i64 (-1)))
    have hbl := hid (below2 hb1.out (show w.heap.size ≤ w.heap.size + 2 by omega) (.int .i64 (u : Int)) (.int .i64 (-1)))
    have hco : Hid (Co V R (u : Int) (-1)) := ⟨u, rfl, hu, .inl ⟨rfl, List.eq_nil_of_length_eq_zero hn2.out⟩⟩
    clear hu2
    go_enter Tryz.func65, Tryz.ntmps65
    go_upto_region 1 with fail
    rw [hw1.out]
    go_wp2_with fail
    refine bodyPost_ret (results_cell_row rfl _ _ (w.heap.size + 2) 23 _ (0, 0) _ rfl hfin.out Tryz.underlying23 rfl (by kernel_rfl)) rfl ?_
    exact ⟨u, -1, rfl, hu, hco.out, hbl.out⟩
  · obtain ⟨k, hk1, hkn, hk2⟩ := mod_inN c1 n2 (by omega) (by omega)
    obtain ⟨y, hy⟩ : ∃ y, (R u)[k]? = some y := ⟨_, List.getElem?_eq_getElem (by rw [hn2.out]; exact hkn)⟩
    obtain ⟨g, o, rfl, cy⟩ := hcell.out k y hy
    have hco : Hid (Co V R (u : Int) (y : Int)) := ⟨u, rfl, hu, .inr ⟨y, rfl, List.mem_of_getElem? hy⟩⟩
    have hgl : g < w.heap.size := by
      obtain ⟨ad', cap', e1, _, _, hro⟩ := hr0.out
      obtain ⟨b', o', x', e2, e3, ad3, n3, cap3, e4, _, _, _, hc⟩ := hro u hu
      rw [e2] at e1
      simp only [Value.slice.injEq, Option.some.injEq, Addr.mk.injEq] at e1
      obtain ⟨⟨rfl, rfl, _⟩, _⟩ := e1
      have e5 := (hb1.out.cell (World.block_lt_of_cell? _ _ e3)).trans e3
      rw [cx] at e5
      rw [e4] at e5
      simp only [Option.some.injEq, Value.slice.injEq] at e5
      obtain ⟨rfl, _, _⟩ := e5
      obtain ⟨g', o', e6, e7⟩ := hc k y hy
      simp only [Option.some.injEq, Addr.mk.injEq] at e6
      obtain ⟨rfl, _⟩ := e6
      exact World.block_lt_of_cell? _ _ e7
    have t1 : ((n2 : Int) == 0) = false := by simp; omega
    have z3 : ¬ ((n2 : Int) = 0) := by omega
    have hun : IntKind.u64.wrap (n2 : Int) = (n2 : Int) := by rw [IntKind.wrap_u64]; omega
    have i3 : (0 : Int) ≤ (k : Int) := by omega
    have i4 : (k : Int) < (n2 : Int) := by omega
    have hfin := hid (set2_block (w := w1.drew) hk.out.2.2 (.int .i64 (u : Int)) (.int .i64 (y : Int)))
    have hbl := hid (below2 (w := w1.drew) hb1.out.drew (show w.heap.size ≤ w.heap.size + 2 by omega) (.int .i64 (u : Int)) (.int .i64 (y : Int)))
    clear hy hu2
    go_enter Tryz.func65, Tryz.ntmps65
    go_upto_region 1 with fail
    rw [hw1.out]
    go_wp2_with fail
    try rw [hu1]
    go_region_held3 (fun y' => y'.cell? ⟨w.heap.size, 1, none⟩ = some (.slice (some ⟨b1, o1, none⟩) V cap) ∧ y'.cell? ⟨b1, o1 + u, none⟩ = some (.slice (some ⟨g, o, none⟩) n2 cap2) ∧ y'.cell? ⟨w.heap.size + 1, 1, none⟩ = some (.int .i64 c1) ∧ y'.cell? ⟨g, o + k, none⟩ = some (.int .i64 (y : Int))) (first | exact ⟨p1, cx, q1, cy⟩ | exact ⟨(cell_set2 (w := w1.drew) (by show w.heap.size ≠ w.heap.size + 1 + 1; omega) _ _).trans p1, (cell_set2 (w := w1.drew) (by show b1 ≠ w.heap.size + 1 + 1; omega) _ _).trans cx, (cell_set2 (w := w1.drew) (by show w.heap.size + 1 ≠ w.heap.size + 1 + 1; omega) _ _).trans q1, (cell_set2 (w := w1.drew) (by show g ≠ w.heap.size + 1 + 1; omega) _ _).trans cy⟩ | go_keep) (fail)
    go_wp2_with fail
    refine bodyPost_ret (results_cell_row rfl _ _ (w.heap.size + 2) 23 _ (0, 0) _ rfl hfin.out Tryz.underlying23 rfl (by kernel_rfl)) rfl ?_
    exact ⟨u, (y : Int), rfl, hu, hco.out, hbl.out⟩



end Go.Proofs.YtghpjljnbdjmaaaGreatDoor
