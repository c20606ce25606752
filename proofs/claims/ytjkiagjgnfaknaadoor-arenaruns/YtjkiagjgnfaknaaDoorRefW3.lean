/- The reference's with. -/
import Derived.Test.YtjkiagjgnfaknaaDoorRwith3
import Derived.Laws.AppendOwnNone
namespace Go.Proofs.YtjkiagjgnfaknaaDoor
open Go.RowKit
set_option linter.unusedVariables false

theorem num_put {ps : List (Int × Int)} {x : Nat} {A s : Int} (hn : ∀ (j : Nat) p, ps[j]? = some p → 0 ≤ p.1 ∧ p.1 < 4294967296) (hx : x ≤ ps.length) (hA : 0 ≤ A ∧ A < 4294967296) : ∀ (j : Nat) p, (putP ps x (A, s))[j]? = some p → 0 ≤ p.1 ∧ p.1 < 4294967296 := by
  intro j p hp
  rw [putP_get hx] at hp
  split at hp
  · cases hp; exact hA
  · exact hn j p hp

set_option maxRecDepth 100000 in
set_option maxHeartbeats 4000000 in
theorem rwith_ok (K : Nat) (ad : Option Addr) (ps : List (Int × Int)) (cap : Nat) (x : Nat) (A s : Int) (w : World) (h : Prow w ad ps) (h0 : ad = none → cap = 0) (hx : x ≤ ps.length) (hl : ps.length ≤ 1000) (hA : 0 ≤ A ∧ A < 4294967296) (ps' : List (Int × Int)) (hp' : putP ps x (A, s) = ps') :
    Calls Tryd.prog 27 #[ra K ad ps.length cap, .int .i64 (x : Int), .agg #[.int .u32 A, .int .i64 s]] w fun e w' => ∃ ad' cap', e = .returned (ra K ad' ps'.length cap') ∧ RB w.heap.size w' ad' ps' ∧ (ad' = none → cap' = 0) ∧ Below w.heap.size w w' := by
  obtain ⟨i0, hif, hz0, hz1, hz2⟩ := info_parts infoRPlace
  obtain ⟨W0, hW0⟩ : ∃ W0, ((w.alloc (.cells #[.int .i64 K, .slice ad ps.length cap] 33)).alloc (.cells #[.int .u32 A, .int .i64 s] 50)).alloc (.cells #[.int .i64 0, .slice none 0 0] 33) = W0 := ⟨_, rfl⟩
  have hb0 : Hid (Below w.heap.size w W0) := by
    rw [← hW0]
    exact (((Below.refl _ _).alloc (Nat.le_refl _) _).alloc (by simp) _).alloc (by simp; omega) _
  have hsz : W0.heap.size = w.heap.size + 3 := by rw [← hW0]; simp
  have k0 : W0.heap[w.heap.size]? = some (.cells #[.int .i64 K, .slice ad ps.length cap] 33 (0, 0)) := by
    rw [← hW0, Below.heap_alloc _ _ _ (by simp; omega), Below.heap_alloc _ _ _ (by simp)]
    exact heap_alloc_new w _
  have k1 : W0.heap[w.heap.size + 1]? = some (.cells #[.int .u32 A, .int .i64 s] 50 (0, 0)) := by
    rw [← hW0, Below.heap_alloc _ _ _ (by simp)]
    have := heap_alloc_new (w.alloc (.cells #[.int .i64 K, .slice ad ps.length cap] 33)) (.cells #[.int .u32 A, .int .i64 s] 50)
    simpa using this
  have k2 : W0.heap[w.heap.size + 1 + 1]? = some (.cells #[.int .i64 0, .slice none 0 0] 33 (0, 0)) := by
    rw [← hW0]
    have := heap_alloc_new ((w.alloc (.cells #[.int .i64 K, .slice ad ps.length cap] 33)).alloc (.cells #[.int .u32 A, .int .i64 s] 50)) (.cells #[.int .i64 0, .slice none 0 0] 33)
    simpa [Nat.add_assoc] using this
  have hk : Hid (∀ y, Below (w.heap.size + 3) W0 y → y.heap[w.heap.size]? = some (.cells #[.int .i64 K, .slice ad ps.length cap] 33 (0, 0)) ∧ y.heap[w.heap.size + 1]? = some (.cells #[.int .u32 A, .int .i64 s] 50 (0, 0)) ∧ y.heap[w.heap.size + 1 + 1]? = some (.cells #[.int .i64 0, .slice none 0 0] 33 (0, 0)) ∧ Below w.heap.size w y) := fun y hy =>
    ⟨(hy.block _ (by omega)).trans k0, (hy.block _ (by omega)).trans k1, (hy.block _ (by omega)).trans k2, hb0.out.trans (hy.mono (by omega))⟩
  have hp0 := hid (h.below hb0.out)
  have hnum := hid (num_put (s := s) h.num hx hA)
  obtain ⟨c00, c01⟩ := blk2 k0
  obtain ⟨c10, c11⟩ := blk2 k1
  have hnil : W0.ownsRow (w.heap.size + 3) 50 2 (.slice none 0 0) 0 [] := World.ownsRow_nil _ _ _ _
  have hpl : Hid ((ps ++ [(A, s)]).length = ps.length + 1) := by simp [Hid]
  rw [hp'] at hnum
  clear h k0 k1 k2
  go_enter Tryd.func27, Tryd.ntmps27
  cases ad with
  | none =>
    obtain rfl := h0 rfl
    have := hp0.out.nil rfl
    subst this
    obtain rfl : x = 0 := by simpa using hx
    have hnila := hnil.alloc (.cells #[.int .u32 A, .int .i64 s] 50)
    have hbN := hid ((Below.refl (w.heap.size + 3) W0).alloc (by omega) (.cells #[.int .u32 A, .int .i64 s] 50))
    have hnew := pcs_two_newR W0 A s
    rw [hsz] at hnew
    simp only [List.length_nil] at hW0 hk c01
    go_wp2_with (at_builtin; refine wpList_append_own_none rfl (.tmp 8) (.tmp 10) 22 rfl (w.heap.size + 3) 50 i0 2 Tryd.underlying22 hif _ 0 [] rfl hnil rfl ?_; refine Hid.out ?_)
    refine hid ?_
    go_wp2_with (at_builtin; refine wpList_append_own _ rfl (.tmp 16) (.tmp 18) 22 rfl (w.heap.size + 3) 50 i0 _ 2 16 Tryd.underlying22 hif hz0 hz1 hz2 rfl (by decide) _ _ _ rfl hnila ⟨w.heap.size + 3, 0, none⟩ 1 1 (pcs [(A, s)]) rfl rfl hnew (pcs_one _) (by decide) (by decide) (by simp; omega) ?_; intro v3 w3 hown3 hgrow3 _; refine Hid.out ?_)
    have hb3 := hbN.out.grown hgrow3 (by simp; omega) (fun k hk => by cases hk)
    rw [List.nil_append] at hown3
    have hput : [(A, s)] = ps' := hp'
    have hlen : ps'.length = 1 := by rw [← hput]; rfl
    have hown4 : w3.ownsRow (w.heap.size + 3) 50 2 v3 ps'.length (pcs ps') := by rw [hlen, ← hput]; exact hown3
    obtain ⟨ad3, cap3, rfl, hn3, hr3⟩ := RB.ofRow (lo := w.heap.size) hown4 hnum.out (by omega)
    obtain ⟨k0, k1, k2, bw⟩ := hk.out w3 hb3
    obtain ⟨y0, y1⟩ := blk2 k0
    obtain ⟨z0, z1⟩ := blk2 k2
    obtain ⟨f0, f1⟩ := run2 k2
    have hk2 := hid k2
    replace bw := hid bw
    replace hr3 := hid hr3
    have hne := hid (fun a (ha : ad3 = some a) => (show w.heap.size + 3 ≤ a.block by
      rcases hown3.2 with ⟨e, _⟩ | ⟨g, c, cur, e, hg, _⟩
      · injection e with e1; rw [e1] at ha; cases ha
      · injection e with e1; rw [e1] at ha; cases ha; exact hg))
    clear hlen hput hown3 hown4 hgrow3 hnil hnila hnew c00 c01 c10 c11 k0 k1 k2 hb3
    refine hid ?_
    go_wp2_with fail
    have hfin := set2_block hk2.out (.int .i64 K) (.slice ad3 ps'.length cap3)
    refine bodyPost_ret (results_cell_row rfl _ _ (w.heap.size + 1 + 1) 33 _ (0, 0) _ rfl hfin Tryd.underlying33 rfl (by kernel_rfl)) rfl ?_
    refine ⟨ad3, cap3, rfl, hr3.out.same (fun a ha => ?_), hn3, (bw.out.setCell (by simp; omega) _).setCell (by simp; omega) _⟩
    have := hne.out a ha
    rw [Below.heap_setCell _ _ _ _ (by simp; omega), Below.heap_setCell _ _ _ _ (by simp; omega)]
  | some a =>
    have hcl := hp0.out.cells
    go_wp2_with (at_builtin; refine wpList_append_own _ rfl (.tmp 8) (.tmp 10) 22 rfl (w.heap.size + 3) 50 i0 _ 2 16 Tryd.underlying22 hif hz0 hz1 hz2 rfl (by decide) _ _ _ rfl hnil a ps.length cap (pcs ps) rfl (pcs_length ps) hcl (pcs_one ps) (by unfold maxLen; omega) (by omega) (by omega) ?_; intro v3 w3 hown3 hgrow3 _; refine Hid.out ?_)
    have hb3 := (Below.refl (w.heap.size + 3) _).grown hgrow3 (by omega) (fun k hk => by cases hk)
    rw [Nat.zero_add, List.nil_append] at hown3
    have hsz3 := hb3.size
    rw [hsz] at hsz3
    by_cases hxe : x = ps.length
    · subst hxe
      obtain ⟨ad3, cap3, rfl⟩ : ∃ ad3 cap3, v3 = .slice ad3 ps.length cap3 := by
        rcases hown3.2 with ⟨rfl, e⟩ | ⟨g, c, cur, rfl, _⟩
        · rw [e]; exact ⟨_, _, rfl⟩
        · exact ⟨_, _, rfl⟩
      have hput : ps ++ [(A, s)] = ps' := by rw [← hp']; unfold putP; rw [if_pos rfl]
      obtain ⟨k0, k1, k2, bw⟩ := hk.out w3 hb3
      obtain ⟨x0, x1⟩ := blk2 k1
      have hown4 := hown3.alloc (.cells #[.int .u32 A, .int .i64 s] 50)
      have hb4 := hid (hb3.alloc (by omega) (.cells #[.int .u32 A, .int .i64 s] 50))
      have hnew := pcs_two_newR w3 A s
      have hlt3 := hid hown3.lt
      clear hgrow3 hnil c00 c01 c10 c11 k0 k1 k2 bw hown3 hb3 hcl
      refine hid ?_
      go_wp2_with (at_builtin; refine wpList_append_own _ rfl (.tmp 16) (.tmp 18) 22 rfl (w.heap.size + 3) 50 i0 _ 2 16 Tryd.underlying22 hif hz0 hz1 hz2 rfl (by decide) _ _ _ rfl hown4 ⟨w3.heap.size, 0, none⟩ 1 1 (pcs [(A, s)]) rfl rfl hnew (pcs_one _) (by unfold maxLen; omega) (by omega) (by simp; omega) ?_; intro v5 w5 hown5 hgrow5 _; refine Hid.out ?_)
      have hb5 := hb4.out.grown hgrow5 (by simp; omega) (fun k hk => (hlt3.out k hk).1)
      rw [← pcs_append, ← hpl.out, hput] at hown5
      obtain ⟨ad5, cap5, rfl, hn5, hr5⟩ := RB.ofRow (lo := w.heap.size) hown5 hnum.out (by omega)
      obtain ⟨k0, k1, k2, bw⟩ := hk.out w5 hb5
      obtain ⟨y0, y1⟩ := blk2 k0
      obtain ⟨z0, z1⟩ := blk2 k2
      obtain ⟨f0, f1⟩ := run2 k2
      have hk2 := hid k2
      replace bw := hid bw
      replace hr5 := hid hr5
      have hne := hid (fun a (ha : ad5 = some a) => (show w.heap.size + 3 ≤ a.block by
        rcases hown5.2 with ⟨e, _⟩ | ⟨g, c, cur, e, hg, _⟩
        · injection e with e1; rw [e1] at ha; cases ha
        · injection e with e1; rw [e1] at ha; cases ha; exact hg))
      clear hown5 hgrow5 hown4 hnew x0 x1 k0 k1 k2 hb5
      refine hid ?_
      go_wp2_with fail
      have hfin := set2_block hk2.out (.int .i64 K) (.slice ad5 ps'.length cap5)
      refine bodyPost_ret (results_cell_row rfl _ _ (w.heap.size + 1 + 1) 33 _ (0, 0) _ rfl hfin Tryd.underlying33 rfl (by kernel_rfl)) rfl ?_
      refine ⟨ad5, cap5, rfl, hr5.out.same (fun a ha => ?_), hn5, (bw.out.setCell (by simp; omega) _).setCell (by simp; omega) _⟩
      have := hne.out a ha
      rw [Below.heap_setCell _ _ _ _ (by simp; omega), Below.heap_setCell _ _ _ _ (by simp; omega)]
    · have hxl : x < ps.length := by omega
      obtain ⟨g, cap3, hv, hg, hgl⟩ := hown3.form (by omega)
      subst hv
      obtain ⟨⟨B, r⟩, hxp⟩ : ∃ p, ps[x]? = some p := ⟨_, List.getElem?_eq_getElem hxl⟩
      obtain ⟨hcg, hcg1⟩ := pcs_get ps x _ hxp
      rw [← hown3.cellAt _ (by omega)] at hcg
      rw [← hown3.cellAt _ (by omega)] at hcg1
      have hzg := hown3.frozenAt (x * 2)
      have hzg1 := hown3.frozenAt (x * 2 + 1)
      have hput : ps.set x (A, s) = ps' := by rw [← hp']; unfold putP; rw [if_neg hxe]
      have hlen : ps'.length = ps.length := by rw [← hput, List.length_set]
      obtain ⟨o1, g1⟩ := hown3.stored (x * 2) (.int .u32 A)
      obtain ⟨o2, g2⟩ := o1.stored (x * 2 + 1) (.int .i64 s)
      rw [← pcs_set ps x (A, s)] at o2
      have o3 : ((w3.setCell ⟨g, x * 2, none⟩ (.int .u32 A)).setCell ⟨g, x * 2 + 1, none⟩ (.int .i64 s)).ownsRow (w.heap.size + 3) 50 2 (.slice (some ⟨g, 0, none⟩) ps.length cap3) ps'.length (pcs ps') := by
        rw [hlen, ← hput]; exact o2
      obtain ⟨ad5, cap5, hv5, hn5, hr5⟩ := RB.ofRow (lo := w.heap.size) o3 hnum.out (by omega)
      injection hv5 with e1 e2 e3
      subst e1 e3
      clear e2
      replace hlen := hid hlen
      replace hput := hid hput
      have hb4 := (hb3.setCell (p := ⟨g, x * 2, none⟩) hg (.int .u32 A)).setCell (p := ⟨g, x * 2 + 1, none⟩) hg (.int .i64 s)
      obtain ⟨k0, k1, k2, bw⟩ := hk.out _ hb3
      obtain ⟨x0, x1⟩ := blk2 k1
      obtain ⟨W, hW⟩ : ∃ W, (w3.setCell ⟨g, x * 2, none⟩ (.int .u32 A)).setCell ⟨g, x * 2 + 1, none⟩ (.int .i64 s) = W := ⟨_, rfl⟩
      rw [hW] at hr5 hb4
      obtain ⟨l0, l1, l2, lw⟩ := hk.out _ hb4
      obtain ⟨y0, y1⟩ := blk2 l0
      obtain ⟨z0, z1⟩ := blk2 l2
      obtain ⟨f0, f1⟩ := run2 l2
      have hk2 := hid l2
      replace lw := hid lw
      replace hr5 := hid hr5
      clear hgrow3 hnil c00 c01 c10 c11 k0 k1 k2 bw hown3 hb3 hcl o1 o2 o3 g1 g2 hxp l0 l1 l2 hb4 hgl
      refine hid ?_
      go_wp2_with fail
      have hfin := set2_block hk2.out (.int .i64 K) (.slice (some ⟨g, 0, none⟩) ps.length cap3)
      refine bodyPost_ret (results_cell_row rfl _ _ (w.heap.size + 1 + 1) 33 _ (0, 0) _ rfl hfin Tryd.underlying33 rfl (by kernel_rfl)) rfl ?_
      refine ⟨some ⟨g, 0, none⟩, cap3, by rw [hlen.out], hr5.out.same (fun a ha => ?_), hn5, (lw.out.setCell (by simp; omega) _).setCell (by simp; omega) _⟩
      cases ha
      rw [Below.heap_setCell _ _ _ _ (by simp; omega), Below.heap_setCell _ _ _ _ (by simp; omega)]

end Go.Proofs.YtjkiagjgnfaknaaDoor
