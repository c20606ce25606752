/- What Add and Drop of an Arena answer, and turn. -/
import Derived.Test.YtjkiagjgnfaknaaDoorFind3
import Derived.Deep.AppendLies
namespace Go.Proofs.YtjkiagjgnfaknaaDoor
open Go.RowKit

theorem grown_alloc {w w' : World} {o : Obj} {row : Option Nat} (h : (w.alloc o).grownBy w' row) : w.grownBy w' row :=
  ⟨h.os, h.tape, h.output, Nat.le_trans (by simp) h.size, fun k hk hr => (h.block k (by simp; omega) hr).trans (Below.heap_alloc _ _ _ hk)⟩

theorem add0 (g i : Nat) : (⟨g, 0, none⟩ : Addr).add i = ⟨g, i, none⟩ := by simp [Addr.add]; omega

/-- Ahead of the place's store. -/
theorem givenA {X W : World} {lo hi ab sb c g x cap pb len : Nat} {bs : List Bool} {qs : List (Int × Int)} {B : Int} (H : Hold X lo hi ab sb (some g) bs c qs) (hsl : X.cell? ⟨ab, 2, none⟩ = some (.slice (some ⟨g, 0, none⟩) len cap)) (hlen : qs.length = len)
    (hx : x < qs.length) (hpb : X.heap.size = pb) (hW : X.alloc (.cells #[.int .u32 B, .int .i64 1] 70) = W) :
    W.cell? ⟨ab, 2, none⟩ = some (.slice (some ⟨g, 0, none⟩) len cap) ∧ W.cell? ⟨pb, 0, none⟩ = some (.int .u32 B) ∧ W.cell? ⟨pb, 1, none⟩ = some (.int .i64 1) ∧ (∃ u, W.cell? ⟨g, x * 2, none⟩ = some u) ∧ W.frozen? ⟨g, x * 2, none⟩ = false ∧
      (∃ u, W.cell? ⟨g, x * 2 + 1, none⟩ = some u) ∧ W.frozen? ⟨g, x * 2 + 1, none⟩ = false := by
  subst hlen
  obtain ⟨hs, pv, c2, z2, hown, hpo, _, _, _, _⟩ := H.row
  obtain rfl : pv = .slice (some ⟨g, 0, none⟩) qs.length cap := Option.some.inj (c2.symm.trans hsl)
  have ho := hown.alloc (.cells #[.int .u32 B, .int .i64 1] 70)
  rw [hW] at ho
  obtain ⟨⟨a, s⟩, hxp⟩ : ∃ p, qs[x]? = some p := ⟨_, List.getElem?_eq_getElem hx⟩
  obtain ⟨e1, e2⟩ := pcs_get qs x _ hxp
  have hn : W.heap[pb]? = some (.cells #[.int .u32 B, .int .i64 1] 70 (0, 0)) := by rw [← hW, ← hpb]; exact heap_alloc_new X _
  refine ⟨?_, ?_, ?_, ⟨_, (ho.cellAt _ (by omega)).trans e1⟩, ho.frozenAt _, ⟨_, (ho.cellAt _ (by omega)).trans e2⟩, ho.frozenAt _⟩
  · rw [← hW, World.cell?_alloc_lt _ _ _ (World.block_lt_of_cell? X _ hsl)]; exact hsl
  · unfold World.cell?; rw [hn]; simp
  · unfold World.cell?; rw [hn]; simp

/-- Behind it. -/
theorem givenB {X W V : World} {lo hi ab sb c g x cap pb rb len : Nat} {bs : List Bool} {qs : List (Int × Int)} {B : Int} (H : Hold X lo hi ab sb (some g) bs c qs) (hsl : X.cell? ⟨ab, 2, none⟩ = some (.slice (some ⟨g, 0, none⟩) len cap)) (hlen : qs.length = len)
    (hpb : X.heap.size = pb) (hW : X.alloc (.cells #[.int .u32 B, .int .i64 1] 70) = W) (hr : X.heap[rb]? = some (.cells #[.int .u32 0, .int .u32 0] 43 (0, 0))) (hgr : g ≠ rb)
    (hV : ((W.setCell ⟨g, x * 2, none⟩ (.int .u32 B)).setCell ⟨g, x * 2 + 1, none⟩ (.int .i64 1)).drew = V) :
    V.cell? ⟨pb, 0, none⟩ = some (.int .u32 B) ∧ V.heap[rb]? = some (.cells #[.int .u32 0, .int .u32 0] 43 (0, 0)) ∧ Hold V lo hi ab sb (some g) bs c (qs.set x (B, 1)) ∧ Turned (fun k => k = g) X V := by
  subst hlen
  obtain ⟨hs, pv, c2, z2, hown, hpo, _, _, hk1, _⟩ := H.row
  obtain rfl : pv = .slice (some ⟨g, 0, none⟩) qs.length cap := Option.some.inj (c2.symm.trans hsl)
  have hgl : g < X.heap.size := (hown.lt g rfl).2
  have hrl : rb < X.heap.size := (Array.getElem?_eq_some_iff.1 hr).1
  have hgW : X.grownBy W (some g) := by
    have := World.grownBy_alloc X (.cells #[.int .u32 B, .int .i64 1] 70) (some g)
    rw [hW] at this
    exact ⟨this.os, this.tape, this.output, this.size, this.block⟩
  have ho : W.ownsRow hs 70 2 (.slice (some ⟨g, 0, none⟩) qs.length cap) qs.length (pcs qs) := by
    have := hown.alloc (.cells #[.int .u32 B, .int .i64 1] 70)
    rw [hW] at this
    exact this
  obtain ⟨o1, g1⟩ := ho.stored (x * 2) (.int .u32 B)
  obtain ⟨o2, g2⟩ := o1.stored (x * 2 + 1) (.int .i64 1)
  have o2 : V.ownsRow hs 70 2 (.slice (some ⟨g, 0, none⟩) qs.length cap) qs.length (((pcs qs).set (x * 2) (.int .u32 B)).set (x * 2 + 1) (.int .i64 1)) := hV ▸ o2
  have g2 : (W.setCell ⟨g, x * 2, none⟩ (.int .u32 B)).grownBy V (some g) := hV ▸ (⟨g2.os, g2.tape, g2.output, g2.size, g2.block⟩ : (W.setCell ⟨g, x * 2, none⟩ (.int .u32 B)).grownBy ((W.setCell ⟨g, x * 2, none⟩ (.int .u32 B)).setCell ⟨g, x * 2 + 1, none⟩ (.int .i64 1)).drew (some g))
  rw [← pcs_set qs x (B, 1), show qs.length = (qs.set x (B, 1)).length by simp] at o2
  have hall : X.grownBy V (some g) := ⟨g2.os.trans (g1.os.trans hgW.os), g2.tape.trans (g1.tape.trans hgW.tape), g2.output.trans (g1.output.trans hgW.output), Nat.le_trans hgW.size (Nat.le_trans g1.size g2.size),
    fun k hk hr => (g2.block k (Nat.lt_of_lt_of_le hk (Nat.le_trans hgW.size g1.size)) hr).trans ((g1.block k (Nat.lt_of_lt_of_le hk hgW.size) hr).trans (hgW.block k hk hr))⟩
  have hX2 := hk1 _ (qs.set x (B, 1)) (by simpa using o2) hall
  refine ⟨?_, (hall.block rb hrl (fun e => hgr (Option.some.inj e).symm)).trans hr, hX2, Turned.ofGrown hall (fun k e => (Option.some.inj e).symm)⟩
  have hn : V.heap[pb]? = some (.cells #[.int .u32 B, .int .i64 1] 70 (0, 0)) := by
    rw [← hV]
    show ((W.setCell ⟨g, x * 2, none⟩ (.int .u32 B)).setCell ⟨g, x * 2 + 1, none⟩ (.int .i64 1)).heap[pb]? = _
    rw [Below.heap_setCell _ _ _ _ (by show pb ≠ g; omega), Below.heap_setCell _ _ _ _ (by show pb ≠ g; omega), ← hW, ← hpb]
    exact heap_alloc_new X _
  unfold World.cell?; rw [hn]; simp

/-- The handle is laid. -/
theorem givenC {V F : World} {lo hi ab sb c g rb : Nat} {bs : List Bool} {qs : List (Int × Int)} {B Y : Int} (H : Hold V lo hi ab sb (some g) bs c qs) (hr : V.heap[rb]? = some (.cells #[.int .u32 0, .int .u32 0] 43 (0, 0))) (hgr : g ≠ rb) (hrb : hi ≤ rb)
    (hF : (V.setCell ⟨rb, 0, none⟩ (.int .u32 B)).setCell ⟨rb, 1, none⟩ (.int .u32 Y) = F) :
    Hold F lo hi ab sb (some g) bs c qs ∧ F.heap[rb]? = some (.cells #[.int .u32 B, .int .u32 Y] 43 (0, 0)) ∧ Turned (fun k => k = rb) V F := by
  subst hF
  have hT : Turned (fun k => k = rb) V ((V.setCell ⟨rb, 0, none⟩ (.int .u32 B)).setCell ⟨rb, 1, none⟩ (.int .u32 Y)) := ((Turned.refl (fun k => k = rb) V).setCell (p := ⟨rb, 0, none⟩) rfl _).setCell (p := ⟨rb, 1, none⟩) rfl _
  refine ⟨H.of hT (fun k hk e => ?_), set2_block hr _ _, hT⟩
  subst e
  rcases hk with ⟨_, h⟩ | h
  · omega
  · exact hgr (Option.some.inj h)

set_option maxRecDepth 100000 in
set_option maxHeartbeats 1000000 in
theorem add_hit (lo hi ab n : Nat) (ob : Option Nat) (ps : List (Int × Int)) (w : World) (h : Arena w lo hi ab ob n ps) (hT : Tab w) (hx : lowP ps < n) :
    Calls Tryd.prog 13 #[.pointer (some ⟨ab, 0, none⟩)] w fun e w' => ∃ ob', e = .returned (.tuple #[hv ((atP ps (lowP ps)).1 + 1) (lowP ps), .nilIface]) ∧
      Arena w' lo hi ab ob' n (putP ps (lowP ps) ((atP ps (lowP ps)).1 + 1, 1)) ∧ Turned (own lo hi ob) w w' ∧ (ob' = ob ∨ ∃ k, ob' = some k ∧ w.heap.size ≤ k) := by
  obtain ⟨i0, hif, hz0, hz1, hz2⟩ := info_parts infoPlace
  have hpos := h.pos
  have hfair := hid h.2
  have hle := h.2.le
  have hb1 : Below w.heap.size w (w.alloc (.cells #[.int .u32 0, .int .u32 0] 43)) := (Below.refl _ _).alloc (Nat.le_refl _) _
  obtain ⟨⟨sb, hh⟩, _⟩ := h.below hb1
  have hc0 := hh.cell0
  obtain ⟨hs, hsl, hsle, hmk⟩ := hh.slots
  obtain ⟨x, hxe⟩ : ∃ x, lowP ps = x := ⟨_, rfl⟩
  have hxl : x ≤ ps.length := hxe ▸ lowP_le ps
  have hat := hid (lowP_at ps)
  have htk := take_hit _ _ _ x _ _ hsl (hT.of (Within.ofBelow hb1 w.heap.size w.heap.size) (by have := World.block_lt_of_cell? w _ (hT 0 (by decide)); exact this)) (hxe ▸ low_least hle hx)
  rw [hxe] at hx hat ⊢
  have hne : ab < w.heap.size := by omega
  clear h hxe
  go_enter Tryd.func13, Tryd.ntmps13
  go_wp2_with fail
  refine htk.mono ?_
  rintro e w2 ⟨rfl, s2, v2⟩
  have hH2 := hid (hmk _ _ s2 v2)
  have ht2 : Hid (Turned (own lo hi ob) w w2) := (Turned.ofBelow hb1 _).trans (Turned.ofWithin v2 (fun k h1 h2 => Or.inl ⟨h1, by omega⟩))
  have hr2 : Hid (w2.heap[w.heap.size]? = some (.cells #[.int .u32 0, .int .u32 0] 43 (0, 0))) := (v2.block _ (by simp) (Or.inr (by omega))).trans (heap_alloc_new w _)
  have hsz2 : w.heap.size < w2.heap.size := by have := v2.size; simp at this; omega
  have hc2 := hH2.out.cell0
  obtain ⟨hs', pv, hcp, hzp, hown, hpo, hsa, hls, hk1, hk2⟩ := hH2.out.row
  have hr := hown.2
  obtain ⟨pa, pc, hpv, hpb, hprow⟩ := Prow.ofRow hown hfair.out.num
  subst hpv
  clear htk hsl hmk hc0 hh s2 v2 hT hr
  by_cases hxe : x = ps.length
  · have hown2 := hown.alloc (.cells #[.int .u32 0, .int .i64 0] 70)
    subst hxe
    clear hprow
    have hnab : (Value.slice pa ps.length pc).ownBlock ≠ some ab := fun e => (hH2.out.pos.2.2.2.2.2 ab (hpo.symm.trans e)).2.2 rfl
    have habl : ab < w2.heap.size := by omega
    have hnews : ∀ j u, (pcs [(0, 0)])[j]? = some u → (w2.alloc (.cells #[.int .u32 0, .int .i64 0] 70)).cell? ((⟨w2.heap.size, 0, none⟩ : Addr).add j) = some u := by
      intro j u hu
      rw [add0]
      have hn := heap_alloc_new w2 (.cells #[.int .u32 0, .int .i64 0] 70)
      unfold World.cell?
      rw [hn]
      simpa [pcs] using hu
    have hal : Hid (Turned (own lo hi ob) w (w2.alloc (.cells #[.int .u32 0, .int .i64 0] 70))) := ht2.out.alloc _
    go_wp2_with (at_builtin; refine wpList_append_lies _ rfl (.tmp 34) (.tmp 36) 30 rfl hs' 70 i0 _ 2 16 Tryd.underlying30 hif hz0 hz1 hz2 rfl (by decide) _ _ _ rfl hown2 ⟨w2.heap.size, 0, none⟩ 1 1 (pcs [(0, 0)]) rfl rfl hnews (pcs_one _) (by decide) (by unfold maxLen; omega) (by omega) (by simp; omega) _ rfl ?_; intro g cap w3 hown3 hgrow3 hg3 hlt3; refine Hid.out ?_)
    have hblk : w3.heap[ab]? = w2.heap[ab]? := (hgrow3.block ab (by simp; omega) (fun e => hnab e.symm)).trans (Below.heap_alloc _ _ _ habl)
    have hc3 : w3.cell? ⟨ab, 2, none⟩ = some (.slice pa ps.length pc) := (World.cell?_of_block hblk).trans hcp
    have hz3 : w3.frozen? ⟨ab, 2, none⟩ = false := (World.frozen?_of_block hblk).trans hzp
    have hgab : g ≠ ab := by
      intro e; subst e
      rcases hg3 with h' | h'
      · exact hnab h'
      · simp at h'; omega
    have elen : (ps ++ [((0 : Int), (0 : Int))]).length = ps.length + 1 := by simp
    rw [← pcs_append] at hown3
    have hown4 : w3.ownsRow hs' 70 2 (.slice (some ⟨g, 0, none⟩) (ps.length + 1) cap) (ps ++ [(0, 0)]).length (pcs (ps ++ [(0, 0)])) := by rw [elen]; exact hown3
    obtain ⟨hcg, hcg1⟩ := pcs_get (ps ++ [(0, 0)]) ps.length (0, 0) (by simp)
    rw [← hown3.cellAt _ (by omega)] at hcg
    rw [← hown3.cellAt _ (by omega)] at hcg1
    have hzg := hown3.frozenAt (ps.length * 2)
    have hzg1 := hown3.frozenAt (ps.length * 2 + 1)
    have hH3 := hid (hk2 w3 (ps ++ [(0, 0)]) _ hown4 (hpo ▸ grown_alloc hgrow3) (by simpa [Value.ownBlock] using hgab))
    have hblkr : w3.heap[w.heap.size]? = w2.heap[w.heap.size]? := (hgrow3.block _ (by simp; omega) (fun e => by have := (hown.lt _ e.symm); have := hpos.2.2.2.2.2 _ (hpo.symm.trans e.symm); omega)).trans (Below.heap_alloc _ _ _ hsz2)
    have hr3 : Hid ((w3.setCell ⟨ab, 2, none⟩ (.slice (some ⟨g, 0, none⟩) (ps.length + 1) cap)).heap[w.heap.size]? = some (.cells #[.int .u32 0, .int .u32 0] 43 (0, 0))) := (Below.heap_setCell w3 ⟨ab, 2, none⟩ _ w.heap.size (by show w.heap.size ≠ ab; omega)).trans (hblkr.trans hr2.out)
    have hgr : g ≠ w.heap.size := by
      intro e; subst e
      rcases hg3 with h' | h'
      · have := hpos.2.2.2.2.2 _ (hpo.symm.trans h'); omega
      · simp at h'; omega
    have hg3T : Hid (Turned (own lo hi ob) (w2.alloc (.cells #[.int .u32 0, .int .i64 0] 70)) w3) := Turned.ofGrown hgrow3 (fun k hk => Or.inr (hpo.symm.trans hk))
    have hsl3 : Hid ((w3.setCell ⟨ab, 2, none⟩ (.slice (some ⟨g, 0, none⟩) (ps.length + 1) cap)).cell? ⟨ab, 2, none⟩ = some (.slice (some ⟨g, 0, none⟩) (ps.length + 1) cap)) := World.cell?_setCell_same' _ _ _ (by rw [hc3]; rfl)
    have hgh := hid hg3
    clear hnews hblk hown hown3 hown4 hgrow3 hblkr hg3
    refine hid ?_
    go_wp2_with fail
    obtain ⟨W, hW⟩ : ∃ W, (w3.setCell ⟨ab, 2, none⟩ (.slice (some ⟨g, 0, none⟩) (ps.length + 1) cap)).alloc (.cells #[.int .u32 1, .int .i64 1] 70) = W := ⟨_, rfl⟩
    obtain ⟨pb, hpb⟩ : ∃ pb, w3.heap.size = pb := ⟨_, rfl⟩
    have hpb' : (w3.setCell ⟨ab, 2, none⟩ (.slice (some ⟨g, 0, none⟩) (ps.length + 1) cap)).heap.size = pb := by simpa [World.setCell] using hpb
    obtain ⟨f1, f2, f3, ⟨u4, f4⟩, f5, ⟨u6, f6⟩, f7⟩ := givenA (x := ps.length) hH3.out hsl3.out elen (by omega) hpb' hW
    rw [hW, hpb]
    clear hcg hcg1 hzg hzg1 hc3 hz3 hcp hzp hc2
    go_region
    obtain ⟨V, hV⟩ : ∃ V, ((W.setCell ⟨g, ps.length * 2, none⟩ (.int .u32 1)).setCell ⟨g, ps.length * 2 + 1, none⟩ (.int .i64 1)).drew = V := ⟨_, rfl⟩
    obtain ⟨k1, k2, k3, k4⟩ := givenB (x := ps.length) hH3.out hsl3.out elen hpb' hW hr3.out hgr hV
    have k2h := hid k2
    have k3h := hid k3
    have k4h := hid k4
    have hy0 : V.cell? ⟨w.heap.size, 0, none⟩ = some (.int .u32 0) := by unfold World.cell?; rw [k2]; simp
    have hy1 : V.cell? ⟨w.heap.size, 1, none⟩ = some (.int .u32 0) := by unfold World.cell?; rw [k2]; simp
    have hyf0 : V.frozen? ⟨w.heap.size, 0, none⟩ = false := by unfold World.frozen?; rw [k2]; simp
    have hyf1 : V.frozen? ⟨w.heap.size, 1, none⟩ = false := by unfold World.frozen?; rw [k2]; simp
    rw [hV]
    clear f1 f2 f3 f4 f5 f6 f7 hV hW k2 k3 k4 hpb hpb'
    go_wp2_with fail
    obtain ⟨hF1, hF2, hF3⟩ := givenC (B := 1) (Y := (ps.length : Int)) k3h.out k2h.out hgr hpos.2.2.2.2.1 rfl
    refine bodyPost_ret (results_cell2 rfl _ _ w.heap.size 43 _ (0, 0) _ rfl hF2 Tryd.underlying43 rfl (by kernel_rfl)) rfl ?_
    have hat0 : atP ps ps.length = (0, 0) := atP_none (Nat.le_refl _)
    have hset : (ps ++ [(0, 0)]).set ps.length ((1 : Int), (1 : Int)) = putP ps ps.length ((atP ps ps.length).1 + 1, 1) := by
      rw [hat0, putP, if_pos rfl, List.set_append_right _ _ (Nat.le_refl _)]
      simp
    rw [hset] at hF1
    refine ⟨by rw [hat0]; rfl, some g, ⟨⟨sb, ?_⟩, hfair.out.put (Nat.le_refl _) hx (by rw [hat0]; decide) (by rw [hat0]; decide)⟩, ?_, ?_⟩
    · rw [held_put _ _ (Nat.le_refl _) hx, show wornN (putP ps ps.length ((atP ps ps.length).1 + 1, 1)) = wornN ps by rw [putP, if_pos rfl, wornN_push]; rfl]
      exact hF1
    · have hT3 := ((hal.out.trans hg3T.out).setCell (p := ⟨ab, 2, none⟩) (Or.inl ⟨hpos.2.2.1, hpos.2.2.2.1⟩) (.slice (some ⟨g, 0, none⟩) (ps.length + 1) cap))
      refine (hT3.then k4h.out (fun k hk e => ?_)).then hF3 (fun k hk e => ?_)
      · subst e
        rcases hgh.out with h' | h'
        · exact Or.inr (hpo.symm.trans h')
        · simp at h'; omega
      · omega
    · rcases hgh.out with h' | h'
      · exact Or.inl (hpo.symm.trans h').symm
      · exact Or.inr ⟨g, rfl, by simp at h'; omega⟩
  · obtain ⟨g, cap, hv, _, _⟩ := hown.form (by omega)
    injection hv with e1 _ e3
    subst e1 e3
    obtain ⟨⟨A, s⟩, hxp⟩ : ∃ p, ps[x]? = some p := ⟨_, List.getElem?_eq_getElem (by omega)⟩
    obtain ⟨hcg, hcg1⟩ := pcs_get ps x _ hxp
    have hx2 : x < ps.length := by omega
    rw [← hown.cellAt _ (by omega)] at hcg
    rw [← hown.cellAt _ (by omega)] at hcg1
    have hzg := hown.frozenAt (x * 2)
    have hzg1 := hown.frozenAt (x * 2 + 1)
    have hob : ob = some g := by rw [← hpo]; rfl
    have hgr : g ≠ w.heap.size := by have := hpos.2.2.2.2.2 g hob; omega
    have hxph := hid hxp
    have hatx := hid (atP_some hxp)
    have hs0 : s = 0 := by have := hat.out; rw [hatx.out] at this; exact this
    subst hs0
    have hok := hid (hfair.out.ok x _ hxp)
    have hA : (A + 1) % 4294967296 = A + 1 := by
      obtain ⟨h1, h2, h3⟩ := hok.out
      rcases h3 with ⟨_, h3⟩ | ⟨h3, _⟩ | ⟨h3, _⟩ <;> simp at h1 h2 h3 <;> omega
    subst hob
    clear hprow hpo hpb hown hxp
    go_wp2_with fail
    obtain ⟨W, hW⟩ : ∃ W, w2.alloc (.cells #[.int .u32 (A + 1), .int .i64 1] 70) = W := ⟨_, rfl⟩
    obtain ⟨pb, hpb⟩ : ∃ pb, w2.heap.size = pb := ⟨_, rfl⟩
    obtain ⟨f1, f2, f3, ⟨u4, f4⟩, f5, ⟨u6, f6⟩, f7⟩ := givenA (x := x) hH2.out hcp rfl hx2 hpb hW
    have hcph := hid hcp
    rw [hW, hpb]
    clear hcg hcg1 hzg hzg1 hcp hzp hc2 hA
    go_region
    obtain ⟨V, hV⟩ : ∃ V, ((W.setCell ⟨g, x * 2, none⟩ (.int .u32 (A + 1))).setCell ⟨g, x * 2 + 1, none⟩ (.int .i64 1)).drew = V := ⟨_, rfl⟩
    obtain ⟨k1, k2, k3, k4⟩ := givenB (x := x) hH2.out hcph.out rfl hpb hW hr2.out hgr hV
    have k2h := hid k2
    have k3h := hid k3
    have k4h := hid k4
    have hy0 : V.cell? ⟨w.heap.size, 0, none⟩ = some (.int .u32 0) := by unfold World.cell?; rw [k2]; simp
    have hy1 : V.cell? ⟨w.heap.size, 1, none⟩ = some (.int .u32 0) := by unfold World.cell?; rw [k2]; simp
    have hyf0 : V.frozen? ⟨w.heap.size, 0, none⟩ = false := by unfold World.frozen?; rw [k2]; simp
    have hyf1 : V.frozen? ⟨w.heap.size, 1, none⟩ = false := by unfold World.frozen?; rw [k2]; simp
    rw [hV]
    clear f1 f2 f3 f4 f5 f6 f7 hV hW k2 k3 k4 hpb
    go_wp2_with fail
    obtain ⟨hF1, hF2, hF3⟩ := givenC (B := A + 1) (Y := (x : Int)) k3h.out k2h.out hgr hpos.2.2.2.2.1 rfl
    refine bodyPost_ret (results_cell2 rfl _ _ w.heap.size 43 _ (0, 0) _ rfl hF2 Tryd.underlying43 rfl (by kernel_rfl)) rfl ?_
    have hset : ps.set x (A + 1, 1) = putP ps x ((atP ps x).1 + 1, 1) := by rw [hatx.out, putP, if_neg hxe]
    rw [hset] at hF1
    have hokn : okP ((atP ps x).1 + 1, 1) ∧ (atP ps x).1 + 1 ≠ 0 := by
      rw [hatx.out]
      obtain ⟨h1, h2, h3⟩ := hok.out
      simp at h1 h2
      have h4 : A ≠ 4294967295 := by rcases h3 with ⟨_, h3⟩ | ⟨h3, _⟩ | ⟨h3, _⟩ <;> simp at h3 <;> omega
      refine ⟨⟨by simp; omega, by simp; omega, Or.inr (Or.inl ⟨rfl, by simp; omega⟩)⟩, by simp; omega⟩
    refine ⟨some g, by rw [hatx.out]; rfl, ⟨⟨sb, ?_⟩, hfair.out.put hxl hx hokn.1 hokn.2⟩, ?_, Or.inl rfl⟩
    · have hw : wornN (putP ps x ((atP ps x).1 + 1, 1)) = wornN ps := by
        have := wornN_set ps x ((atP ps x).1 + 1, 1) _ hxph.out
        rw [putP, if_neg hxe]
        simpa using this
      rw [held_put _ _ hxl hx, hw]
      exact hF1
    · refine (ht2.out.then k4h.out (fun k hk e => ?_)).then hF3 (fun k hk e => ?_)
      · subst e; exact Or.inr rfl
      · omega

end Go.Proofs.YtjkiagjgnfaknaaDoor
