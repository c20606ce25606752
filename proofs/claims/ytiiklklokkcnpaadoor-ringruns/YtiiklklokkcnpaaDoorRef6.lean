/- The reference's without, from, Walk, Turn, walked. -/
import Derived.Test.YtiiklklokkcnpaaDoorRef5
namespace Go.Proofs.YtiiklklokkcnpaaDoor
open Go.RowKit
set_option linter.unusedVariables false

theorem Rg.more {w w' : World} {base : Nat} {v : Value} {ls : List (List Nat)} (h : Rg w base v ls) (hb : Below w.heap.size w w') : Rg w' base v ls := by
  obtain ⟨us, h1, h2, h3⟩ := h
  refine ⟨us, h1, ⟨h2.1, ?_⟩, fun i l u hi hu => (h3 i l u hi hu).below hb⟩
  rcases h2.2 with hn | ⟨g, cap, cur, rfl, hbg, hgg, rest⟩
  · exact .inl hn
  · exact .inr ⟨g, cap, cur, rfl, hbg, (hb.block g (Array.getElem?_eq_some_iff.1 hgg).1).trans hgg, rest⟩

theorem own_more {w w' : World} {base n size : Nat} {e : TypeId} {v : Value} {xs : List Value} (h2 : w.ownsRow base e size v n xs) (hb : Below w.heap.size w w') : w'.ownsRow base e size v n xs := by
  refine ⟨h2.1, ?_⟩
  rcases h2.2 with hn | ⟨g, cap, cur, rfl, hbg, hgg, rest⟩
  · exact .inl hn
  · exact .inr ⟨g, cap, cur, rfl, hbg, (hb.block g (Array.getElem?_eq_some_iff.1 hgg).1).trans hgg, rest⟩

theorem wo_len (ls : List (List Nat)) (a b : Nat) : (wo ls a b).length ≤ ls.length := by
  unfold wo
  rw [List.length_map]
  refine Nat.le_trans (List.length_filter_le _ _) ?_
  simp

set_option maxRecDepth 100000 in
set_option maxHeartbeats 2000000 in
theorem rwithout_ok (x : Value) (ls : List (List Nat)) (a b : Nat) (w : World) (hx : Rf w x ls) (hl : ls.length ≤ 1000) (ha : a ≤ 1000000) (hb1 : b ≤ 1000000) :
    Calls Tryd.prog 35 #[x, .int .i64 (a : Int), .int .i64 (b : Int)] w fun e w' => ∃ v, e = .returned v ∧ Rg w' w.heap.size v (wo ls a b) ∧ Below w.heap.size w w' := by
  obtain ⟨i1, hif, hz0, hz1, hz2⟩ := info_parts infoInts
  have hxh := hid hx
  obtain ⟨bo, capo, cs, fr, rfl, h2, h3⟩ := hx
  obtain ⟨M, hM⟩ : ∃ M, ls.length = M := ⟨_, rfl⟩
  rw [hM] at hl
  have st0 : Hid (Rg w w.heap.size (.slice none 0 0) (wo (ls.take 0) a b) ∧ Below w.heap.size w w) := hid ⟨⟨[], rfl, World.ownsRow_nil _ _ _ _, fun i l u hi => by simp [wo] at hi⟩, Below.refl _ _⟩
  have hfull : Hid (ls.take M = ls) := hid (List.take_of_length_le (by omega))
  replace h3 := hid h3
  replace h2 := hid h2
  have hMh := hid hM
  rw [hM]
  clear hM
  go_enter Tryd.func35, Tryd.ntmps35
  go_wp2_with fail
  go_loopw [7, 8] (fun o u wr => ∃ i : Nat, i ≤ M ∧ u = .int .i64 (i : Int) ∧ Hid (Rg wr w.heap.size o (wo (ls.take i) a b) ∧ Below w.heap.size w wr)) (fun _ u _ => M - (intOf u).toNat)
  case atStart => exact ⟨0, by omega, by go_num, st0⟩
  case round =>
    clear st0
    obtain ⟨i, hi, rfl, hst⟩ := hrel
    rcases Nat.lt_or_ge i M with hiM | hiM
    · obtain ⟨l, hli⟩ : ∃ l, ls[i]? = some l := ⟨_, List.getElem?_eq_getElem (by rw [hMh.out]; exact hiM)⟩
      have hnx := wo_next ls a b i l hli
      by_cases hc : i ≠ a ∧ i ≠ b
      · rw [if_pos hc] at hnx
        have t1 : ((i : Int) != (a : Int)) = true := by rw [bne_iff_ne]; omega
        have t2 : ((i : Int) != (b : Int)) = true := by rw [bne_iff_ne]; omega
        obtain ⟨⟨us, hus, ho, hr⟩, hb⟩ := hst.out
        obtain ⟨u, hu, hRu⟩ := h3.out i l hli
        have hcell : wr.cell? ⟨bo, i, none⟩ = some u := by
          unfold World.cell?
          rw [hb.block bo (Array.getElem?_eq_some_iff.1 h2.out).1, h2.out]
          exact hu
        have hRw := hRu.below hb
        obtain ⟨g, og, cg, hue, _⟩ := hRu
        subst hue
        obtain ⟨nl, hnl⟩ : ∃ nl, l.length = nl := ⟨_, rfl⟩
        rw [hnl] at hcell hRw
        replace hnl := hid hnl
        obtain ⟨n0, hn0⟩ : ∃ n0, (wo (ls.take i) a b).length = n0 := ⟨_, rfl⟩
        have hn1 : n0 ≤ 1000 := by rw [← hn0]; have := wo_len (ls.take i) a b; rw [List.length_take] at this; omega
        rw [hn0] at ho hus
        have hsz := hb.size
        obtain ⟨wa, hwa⟩ : ∃ wa, wr.alloc (.cells #[.slice (some ⟨g, og, none⟩) nl cg] 47) = wa := ⟨_, rfl⟩
        have ba : Below wr.heap.size wr wa := by rw [← hwa]; exact (Below.refl _ _).alloc (Nat.le_refl _) _
        have hsza : wa.heap.size = wr.heap.size + 1 := by rw [← hwa]; simp
        have hnews := new_cells (us := [Value.slice (some ⟨g, og, none⟩) nl cg]) (show wa.heap[wr.heap.size]? = some (.cells [Value.slice (some ⟨g, og, none⟩) nl cg].toArray 47 (0, 0)) from by rw [← hwa]; exact heap_alloc_new wr _)
        have hoa : wa.ownsRow w.heap.size 47 1 u7 n0 us := by rw [← hwa]; exact ho.alloc _
        have i1' : (0 : Int) ≤ (i : Int) := by omega
        have i2' : (i : Int) < (M : Int) := by omega
        replace hr := hid hr
        replace hRw := hid hRw
        replace hnx := hid hnx
        replace hn0 := hid hn0
        clear hst hli hu
        go_wp2_with (at_builtin; (try rw [hwa]); refine wpList_append_own wa rfl (.tmp 23) (.tmp 28) 29 rfl w.heap.size 47 i1 _ 1 24 Tryd.underlying29 hif hz0 hz1 hz2 rfl (by decide) u7 n0 us rfl hoa ⟨wr.heap.size, 0, none⟩ 1 1 [Value.slice (some ⟨g, og, none⟩) nl cg] rfl rfl hnews (by simp [Value.oneCell']) (by unfold maxLen; omega) (by omega) (by omega) ?_; intro v5 w5 ho5 hg5 _; refine Hid.out ?_)
        have hbw : Below w.heap.size w w5 := below_grown (hb.trans (ba.mono hb.size)) (Nat.le_refl _) hoa (Nat.le_refl _) hg5
        have st5 : Hid (Rg w5 w.heap.size v5 (wo (ls.take (i + 1)) a b) ∧ Below w.heap.size w w5) := hid ⟨by
          rw [hnx.out]
          refine Rg.push (us := us) (nu := [Value.slice (some ⟨g, og, none⟩) nl cg]) (w := wa) (v := u7) (by rw [hn0.out]; exact hus) (fun j l' u' hj hu' => (hr.out j l' u' hj hu').below ba) rfl (fun j l' u' hj hu' => ?_) (by rw [hn0.out]; exact hoa) hg5 (by rw [hn0.out]; exact ho5)
          match j, (List.getElem?_eq_some_iff.1 hj).1, hj, hu' with
          | 0, _, hj, hu' =>
            simp at hj hu'
            subst hj hu'
            exact hRw.out.below ba, hbw⟩
        clear ho hoa ho5 hg5 hr hb hbw hRw ba hnews hcell
        refine hid ?_
        go_wp2_with fail
        go_roundw
        case rel => exact ⟨i + 1, by omega, by go_num, st5⟩
        case measure => simp [intOf]; omega
      · rw [if_neg hc, List.append_nil] at hnx
        have st5 : Hid (Rg wr w.heap.size u7 (wo (ls.take (i + 1)) a b) ∧ Below w.heap.size w wr) := hid (by rw [hnx]; exact hst.out)
        have hcc : i = a ∨ (i ≠ a ∧ i = b) := by omega
        clear hst hli hnx hc
        rcases hcc with e | ⟨e1, e2⟩
        · have t1 : ((i : Int) != (a : Int)) = false := by rw [e]; simp
          go_wp2_with fail
          go_roundw
          case rel => exact ⟨i + 1, by omega, by go_num, st5⟩
          case measure => simp [intOf]; omega
        · have t1 : ((i : Int) != (a : Int)) = true := by rw [bne_iff_ne]; omega
          have t2 : ((i : Int) != (b : Int)) = false := by rw [e2]; simp
          go_wp2_with fail
          go_roundw
          case rel => exact ⟨i + 1, by omega, by go_num, st5⟩
          case measure => simp [intOf]; omega
    · obtain rfl : i = M := by omega
      have fin : Hid (Rg wr w.heap.size u7 (wo ls a b) ∧ Below w.heap.size w wr) := hid (by have := hst.out; rw [hfull.out] at this; exact this)
      clear hst
      go_wp2_with fail
      go_ret
      exact ⟨_, rfl, fin.out⟩

set_option maxRecDepth 100000 in
set_option maxHeartbeats 2000000 in
theorem rfrom_ok (u : Value) (l : List Nat) (k : Nat) (w : World) (hu : Ro w u l) (hk : k < l.length) (hl : l.length ≤ 1000000) :
    Calls Tryd.prog 34 #[u, .int .i64 (k : Int)] w fun e w' => ∃ v, e = .returned v ∧ w'.ownsRow w.heap.size 3 1 v (l.drop k ++ l.take k).length ((l.drop k ++ l.take k).map itm) ∧ Below w.heap.size w w' := by
  obtain ⟨i0, hif, hz0, hz1, hz2⟩ := info_parts infoInt
  obtain ⟨g, o, cap, rfl, hc1, hc2, hI⟩ := hu
  have hId : Ib w.drew g o l := hI.keep (Keep.ofBelow (Below.refl _ _).drew)
  obtain ⟨p1, p2⟩ := Ro.parts (cap := cap) (M := k) hId k
  have s1 := p2.sl
  have s2 := p1.sl
  obtain ⟨M, hM⟩ : ∃ M, l.length = M := ⟨_, rfl⟩
  have hd : (l.drop k).length = M - k := by rw [List.length_drop, hM]
  have ht : (l.take k).length = k := by rw [List.length_take]; omega
  rw [hM] at hk hl hc1 ⊢
  have i1 : (0 : Int) ≤ (k : Int) := by omega
  have i2 : (k : Int) ≤ (M : Int) := by omega
  have i3 : (k : Int) ≤ (cap : Int) := by omega
  have i4 : cap ≠ k := by omega
  have hc3 : cap ≤ 9223372036854775807 := by unfold maxLen at hc2; omega
  have hszd : w.drew.heap.size = w.heap.size := rfl
  have hfin : Hid (∀ (v : Value) (w' : World), w'.ownsRow w.heap.size 3 1 v (0 + (M - k) + k) (([] ++ (l.drop k).map itm) ++ (l.take k).map itm) → w'.ownsRow w.heap.size 3 1 v (l.drop k ++ l.take k).length ((l.drop k ++ l.take k).map itm)) := hid (fun v w' h => by
    rw [List.length_append, hd, ht, List.map_append, show M - k + k = 0 + (M - k) + k by omega]
    exact h)
  have hd' : ((l.drop k).map itm).length = (M - k) * 1 := by rw [List.length_map, hd]; omega
  have ht' : ((l.take k).map itm).length = k * 1 := by rw [List.length_map, ht]; omega
  replace hd := hid hd
  replace ht := hid ht
  clear hM hI hId p1 p2
  go_enter Tryd.func34, Tryd.ntmps34
  go_wp2_with fail
  go_region_held3 (fun w' => True) (first | exact True.intro | assumption | go_keep) (first
    | (refine step_append_own rfl (.tmp 6) (.tmp 9) 47 rfl w.heap.size 3 i0 _ 1 8 Tryd.underlying47 hif hz0 hz1 hz2 rfl (by decide) (.slice none 0 0) 0 [] (by rfl) (World.ownsRow_nil _ _ _ _) ⟨g, o + k, none⟩ (M - k) (cap - k) ((l.drop k).map itm) (by rfl) hd' s1 (itm_one _) (by unfold maxLen; omega) (by omega) (Nat.le_refl _) ?_; intro v1 w1 ho1 hg1; have b1 := below_grown (Below.refl w.heap.size w.drew) (Nat.le_refl _) (World.ownsRow_nil w.drew w.heap.size 3 1) (Nat.le_refl _) hg1; have s2' := s2.below b1; have hsz1 := b1.size)
    | (refine step_append_own rfl (.tmp 10) (.tmp 13) 47 rfl w.heap.size 3 i0 _ 1 8 Tryd.underlying47 hif hz0 hz1 hz2 rfl (by decide) v1 (0 + (M - k)) ([] ++ (l.drop k).map itm) (by rfl) ho1 ⟨g, o, none⟩ k cap ((l.take k).map itm) (by rfl) ht' s2' (itm_one _) (by unfold maxLen; omega) (by omega) hsz1 ?_; intro v2 w2 ho2 hg2; have b2 := below_grown b1 (Nat.le_refl _) ho1 (Nat.le_refl _) hg2; have fin := hid (And.intro (hfin.out v2 w2 ho2) ((Below.refl w.heap.size w).drew.trans b2)); clear ho2 hg2 b2))
  all_goals
    go_wp2_with fail
    go_ret
    exact ⟨_, rfl, fin.out⟩

end Go.Proofs.YtiiklklokkcnpaaDoor
