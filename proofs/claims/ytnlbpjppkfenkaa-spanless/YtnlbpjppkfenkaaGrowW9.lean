/- 'grow', walked: its loop. -/
import Derived.Test.YtnlbpjppkfenkaaGrow9
namespace Go.Proofs.Ytnlbpjppkfenkaa
open Go.RowKit Go.Sort
set_option linter.unusedVariables false

set_option maxRecDepth 100000 in
set_option maxHeartbeats 4000000 in
theorem grow_ok (n N g : Nat) (v : Value) (l : List Ed) (cb : Array Value) (cf : Nat → Nat → Int) (L : Nat → Nat → Prop) (w : World) (hv : EV w v l) (hn : n ≤ 1048576) (hl : l.length ≤ 1048576) (hok : Okr (n : Int) l) (hw : Wr l) (hN : max (n : Int) 1 = (N : Int))
    (eg : ∀ args w, (callFunc g args).run Try.prog w = .ok (.enter g args) w) (hc : Cmps g cb l.length cf w) (hL : Lin l.length L) (hcf : ∀ a b, a < l.length → b < l.length → (cf a b < 0 ↔ L a b)) :
    Calls Try.prog 16 #[.int .i64 (n : Int), v, .func (.func g) #[] cb] w fun e w' => ∃ mv so, e = .returned (.tuple #[mv, .int .i64 (wsum (eW l) (kr (eA l) (eB l) (fun x => x) so)), .nilIface]) ∧ So l.length L so ∧ Rm w.heap.size w' mv l.length (fun i => decide (i ∈ kr (eA l) (eB l) (fun x => x) so)) ∧ Below w.heap.size w w' := by
  obtain ⟨i0, hif, hz0, hz1, hz2⟩ := info_parts infoBool
  have hnN : n ≤ N ∧ 1 ≤ N ∧ N ≤ 1048576 := by omega
  have hcheck := hid (check_ok (n : Int) v l w hv (by omega) (by omega) hl hok)
  have hsorted : Hid (∀ y, Below w.heap.size w y → Calls Try.prog 21 #[.int .i64 (l.length : Int), .func (.func g) #[] cb] y fun e w' => ∃ blk so, e = .returned (.slice (some ⟨blk, 0, none⟩) l.length l.length) ∧ y.heap.size ≤ blk ∧ blk < w'.heap.size ∧ So l.length L so ∧ so.length = l.length ∧ (∀ (j x : Nat), so[j]? = some x → w'.cell? ⟨blk, j, none⟩ = some (.int .i64 (x : Int))) ∧ Below y.heap.size y w') :=
    fun y hy => sorted_ok l.length g cb cf L y hl eg (hc.more hy) hL hcf
  have hnat : Hid (∀ i, i < l.length → l[i]? = some ⟨(eA l i : Int), (eB l i : Int), eW l i⟩ ∧ eA l i < N ∧ eB l i < N) := fun i hi => by
    obtain ⟨h1, h2, h3⟩ := hok.nat hi
    exact ⟨h1, by omega, by omega⟩
  have hwr := hid (fun i => hw.at i)
  obtain ⟨ad, m, cap, rfl, he, _, _⟩ := hv
  have hm := he.len
  rw [hm] at hl hsorted hnat ⊢
  replace he := hid he
  replace hm := hid hm
  clear hc hL hcf hok hw eg
  go_enter Try.func16, Try.ntmps16
  go_wp2_with fail
  refine hcheck.out.mono ?_
  rintro e w1 ⟨rfl, b1⟩
  replace b1 := hid b1
  clear hcheck
  go_wp2_with fail
  (try rw [hN])
  refine (new_ok N w1 hnN.2.1 (by omega)).mono ?_
  rintro e w2 ⟨rfl, g2, b2⟩
  replace g2 := hid g2
  obtain ⟨gb, hgb⟩ : ∃ gb, gb = w1.heap.size := ⟨_, rfl⟩
  rw [← hgb] at g2 ⊢
  have b12 : Hid (Below w.heap.size w w2) := b1.out.trans (b2.mono b1.out.size)
  have q1 : Hid (w.heap.size ≤ gb ∧ gb < w2.heap.size) := by
    obtain ⟨mv, jv, K, T, js, s1, s2, s3⟩ := g2.out.st
    exact ⟨hgb ▸ b1.out.size, s1.lt⟩
  clear hN b2 hgb b1
  have hsz : w.heap.size ≤ w2.heap.size := b12.out.size
  go_wp2_with (at_make; refine wpList_make_full _ rfl (.tmp 35) (.tmp 35) 28 rfl w.heap.size 4 i0 (.bool false) 1 Try.underlying28 hif hz0 hz1 .i64 .i64 _ _ m rfl rfl rfl rfl (by rw [hz2]; omega) (by unfold maxLen; omega) hsz ?_; intro w3 hown hgrow)
  rw [bl_made] at hown
  have b23 : Below w2.heap.size w2 w3 := (Below.refl _ _).grown hgrow (Nat.le_refl _) (by simp)
  have b13 : Hid (Below w.heap.size w w3) := b12.out.trans (b23.mono hsz)
  obtain ⟨mb, hmb⟩ : ∃ mb, mb = w2.heap.size := ⟨_, rfl⟩
  have q2 : Hid (mb < w3.heap.size) := hid (by rw [hmb]; exact (hown.lt _ rfl).2)
  rw [← hmb] at hown ⊢
  have g3 := hid (g2.out.more b23)
  have q3 : Hid (gb < mb) := by rw [hmb]; exact q1.out.2
  replace hown := hid hown
  clear hgrow b23 hmb g2 hsz
  go_wp2_with fail
  refine (hsorted.out w3 b13.out).mono ?_
  rintro e w4 ⟨blk, so, rfl, s1, s2, s3, s4, s5, b34⟩
  obtain ⟨H, hH⟩ : ∃ H, H = w4.heap.size := ⟨_, rfl⟩
  have hgs : Hid (GS w H gb N blk mb m (eA l) (eB l) (eW l) so 0 0 w4) := by
    refine ⟨⟨[], _, g3.out.more b34, fun k hk => ⟨.inl hk, by subst hk; have := q1.out; have := b13.out.size; have := q3.out; have := q2.out; have := b34.size; omega⟩⟩, ?_, s5, b13.out.trans (b34.mono b13.out.size), by rw [hH]; exact Nat.le_refl _, by simp [kr, wsum]⟩
    have e : bl m (fun i => decide (i ∈ kr (eA l) (eB l) (fun x => x) (so.take 0))) = bl m (fun _ => false) := bl_congr (fun i _ => by simp [kr])
    rw [e]
    exact own_more hown.out b34
  have hq : Hid (gb ≠ blk ∧ gb ≠ mb ∧ blk < H ∧ mb < H ∧ w.heap.size ≤ gb ∧ w.heap.size ≤ H ∧ blk ≠ mb) := by
    have := q1.out; have := q2.out; have := q3.out; have := b34.size; have := b13.out.size
    exact ⟨by omega, by omega, by omega, by omega, by omega, by omega, by omega⟩
  have hso := hid s3
  have hlen := hid s4
  clear s1 s2 s3 s4 s5 b34 hH hown g3 q1 q2 q3 b12 b13 hsorted
  go_wp2_with fail
  go_loopw [13, 15, 16, 17, 18, 42] (fun s _ _ _ _ u wr => ∃ (j : Nat) (S : Int), j ≤ m ∧ u = .int .i64 (j : Int) ∧ s = .int .i64 S ∧ Hid (GS w H gb N blk mb m (eA l) (eB l) (eW l) so j S wr))
    (fun _ _ _ _ _ u _ => m - (intOf u).toNat)
  case atStart => exact ⟨0, 0, by omega, by go_num, rfl, hgs⟩
  case round =>
    obtain ⟨j, S, hj, rfl, rfl, hs⟩ := hrel
    clear hgs
    rcases Nat.lt_or_ge j m with hlt | hge
    · obtain ⟨i, hi⟩ : ∃ i, so[j]? = some i := ⟨_, List.getElem?_eq_getElem (by rw [hlen.out]; exact hlt)⟩
      have him : i < m := (hso.out.mem i).1 (List.mem_of_getElem? hi)
      obtain ⟨hli, hAi, hBi⟩ := hnat.out i him
      have cp := hs.out.pl j i hi
      obtain ⟨eg, eo, rfl, c0, c1, c2⟩ := (he.out.below hs.out.bel).cell i _ hli
      simp only [] at c0 c1 c2
      have hjoin := hid (fun y (hy : Below wr.heap.size wr y) => hs.out.join hy hq.out.1 hq.out.2.1 hq.out.2.2.1 hq.out.2.2.2.1 hq.out.2.2.2.2.1 hq.out.2.2.2.2.2.1 hq.out.2.2.2.2.2.2 hi hAi hBi him)
      have hz := hwr.out i
      have hS : -(2147483648 * 1048576) ≤ S ∧ S ≤ 2147483648 * 1048576 := by
        have h1 := wsum_bound hwr.out (kr (eA l) (eB l) (fun x => x) (so.take j))
        have h2 := (kr_sub (A := eA l) (B := eB l) (fun x => x) (so.take j)).length_le
        rw [← hs.out.sum] at h1
        simp only [List.length_take] at h2
        omega
      generalize eA l i = x at c0 hjoin
      generalize eB l i = y at c1 hjoin
      generalize eW l i = z at c2 hjoin hz
      have hz1 : IntKind.i64.wrap z = z := by rw [IntKind.wrap_i64]; omega
      have hz2 : IntKind.i64.wrap (S + z) = S + z := by rw [IntKind.wrap_i64]; omega
      have i1 : (0 : Int) ≤ (j : Int) := by omega
      have i2 : (j : Int) < (m : Int) := by omega
      have i3 : (0 : Int) ≤ (i : Int) := by omega
      have i4 : (i : Int) < (m : Int) := by omega
      have hH := hid hs.out.hs
      clear hi hli hAi hBi hs hz hS
      go_wp2_with fail
      refine (hjoin.out _ (balloc _ _)).mono ?_
      rintro e w5 ⟨t, rfl, hk5, h5⟩
      have hblk5 : w5.heap[wr.heap.size]? = some (.cells #[.int .i64 (x : Int), .int .i64 (y : Int), .int .i32 z] 45) := (hk5 _ (Nat.le_refl _) (by simp)).trans (heap_alloc_new _ _)
      have c7 : (w5.setCell ⟨mb, i, none⟩ (.bool true)).cell? ⟨wr.heap.size, 2, none⟩ = some (.int .i32 z) := by
        have hne : mb ≠ wr.heap.size := by have := hq.out; have := hH.out; omega
        unfold World.cell?
        rw [Below.heap_setCell _ _ _ _ (Ne.symm hne), hblk5]
        rfl
      clear hk5 hblk5
      rcases h5 with ⟨rfl, h5⟩ | ⟨rfl, f5, ⟨u5, c5⟩, h5⟩
      · replace h5 := hid h5
        clear hjoin
        go_wp2_with fail
        go_roundw
        case rel => exact ⟨j + 1, S, by omega, by go_num, rfl, h5⟩
        case measure => simp [intOf]; omega
      · replace h5 := hid h5
        clear hjoin
        go_wp2_with fail
        go_roundw
        case rel => exact ⟨j + 1, _, by omega, by go_num, rfl, h5⟩
        case measure => simp [intOf]; omega
    · obtain rfl : j = m := by omega
      have hS : Hid (S = wsum (eW l) (kr (eA l) (eB l) (fun x => x) so)) := by
        have := hs.out.sum
        rw [List.take_of_length_le (by rw [hlen.out]; exact Nat.le_refl _)] at this
        exact this
      have hmk : Hid (Rm w.heap.size wr (.slice (some ⟨mb, 0, none⟩) j j) j (fun i => decide (i ∈ kr (eA l) (eB l) (fun x => x) so))) := by
        have := hs.out.ms
        rw [List.take_of_length_le (by rw [hlen.out]; exact Nat.le_refl _)] at this
        exact this
      have hb := hid hs.out.bel
      clear hs
      go_wp2_with fail
      go_ret3
      exact ⟨_, so, by rw [← hS.out]; rfl, hso.out, hmk.out, hb.out⟩

end Go.Proofs.Ytnlbpjppkfenkaa
