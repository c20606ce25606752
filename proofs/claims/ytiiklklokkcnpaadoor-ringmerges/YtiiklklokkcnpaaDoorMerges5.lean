/- 'RingMerges', walked. -/
import Derived.Test.YtiiklklokkcnpaaDoorTurned5
import Derived.Test.YtiiklklokkcnpaaDoorHand5
import Derived.Test.YtiiklklokkcnpaaDoorPure5
namespace Go.Proofs.YtiiklklokkcnpaaDoor
open Go.RowKit
set_option linter.unusedVariables false

set_option maxRecDepth 100000 in
set_option maxHeartbeats 4000000 in
theorem merges_law (n : Int) (ad : Option Addr) (qs : List Act3) (cap : Nat) (o0 o1 : Int) (w : World) (hg : Handle w) (hq : Acts3 w ad qs) :
    Calls Tryd.prog 5 #[.int .i64 n, .slice ad qs.length cap, .agg #[.int .i64 o0, .int .i64 o1]] w fun e w' => e = .returned (.bool true) ∧ Below w.heap.size w w' := by
  obtain ⟨K, hK, hK1, hK2⟩ := mod_up2 n 20 (by decide) (by decide)
  have hK20 : K ≤ 21 := by omega
  have hql := hq.bound
  obtain ⟨wb, hwb⟩ : ∃ wb, w.alloc (.cells #[.int .i64 o0, .int .i64 o1] 54) = wb := ⟨_, rfl⟩
  have bb : Below w.heap.size w wb := by rw [← hwb]; exact (Below.refl _ _).alloc (Nat.le_refl _) _
  have hbn : wb.heap[w.heap.size]? = some (.cells #[.int .i64 o0, .int .i64 o1] 54 (0, 0)) := by rw [← hwb]; exact heap_alloc_new w _
  obtain ⟨ob, hob⟩ : ∃ ob, w.heap.size = ob := ⟨_, rfl⟩
  have hoblt : ob < wb.heap.size := by rw [hob] at hbn; exact (Array.getElem?_eq_some_iff.1 hbn).1
  have hofs : Hid (∀ y, Below wb.heap.size wb y → y.cell? ⟨ob, 0, none⟩ = some (.int .i64 o0) ∧ y.cell? ⟨ob, 1, none⟩ = some (.int .i64 o1)) := fun y hy => by
    rw [hob] at hbn
    have e := (hy.block ob hoblt).trans hbn
    constructor <;> (unfold World.cell?; rw [e]; simp)
  have hbu := hid (turned_ok K ad qs cap wb (by omega) (by omega) (hq.below bb))
  have hg : Hid (Handle wb) := hid (hg.belowB bb (World.block_lt_of_cell? w _ hg))
  replace bb := hid bb
  clear hq hbn
  go_enter Tryd.func5, Tryd.ntmps5
  go_wp2_with fail
  try rw [hK]
  try rw [hwb]
  try rw [hob]
  refine hbu.out.mono ?_
  rintro e w1 ⟨rb, fb, v, seq, rfl, h1⟩
  obtain ⟨f0, f1⟩ := hofs.out w1 h1.fs.below
  obtain ⟨a, ha, haK⟩ := mod_inN o0 K (by omega) (by omega)
  obtain ⟨b, hb, hbK⟩ := mod_inN o1 K (by omega) (by omega)
  have h1 := hid h1
  clear hbu hK hwb hob hofs
  go_wp2_with fail
  go_region
  try rw [ha, hb]
  have h2 := hid (h1.out.drew)
  generalize w1.drew = w2 at h2 ⊢
  clear h1 f0 f1 ha hb
  go_wp2_with fail
  refine (h2.out.walk a haK).mono ?_
  rintro e w3 ⟨u3, rfl, r3, h3, k3⟩
  have p := hid h3.fs.part
  obtain ⟨R, hR⟩ : ∃ R, rot (seq (a + 1)) (a + 1) = R := ⟨_, rfl⟩
  obtain ⟨S, hS⟩ : ∃ S, rot (seq (b + 1)) (b + 1) = S := ⟨_, rfl⟩
  have hRl : R.length ≤ 8388610 := by rw [← hR, rot_len]; exact p.out.len _ (by omega)
  have hSl : S.length ≤ 8388610 := by rw [← hS, rot_len]; exact p.out.len _ (by omega)
  have hRn : R ≠ [] := by rw [← hR]; intro e; have := rot_mem (x := a + 1).2 (p.out.self (a + 1) (by omega)); rw [e] at this; cases this
  have hSn : S ≠ [] := by rw [← hS]; intro e; have := rot_mem (x := b + 1).2 (p.out.self (b + 1) (by omega)); rw [e] at this; cases this
  obtain ⟨nR, hnR⟩ : ∃ k, R.length = k := ⟨_, rfl⟩
  obtain ⟨nS, hnS⟩ : ∃ k, S.length = k := ⟨_, rfl⟩
  rw [hnR] at hRl
  rw [hnS] at hSl
  rw [hR] at r3
  obtain ⟨g3, c3, rfl, _, _, _⟩ := r3.sl hRn nR hnR
  have h3 := hid h3
  have r3 := hid r3
  have hRh := hid hR
  have hSh := hid hS
  replace hnR := hid hnR
  replace hnS := hid hnS
  clear h2 k3 hR hS
  go_wp2_with fail
  refine (h3.out.walk b hbK).mono ?_
  rintro e w4 ⟨u4, rfl, r4, h4, k4⟩
  rw [hSh.out] at r4
  obtain ⟨g4, c4, rfl, _, _, _⟩ := r4.sl hSn nS hnS.out
  have r34 := hid (r3.out.keep k4)
  have h4 := hid h4
  have r4 := hid r4
  clear h3 r3 k4
  by_cases hin : b + 1 ∈ seq (a + 1)
  · have hsame := hid (h4.out.same a b haK hbK true (decide_eq_true ((p.out.one (by omega) (by omega)).2 hin)))
    have hll : nR = nS := by rw [← hnR.out, ← hnS.out, ← hRh.out, ← hSh.out, rot_len, rot_len, (p.out.one (by omega) (by omega)).2 hin]
    subst hll
    go_wp2_with fail
    refine hsame.out.mono ?_
    rintro e w5 ⟨rfl, h5, k5⟩
    have hmg := hid (h5.merge_same a b haK hbK hin)
    clear hsame h4 h5 k5 r34 r4
    go_wp2_with fail
    refine hmg.out.mono ?_
    rintro e w6 ⟨rfl, h6, k6⟩
    have h6 := hid h6
    clear hmg k6
    go_wp2_with fail
    refine (num_err 20 _ (h6.out.fs.handle hg.out rfl)).mono ?_
    rintro e w7 ⟨rfl, b7⟩
    have h7 := hid (h6.out.more b7)
    clear h6 b7
    go_wp2_with fail
    refine (sure_ok _).mono ?_
    rintro e ws ⟨rfl, bs⟩
    have hs := hid (h7.out.more bs)
    clear bs
    go_wp2_with fail
    go_ret
    exact ⟨rfl, bb.out.trans (hs.out.fs.below.mono bb.out.size)⟩
  · have hsame := hid (h4.out.same a b haK hbK false (decide_eq_false (fun e => hin ((p.out.one (by omega) (by omega)).1 e))))
    obtain ⟨q1, q2⟩ := merge_tells p.out (show a + 1 ≠ 0 by omega) (show b + 1 ≠ 0 by omega) hin
    rw [hRh.out, hSh.out] at q1
    replace q1 := hid q1
    replace q2 := hid q2
    go_wp2_with fail
    refine hsame.out.mono ?_
    rintro e w5 ⟨rfl, h5, k5⟩
    have r35 := hid (r34.out.keep k5)
    have r45 := hid (r4.out.keep k5)
    have hmg := hid (h5.merge a b haK hbK hin)
    clear hsame h4 h5 k5 r34 r4 hin
    go_wp2_with fail
    refine hmg.out.mono ?_
    rintro e w6 ⟨rfl, h6, k6⟩
    have r36 := hid (r35.out.keep k6)
    have r46 := hid (r45.out.keep k6)
    have h6 := hid h6
    clear hmg k6 r35 r45
    go_wp2_with fail
    refine (h6.out.walk a haK).mono ?_
    rintro e w7 ⟨u7, rfl, r7, h7, k7⟩
    rw [q1.out] at r7
    have r37 := hid (r36.out.keep k7)
    have r47 := hid (r46.out.keep k7)
    have h7 := hid h7
    have r7 := hid r7
    clear h6 k7 r36 r46
    go_wp2_with fail
    refine (h7.out.front b hbK (List.length_pos_of_mem (h7.out.fs.part.self (b + 1) (by omega)))).mono ?_
    rintro e w8 ⟨d, hd, rfl, h8, k8⟩
    obtain rfl : d = a := by
      rw [q2.out] at hd
      injection hd with hd
      omega
    have r38 := r37.out.keep k8
    have r48 := r47.out.keep k8
    have r78 := hid (r7.out.keep k8)
    have h8 := hid h8
    clear h7 k8 r37 r47 r7 hd
    obtain ⟨i0, hif, hz0, hz1, hz2⟩ := info_parts infoInt
    obtain ⟨g', c', e1, _, _, s3⟩ := r38.sl hRn nR hnR.out
    obtain ⟨g'', c'', e2, _, _, s4⟩ := r48.sl hSn nS hnS.out
    injection e1 with e1 _ e1c
    injection e2 with e2 _ e2c
    injection e1 with e1
    injection e2 with e2
    injection e1 with e1
    injection e2 with e2
    subst e1 e2 e1c e2c
    have n3 : Sl w8 ⟨g3, 0, none⟩ R := sl_of s3
    have n4 : Sl w8 ⟨g4, 0, none⟩ S := sl_of s4
    have hown := World.ownsRow_nil w8 w8.heap.size 3 1
    go_wp2_with (at_builtin; refine wpList_append_own w8 rfl (.tmp 109) (.tmp 110) 47 rfl w8.heap.size 3 i0 _ 1 8 Tryd.underlying47 hif hz0 hz1 hz2 rfl (by decide) _ _ _ rfl hown ⟨g3, 0, none⟩ nR c3 (R.map itm) rfl (by simp [hnR.out]) n3 (itm_one _) (by unfold maxLen; omega) (by omega) (Nat.le_refl _) ?_; intro v9 w9 ho9 hg9 _; refine Hid.out ?_)
    have b9 := below_grown (Below.refl w8.heap.size w8) (Nat.le_refl _) hown (Nat.le_refl _) hg9
    have n49 := n4.below b9
    have hsz9 := b9.size
    refine hid ?_
    go_wp2_with (at_builtin; refine wpList_append_own w9 rfl (.tmp 111) (.tmp 112) 47 rfl w8.heap.size 3 i0 _ 1 8 Tryd.underlying47 hif hz0 hz1 hz2 rfl (by decide) _ _ _ rfl ho9 ⟨g4, 0, none⟩ nS c4 (S.map itm) rfl (by simp [hnS.out]) n49 (itm_one _) (by unfold maxLen; omega) (by omega) hsz9 ?_; intro v10 w10 ho10 hg10 _; refine Hid.out ?_)
    have b10 := below_grown b9 (Nat.le_refl _) ho9 (Nat.le_refl _) hg10
    have hlen : (R ++ S).length = 0 + nR + nS := by rw [List.length_append, hnR.out, hnS.out]; omega
    have rall : Hid (Ns w10 v10 (items (R ++ S))) := hid (Rw.ns ⟨w8.heap.size, by rw [hlen, List.map_append]; exact ho10⟩ (by rw [hlen]; omega))
    have rz : Hid (Ns w10 u7 (items (R ++ S))) := hid ((r78.out.below b10).ns (by rw [hlen]; omega))
    have h10 := hid (h8.out.more b10)
    clear b9 b10 n3 n4 n49 hown ho9 ho10 hg9 hg10 s3 s4 r38 r48 r78 h8 hif hz0 hz1 hz2
    refine hid ?_
    go_wp2_with fail
    refine (ints_ok _ _ _ _ rz.out rall.out).mono ?_
    rintro e w11 ⟨rfl, b11⟩
    have h11 := hid (h10.out.more b11)
    clear b11 rz rall h10
    go_wp2_with fail
    refine (sure_ok _).mono ?_
    rintro e ws ⟨rfl, bs⟩
    have hs := hid (h11.out.more bs)
    clear bs
    go_wp2_with fail
    go_ret
    exact ⟨rfl, bb.out.trans (hs.out.fs.below.mono bb.out.size)⟩

end Go.Proofs.YtiiklklokkcnpaaDoor
