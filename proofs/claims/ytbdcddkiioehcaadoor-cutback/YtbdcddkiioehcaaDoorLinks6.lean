/- 'CutLinks', walked. -/
import Derived.Test.YtbdcddkiioehcaaDoorGrown6
import Derived.Test.YtbdcddkiioehcaaDoorFew6
namespace Go.Proofs.YtbdcddkiioehcaaDoor
open Go.RowKit
set_option linter.unusedVariables false

/-- Roads join. -/
theorem Wood.join {adj : Nat → Nat → Prop} (h : Wood adj) {a b c : Nat} {l m : List Nat} (h1 : Rd adj a b l) (h2 : Rd adj b c m) : ∃ k, Rd adj c a k := by
  obtain ⟨j, hj⟩ := h1.wk.cat h2.wk
  obtain ⟨k, hk⟩ := h.conn hj
  exact ⟨_, hk.rev (fun _ _ => h.symm)⟩

theorem Wood.back {adj : Nat → Nat → Prop} (h : Wood adj) {a b : Nat} {l : List Nat} (h1 : Rd adj a b l) : Rd adj b a l.reverse := h1.rev (fun _ _ => h.symm)

theorem three_mod {x y z : Nat} (h : (x + y + z) % 2 = 1) (hx : 0 < x) (hy : 0 < y) (hz : 0 < z) : ((x : Int) + (y : Int) + (z : Int) - 3).tmod 2 = 0 := by
  rw [Int.tmod_eq_emod_of_nonneg (by omega)]
  omega

set_option maxRecDepth 100000 in
set_option maxHeartbeats 8000000 in
theorem links_law (n : Int) (ad : Option Addr) (qs : List Act4) (cap : Nat) (o0 o1 o2 : Int) (w : World) (hg : Handle w) (hq : Acts w ad qs) :
    Calls Tryd.prog 8 #[.int .i64 n, .slice ad qs.length cap, .agg #[.int .i64 o0, .int .i64 o1, .int .i64 o2]] w fun e w' => e = .returned (.bool true) ∧ Below w.heap.size w w' := by
  obtain ⟨K, hK, hK1, hK2⟩ := mod_up n 30 (by decide) (by decide)
  have hK30 : K ≤ 30 := by omega
  have hql := hq.bound
  obtain ⟨wb, hwb⟩ : ∃ wb, w.alloc (.cells #[.int .i64 o0, .int .i64 o1, .int .i64 o2] 60) = wb := ⟨_, rfl⟩
  have bb : Below w.heap.size w wb := by rw [← hwb]; exact (Below.refl _ _).alloc (Nat.le_refl _) _
  have hbn : wb.heap[w.heap.size]? = some (.cells #[.int .i64 o0, .int .i64 o1, .int .i64 o2] 60 (0, 0)) := by rw [← hwb]; exact heap_alloc_new w _
  obtain ⟨ob, hob⟩ : ∃ ob, w.heap.size = ob := ⟨_, rfl⟩
  have hoblt : ob < wb.heap.size := by rw [hob] at hbn; exact (Array.getElem?_eq_some_iff.1 hbn).1
  have hofs : Hid (∀ y, Below wb.heap.size wb y → y.cell? ⟨ob, 0, none⟩ = some (.int .i64 o0) ∧ y.cell? ⟨ob, 1, none⟩ = some (.int .i64 o1) ∧ y.cell? ⟨ob, 2, none⟩ = some (.int .i64 o2)) := fun y hy => by
    rw [hob] at hbn
    have e := (hy.block ob hoblt).trans hbn
    refine ⟨?_, ?_, ?_⟩ <;> (unfold World.cell?; rw [e]; simp)
  have hbu := hid (grown_ok K ad qs cap wb hK1 (by omega) (hq.below bb))
  have hg : Hid (Handle wb) := hid (hg.belowB bb (World.block_lt_of_cell? w _ hg))
  have bb := hid bb
  clear hq hbn
  go_enter Tryd.func8, Tryd.ntmps8
  go_wp2_with fail
  try rw [hK]
  try rw [hwb]
  try rw [hob]
  refine hbu.out.mono ?_
  rintro e w1 ⟨fb, vb, rfl, v, adj, hrg, h1, hvb⟩
  obtain ⟨f0, f1, f2⟩ := hofs.out w1 h1.below
  obtain ⟨a, ha, haK⟩ := mod_inN o0 K hK1 (by omega)
  obtain ⟨b, hb, hbK⟩ := mod_inN o1 K hK1 (by omega)
  obtain ⟨c, hc, hcK⟩ := mod_inN o2 K hK1 (by omega)
  have h1 := hid h1
  clear hbu hK hwb hob hrg hvb
  go_wp2_with fail
  go_region
  rw [ha, hb, hc]
  have h1 := hid h1.out.drew
  generalize w1.drew = w1 at h1 ⊢
  clear f0 f1 f2 ha hb hc
  have hw := hid h1.out.wood
  by_cases hab : ∃ l, Rd adj (a + 1) (b + 1) l
  · obtain ⟨l1, hab⟩ := hab
    obtain ⟨X, hX⟩ : ∃ X : Int, (l1.length : Int) = X := ⟨_, rfl⟩
    have hX := hid hX
    by_cases hbc : ∃ l, Rd adj (b + 1) (c + 1) l
    · obtain ⟨l2, hbc⟩ := hbc
      obtain ⟨l3, hca⟩ := hw.out.join hab hbc
      obtain ⟨Y, hY⟩ : ∃ Y : Int, (l2.length : Int) = Y := ⟨_, rfl⟩
      have hY := hid hY
      obtain ⟨Z, hZ⟩ : ∃ Z : Int, (l3.length : Int) = Z := ⟨_, rfl⟩
      have hZ := hid hZ
      have h3 := hw.out.three hab hbc hca
      have n1 := h1.out.few hab haK
      have n2 := h1.out.few hbc hbK
      have n3 := h1.out.few hca hcK
      have bX : 0 ≤ X ∧ X ≤ 8388610 := by rw [← hX.out]; omega
      have bY : 0 ≤ Y ∧ Y ≤ 8388610 := by rw [← hY.out]; omega
      have bZ : 0 ≤ Z ∧ Z ≤ 8388610 := by rw [← hZ.out]; omega
      have m1 : (X + Y + Z - 3).tmod 2 = 0 := by rw [← hX.out, ← hY.out, ← hZ.out]; exact three_mod h3.1 (List.length_pos_iff.2 hab.wk.last.1) (List.length_pos_iff.2 hbc.wk.last.1) (List.length_pos_iff.2 hca.wk.last.1)
      have m2 : decide (Z ≤ X + Y - 1) = true := decide_eq_true (by rw [← hX.out, ← hY.out, ← hZ.out]; have := h3.2; omega)
      have hab := hid hab
      have hbc := hid hbc
      have hca := hid hca
      clear h3 n1 n2 n3
      by_cases t2 : l1.length = 2
      · have tX : (X == 2) = true := by rw [← hX.out, t2]; rfl
        have t2 := hid t2
        go_wp2_with fail
        refine (h1.out.lenY a b haK hbK l1 hab.out).mono ?_
        rintro e w2 ⟨rfl, h2, _⟩
        have h2 := hid h2
        clear h1
        try rw [hX.out]
        go_wp2_with fail
        refine (h2.out.near2 a b haK hbK l1 hab.out t2.out).mono ?_
        rintro e w3 ⟨rfl, h3, _⟩
        have h3 := hid h3
        clear h2
        go_wp2_with fail
        refine (h3.out.lenY b c hbK hcK l2 hbc.out).mono ?_
        rintro e w4 ⟨rfl, h4, _⟩
        have h4 := hid h4
        clear h3
        try rw [hY.out]
        go_wp2_with fail
        refine (h4.out.lenY c a hcK haK l3 hca.out).mono ?_
        rintro e w5 ⟨rfl, h5, _⟩
        have h5 := hid h5
        clear h4
        try rw [hZ.out]
        go_wp2_with fail
        refine (sure_ok _ (h5.out.handle hg.out rfl)).mono ?_
        rintro e w9 ⟨rfl, b9⟩
        have h9 := hid (h5.out.more b9)
        clear b9
        go_wp2_with fail
        go_ret
        exact ⟨rfl, bb.out.trans (h9.out.below.mono bb.out.size)⟩
      · have tX : (X == 2) = false := by rw [beq_eq_false_iff_ne, ← hX.out]; omega
        have t2 := hid t2
        go_wp2_with fail
        refine (h1.out.lenY a b haK hbK l1 hab.out).mono ?_
        rintro e w2 ⟨rfl, h2, _⟩
        have h2 := hid h2
        clear h1
        try rw [hX.out]
        go_wp2_with fail
        refine (h2.out.nearn a b haK hbK l1 hab.out t2.out).mono ?_
        rintro e w3 ⟨rfl, h3, _⟩
        have h3 := hid h3
        clear h2
        go_wp2_with fail
        refine (h3.out.lenY b c hbK hcK l2 hbc.out).mono ?_
        rintro e w4 ⟨rfl, h4, _⟩
        have h4 := hid h4
        clear h3
        try rw [hY.out]
        go_wp2_with fail
        refine (h4.out.lenY c a hcK haK l3 hca.out).mono ?_
        rintro e w5 ⟨rfl, h5, _⟩
        have h5 := hid h5
        clear h4
        try rw [hZ.out]
        go_wp2_with fail
        refine (sure_ok _ (h5.out.handle hg.out rfl)).mono ?_
        rintro e w9 ⟨rfl, b9⟩
        have h9 := hid (h5.out.more b9)
        clear b9
        go_wp2_with fail
        go_ret
        exact ⟨rfl, bb.out.trans (h9.out.below.mono bb.out.size)⟩
    · have hbc : Hid (∀ l, ¬ Rd adj (b + 1) (c + 1) l) := hid (fun l e => hbc ⟨l, e⟩)
      have hca : Hid (∀ l, ¬ Rd adj (c + 1) (a + 1) l) := hid (fun l e => by obtain ⟨k, hk⟩ := hw.out.join e hab; exact hbc.out k hk)
      have hab := hid hab
      by_cases t2 : l1.length = 2
      · have tX : (X == 2) = true := by rw [← hX.out, t2]; rfl
        have t2 := hid t2
        go_wp2_with fail
        refine (h1.out.lenY a b haK hbK l1 hab.out).mono ?_
        rintro e w2 ⟨rfl, h2, _⟩
        have h2 := hid h2
        clear h1
        try rw [hX.out]
        go_wp2_with fail
        refine (h2.out.near2 a b haK hbK l1 hab.out t2.out).mono ?_
        rintro e w3 ⟨rfl, h3, _⟩
        have h3 := hid h3
        clear h2
        go_wp2_with fail
        refine (h3.out.lenN b c hbK hcK hbc.out).mono ?_
        rintro e w4 ⟨rfl, h4, _⟩
        have h4 := hid h4
        clear h3
        go_wp2_with fail
        refine (h4.out.lenN c a hcK haK hca.out).mono ?_
        rintro e w5 ⟨rfl, h5, _⟩
        have h5 := hid h5
        clear h4
        go_wp2_with fail
        refine (sure_ok _ (h5.out.handle hg.out rfl)).mono ?_
        rintro e w9 ⟨rfl, b9⟩
        have h9 := hid (h5.out.more b9)
        clear b9
        go_wp2_with fail
        go_ret
        exact ⟨rfl, bb.out.trans (h9.out.below.mono bb.out.size)⟩
      · have tX : (X == 2) = false := by rw [beq_eq_false_iff_ne, ← hX.out]; omega
        have t2 := hid t2
        go_wp2_with fail
        refine (h1.out.lenY a b haK hbK l1 hab.out).mono ?_
        rintro e w2 ⟨rfl, h2, _⟩
        have h2 := hid h2
        clear h1
        try rw [hX.out]
        go_wp2_with fail
        refine (h2.out.nearn a b haK hbK l1 hab.out t2.out).mono ?_
        rintro e w3 ⟨rfl, h3, _⟩
        have h3 := hid h3
        clear h2
        go_wp2_with fail
        refine (h3.out.lenN b c hbK hcK hbc.out).mono ?_
        rintro e w4 ⟨rfl, h4, _⟩
        have h4 := hid h4
        clear h3
        go_wp2_with fail
        refine (h4.out.lenN c a hcK haK hca.out).mono ?_
        rintro e w5 ⟨rfl, h5, _⟩
        have h5 := hid h5
        clear h4
        go_wp2_with fail
        refine (sure_ok _ (h5.out.handle hg.out rfl)).mono ?_
        rintro e w9 ⟨rfl, b9⟩
        have h9 := hid (h5.out.more b9)
        clear b9
        go_wp2_with fail
        go_ret
        exact ⟨rfl, bb.out.trans (h9.out.below.mono bb.out.size)⟩
  · have hab : Hid (∀ l, ¬ Rd adj (a + 1) (b + 1) l) := hid (fun l e => hab ⟨l, e⟩)
    by_cases hbc : ∃ l, Rd adj (b + 1) (c + 1) l
    · obtain ⟨l2, hbc⟩ := hbc
      obtain ⟨Y, hY⟩ : ∃ Y : Int, (l2.length : Int) = Y := ⟨_, rfl⟩
      have hY := hid hY
      have hca : Hid (∀ l, ¬ Rd adj (c + 1) (a + 1) l) := hid (fun l e => by obtain ⟨k, hk⟩ := hw.out.join hbc e; exact hab.out k hk)
      have hbc := hid hbc
      go_wp2_with fail
      refine (h1.out.lenN a b haK hbK hab.out).mono ?_
      rintro e w2 ⟨rfl, h2, _⟩
      have h2 := hid h2
      clear h1
      go_wp2_with fail
      refine (h2.out.near0 a b haK hbK hab.out).mono ?_
      rintro e w3 ⟨rfl, h3, _⟩
      have h3 := hid h3
      clear h2
      go_wp2_with fail
      refine (h3.out.lenY b c hbK hcK l2 hbc.out).mono ?_
      rintro e w4 ⟨rfl, h4, _⟩
      have h4 := hid h4
      clear h3
      try rw [hY.out]
      go_wp2_with fail
      refine (h4.out.lenN c a hcK haK hca.out).mono ?_
      rintro e w5 ⟨rfl, h5, _⟩
      have h5 := hid h5
      clear h4
      go_wp2_with fail
      refine (sure_ok _ (h5.out.handle hg.out rfl)).mono ?_
      rintro e w9 ⟨rfl, b9⟩
      have h9 := hid (h5.out.more b9)
      clear b9
      go_wp2_with fail
      go_ret
      exact ⟨rfl, bb.out.trans (h9.out.below.mono bb.out.size)⟩
    · have hbc : Hid (∀ l, ¬ Rd adj (b + 1) (c + 1) l) := hid (fun l e => hbc ⟨l, e⟩)
      by_cases hca : ∃ l, Rd adj (c + 1) (a + 1) l
      · obtain ⟨l3, hca⟩ := hca
        obtain ⟨Z, hZ⟩ : ∃ Z : Int, (l3.length : Int) = Z := ⟨_, rfl⟩
        have hZ := hid hZ
        have hca := hid hca
        go_wp2_with fail
        refine (h1.out.lenN a b haK hbK hab.out).mono ?_
        rintro e w2 ⟨rfl, h2, _⟩
        have h2 := hid h2
        clear h1
        go_wp2_with fail
        refine (h2.out.near0 a b haK hbK hab.out).mono ?_
        rintro e w3 ⟨rfl, h3, _⟩
        have h3 := hid h3
        clear h2
        go_wp2_with fail
        refine (h3.out.lenN b c hbK hcK hbc.out).mono ?_
        rintro e w4 ⟨rfl, h4, _⟩
        have h4 := hid h4
        clear h3
        go_wp2_with fail
        refine (h4.out.lenY c a hcK haK l3 hca.out).mono ?_
        rintro e w5 ⟨rfl, h5, _⟩
        have h5 := hid h5
        clear h4
        try rw [hZ.out]
        go_wp2_with fail
        refine (sure_ok _ (h5.out.handle hg.out rfl)).mono ?_
        rintro e w9 ⟨rfl, b9⟩
        have h9 := hid (h5.out.more b9)
        clear b9
        go_wp2_with fail
        go_ret
        exact ⟨rfl, bb.out.trans (h9.out.below.mono bb.out.size)⟩
      · have hca : Hid (∀ l, ¬ Rd adj (c + 1) (a + 1) l) := hid (fun l e => hca ⟨l, e⟩)
        go_wp2_with fail
        refine (h1.out.lenN a b haK hbK hab.out).mono ?_
        rintro e w2 ⟨rfl, h2, _⟩
        have h2 := hid h2
        clear h1
        go_wp2_with fail
        refine (h2.out.near0 a b haK hbK hab.out).mono ?_
        rintro e w3 ⟨rfl, h3, _⟩
        have h3 := hid h3
        clear h2
        go_wp2_with fail
        refine (h3.out.lenN b c hbK hcK hbc.out).mono ?_
        rintro e w4 ⟨rfl, h4, _⟩
        have h4 := hid h4
        clear h3
        go_wp2_with fail
        refine (h4.out.lenN c a hcK haK hca.out).mono ?_
        rintro e w5 ⟨rfl, h5, _⟩
        have h5 := hid h5
        clear h4
        go_wp2_with fail
        refine (sure_ok _ (h5.out.handle hg.out rfl)).mono ?_
        rintro e w9 ⟨rfl, b9⟩
        have h9 := hid (h5.out.more b9)
        clear b9
        go_wp2_with fail
        go_ret
        exact ⟨rfl, bb.out.trans (h9.out.below.mono bb.out.size)⟩

end Go.Proofs.YtbdcddkiioehcaaDoor
