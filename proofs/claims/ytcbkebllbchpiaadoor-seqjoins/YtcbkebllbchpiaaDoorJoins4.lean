/- 'SeqJoins', walked. -/
import Derived.Test.YtcbkebllbchpiaaDoorTurns4
import Derived.Maps.AppendAt
namespace Go.Proofs.YtcbkebllbchpiaaDoor
open Go.RowKit
set_option linter.unusedVariables false

theorem mod_up2 (n M : Int) (h1 : 1 ≤ M) (h2 : M ≤ 1000000) : ∃ K : Nat, wrap64 (2 + wrap64 ((IntKind.u64.wrap n).tmod M)) = (K : Int) ∧ 2 ≤ K ∧ (K : Int) ≤ M + 1 := by
  have e : (IntKind.u64.wrap n).tmod M = n % 18446744073709551616 % M := by
    rw [IntKind.wrap_u64, Int.tmod_eq_emod_of_nonneg (by omega)]
  have g1 : 0 ≤ n % 18446744073709551616 % M := Int.emod_nonneg _ (by omega)
  have g2 : n % 18446744073709551616 % M < M := Int.emod_lt_of_pos _ (by omega)
  rw [e]
  generalize n % 18446744073709551616 % M = r at g1 g2
  refine ⟨(2 + r).toNat, ?_, by omega, by omega⟩
  have w1 : wrap64 r = r := IntWalk.wrap64_in r ⟨by omega, by omega⟩
  have w2 : wrap64 (2 + r) = 2 + r := IntWalk.wrap64_in _ ⟨by omega, by omega⟩
  rw [w1, w2]
  omega

theorem rw_src {w : World} {g cap : Nat} {l : List Nat} (h : Rw w (.slice (some ⟨g, 0, none⟩) l.length cap) l) : ∀ j u, (l.map itm)[j]? = some u → w.cell? ((⟨g, 0, none⟩ : Addr).add j) = some u := by
  intro j u hu
  obtain ⟨ad, cap', e, _, hc⟩ := h.form
  injection e with e1 _ _
  obtain ⟨g', e2, hc'⟩ := hc ⟨g, 0, none⟩ e1.symm
  cases e2
  rw [List.getElem?_map] at hu
  cases hd : l[j]? with
  | none => rw [hd] at hu; cases hu
  | some d =>
    rw [hd] at hu
    rw [show (⟨g, 0, none⟩ : Addr).add j = ⟨g, j, none⟩ from by unfold Addr.add; split <;> simp_all, hc' j d hd]
    simpa using hu

theorem FS.grown {lo fb n : Nat} {w wr w' : World} {v : Nat → Int} {seq : Nat → List Nat} (h : FS lo w fb n v seq wr) {base k : Nat} {u : Value} {xs : List Value} (ho : wr.ownsRow base 3 1 u k xs) (hg : wr.grownBy w' u.ownBlock) (hb : wr.heap.size ≤ base) : FS lo w fb n v seq w' := by
  obtain ⟨nb, N, T, sub, hs⟩ := h.start
  exact (hs.grown ho hg hb (Nat.le_trans (Nat.le_trans hs.lw hs.below.size) hb)).end_

set_option maxRecDepth 100000 in
set_option maxHeartbeats 8000000 in
theorem joins_law (n : Int) (ad : Option Addr) (qs : List Act4) (cap : Nat) (o0 o1 : Int) (w : World) (hg : Handle w) (hq : Acts w ad qs) :
    Calls Tryd.prog 7 #[.int .i64 n, .slice ad qs.length cap, .agg #[.int .i64 o0, .int .i64 o1]] w fun e w' => e = .returned (.bool true) ∧ Below w.heap.size w w' := by
  obtain ⟨i0, hif, hz0, hz1, hz2⟩ := info_parts infoInt
  obtain ⟨K, hK, hK1, hK2⟩ := mod_up2 n 20 (by decide) (by decide)
  have hK21 : K ≤ 21 := by omega
  have hql := hq.bound
  obtain ⟨wb, hwb⟩ : ∃ wb, w.alloc (.cells #[.int .i64 o0, .int .i64 o1] 61) = wb := ⟨_, rfl⟩
  have bb : Below w.heap.size w wb := by rw [← hwb]; exact (Below.refl _ _).alloc (Nat.le_refl _) _
  have hbn : wb.heap[w.heap.size]? = some (.cells #[.int .i64 o0, .int .i64 o1] 61 (0, 0)) := by rw [← hwb]; exact heap_alloc_new w _
  obtain ⟨ob, hob⟩ : ∃ ob, w.heap.size = ob := ⟨_, rfl⟩
  have hoblt : ob < wb.heap.size := by rw [hob] at hbn; exact (Array.getElem?_eq_some_iff.1 hbn).1
  have hofs : Hid (∀ y, Below wb.heap.size wb y → y.cell? ⟨ob, 0, none⟩ = some (.int .i64 o0) ∧ y.cell? ⟨ob, 1, none⟩ = some (.int .i64 o1)) := fun y hy => by
    rw [hob] at hbn
    have e := (hy.block ob hoblt).trans hbn
    constructor <;> (unfold World.cell?; rw [e]; simp)
  have hbu := hid (built_ok K ad qs cap wb (by omega) (by omega) (hq.below bb))
  have hg : Hid (Handle wb) := hid (hg.belowB bb (World.block_lt_of_cell? w _ hg))
  have bb := hid bb
  clear hq hbn
  go_enter Tryd.func7, Tryd.ntmps7
  go_wp2_with fail
  try rw [hK]
  try rw [hwb]
  try rw [hob]
  refine hbu.out.mono ?_
  rintro e w1 ⟨fb, rfl, v, seq, h1⟩
  obtain ⟨f0, f1⟩ := hofs.out w1 h1.below
  obtain ⟨a, ha, haK⟩ := mod_inN o0 K (by omega) (by omega)
  obtain ⟨b, hb, hbK⟩ := mod_inN o1 K (by omega) (by omega)
  have h1 := hid (h1.more (Below.refl _ _).drew)
  have hK1' : (1 : Int) ≤ (K : Int) := by omega
  clear hbu hK hwb hob
  go_wp2_with fail
  go_region
  try rw [ha, hb]
  generalize w1.drew = w1 at h1 ⊢
  clear f0 f1 ha hb
  go_wp2_with fail
  refine (h1.out.list a haK).mono ?_
  rintro e w2 ⟨u2, rfl, r2, h2, _⟩
  obtain ⟨X, hX⟩ : ∃ X, a + 1 = X := ⟨_, rfl⟩
  obtain ⟨Y, hY⟩ : ∃ Y, b + 1 = Y := ⟨_, rfl⟩
  have hX0 : X ≠ 0 := by omega
  have hY0 : Y ≠ 0 := by omega
  have p2 := hid h2.part
  obtain ⟨S, hS⟩ : ∃ S, seq X = S := ⟨_, rfl⟩
  obtain ⟨R, hR⟩ : ∃ R, seq Y = R := ⟨_, rfl⟩
  have hSh := hid hS
  have hRh := hid hR
  have hSl : S.length ≤ 8388610 := by rw [← hS]; exact p2.out.len X hX0
  have hRl : R.length ≤ 8388610 := by rw [← hR]; exact p2.out.len Y hY0
  rw [hX, hS] at r2
  have r2 := hid r2
  have h2 := hid h2
  clear h1 hS hR
  go_wp2_with fail
  refine (h2.out.list b hbK).mono ?_
  rintro e w3 ⟨u3, rfl, r3, h3, k3⟩
  rw [hY, hRh.out] at r3
  have rx3 := hid (r2.out.keep k3)
  have ry3 := hid r3
  have hsu := h3.sum a haK
  rw [hX, hSh.out] at hsu
  obtain ⟨s1, hs1⟩ : ∃ s, wrap64 (sumV v S) = s := ⟨_, rfl⟩
  rw [hs1] at hsu
  have hsu := hid hsu
  clear r2 h2 r3 k3 h3
  go_wp2_with fail
  refine hsu.out.mono ?_
  rintro e w4 ⟨rfl, h4, k4⟩
  have rx4 := hid (rx3.out.keep k4)
  have ry4 := hid (ry3.out.keep k4)
  have hsu := h4.sum b hbK
  rw [hY, hRh.out] at hsu
  obtain ⟨s2, hs2⟩ : ∃ s, wrap64 (sumV v R) = s := ⟨_, rfl⟩
  rw [hs2] at hsu
  have hsu := hid hsu
  have hs12 := hid (And.intro hs1 hs2)
  clear rx3 ry3 k4 h4 hs1 hs2
  go_wp2_with fail
  refine hsu.out.mono ?_
  rintro e w5 ⟨rfl, h5, k5⟩
  have rx5 := hid (rx4.out.keep k5)
  have ry5 := hid (ry4.out.keep k5)
  have hsa := h5.same a b haK hbK
  rw [hX, hY, hSh.out, hRh.out] at hsa
  clear rx4 ry4 k5 h5 hsu
  by_cases hSR : S = R
  · subst hSR
    have hse : s1 = s2 := by rw [← hs12.out.1, ← hs12.out.2]
    subst hse
    rw [decide_eq_true rfl] at hsa
    have hsa := hid hsa
    go_wp2_with fail
    refine hsa.out.mono ?_
    rintro e w6 ⟨rfl, h6, k6⟩
    have nx := hid ((rx5.out.keep k6).ns (by omega))
    have ny := hid ((ry5.out.keep k6).ns (by omega))
    have rx6 := hid (rx5.out.keep k6)
    have ry6 := hid (ry5.out.keep k6)
    have h6 := hid h6
    clear hsa k6 rx5 ry5
    go_wp2_with fail
    refine (h6.out.join_same a b haK hbK (by rw [hX, hY, hSh.out, hRh.out])).mono ?_
    rintro e w7 ⟨rfl, h7, k7⟩
    have nx := hid ((rx6.out.keep k7).ns (by omega))
    have ny := hid ((ry6.out.keep k7).ns (by omega))
    have h7 := hid h7
    clear h6 k7 rx6 ry6
    go_wp2_with fail
    refine (num_err 20 _ (h7.out.handle hg.out rfl)).mono ?_
    rintro e w8 ⟨rfl, b8⟩
    have h8 := hid (h7.out.more b8)
    have nx := hid (nx.out.below b8)
    have ny := hid (ny.out.below b8)
    clear h7 b8
    go_wp2_with fail
    refine (ints_ok _ _ _ _ nx.out ny.out).mono ?_
    rintro e w9 ⟨rfl, b9⟩
    have h9 := hid (h8.out.more b9)
    clear h8 b9
    go_wp2_with fail
    refine (sure_ok _ (h9.out.handle hg.out rfl)).mono ?_
    rintro e w10 ⟨rfl, b10⟩
    have h10 := hid (h9.out.more b10)
    clear h9 b10
    go_wp2_with fail
    go_ret
    exact ⟨rfl, bb.out.trans (h10.out.below.mono bb.out.size)⟩
  · rw [decide_eq_false hSR] at hsa
    have hsa := hid hsa
    have hSRh := hid hSR
    clear hSR
    go_wp2_with fail
    refine hsa.out.mono ?_
    rintro e w6 ⟨rfl, h6, k6⟩
    have rx6 := hid (rx5.out.keep k6)
    have ry6 := hid (ry5.out.keep k6)
    have h6 := hid h6
    clear hsa k6 rx5 ry5
    go_wp2_with fail
    refine (h6.out.join a b haK hbK (by rw [hX, hY, hSh.out, hRh.out]; exact hSRh.out)).mono ?_
    rintro e w7 ⟨rfl, h7, k7⟩
    rw [hX, hY] at h7
    have eX : Hid (joinS seq X Y X = S ++ R) := hid (by unfold joinS; rw [if_pos (Or.inl (p2.out.self X hX0)), hSh.out, hRh.out])
    have eY : Hid (joinS seq X Y Y = S ++ R) := hid (by unfold joinS; rw [if_pos (Or.inr (p2.out.self Y hY0)), hSh.out, hRh.out])
    have rx7 := hid (rx6.out.keep k7)
    have ry7 := hid (ry6.out.keep k7)
    have h7 := hid h7
    generalize joinS seq X Y = seq7 at h7 eX eY
    clear h6 k7 rx6 ry6
    go_wp2_with fail
    refine (h7.out.list b hbK).mono ?_
    rintro e w8 ⟨u8, rfl, r8, h8, k8⟩
    rw [hY, eY.out] at r8
    have rx8 := hid (rx7.out.keep k8)
    have ry8 := hid (ry7.out.keep k8)
    have r8 := hid r8
    have hsu := h8.sum a haK
    have hsum : wrap64 (sumV v (S ++ R)) = wrap64 (s1 + s2) := by
      rw [sumV_append, ← hs12.out.1, ← hs12.out.2]; unfold wrap64; omega
    rw [hX, eX.out, hsum] at hsu
    have hsu := hid hsu
    clear h7 rx7 ry7 k8 h8 hsum
    go_wp2_with fail
    refine hsu.out.mono ?_
    rintro e w9 ⟨rfl, h9, k9⟩
    have rx9 := hid (rx8.out.keep k9)
    have ry9 := hid (ry8.out.keep k9)
    have r9 := hid (r8.out.keep k9)
    have hsz := h9.size b hbK
    rw [hY, eY.out, List.length_append] at hsz
    have hsz := hid hsz
    clear hsu rx8 ry8 r8 k9 h9
    go_wp2_with fail
    refine hsz.out.mono ?_
    rintro e w10 ⟨rfl, h10, k10⟩
    have rx10 := hid (rx9.out.keep k10)
    have ry10 := hid (ry9.out.keep k10)
    have r10 := hid (r9.out.keep k10)
    have h10 := hid h10
    clear hsz rx9 ry9 r9 k10
    have hSne : S ≠ [] := fun e => by have := p2.out.self X hX0; rw [hSh.out, e] at this; cases this
    have hRne : R ≠ [] := fun e => by have := p2.out.self Y hY0; rw [hRh.out, e] at this; cases this
    obtain ⟨gx, cx, hux, _⟩ := rx10.out.some hSne
    obtain ⟨gy, cy, huy, _⟩ := ry10.out.some hRne
    subst hux huy
    have srcx := rw_src rx10.out
    have srcy := hid (rw_src ry10.out)
    have hSp : 1 ≤ S.length := by cases S with
      | nil => exact absurd rfl hSne
      | cons _ _ => simp
    have hRp : 1 ≤ R.length := by cases R with
      | nil => exact absurd rfl hRne
      | cons _ _ => simp
    have nil10 := World.ownsRow_nil w10 w10.heap.size 3 1
    go_wp2_with (at_builtin; refine wpList_append_lies _ rfl (.tmp 144) (.tmp 145) 50 rfl w10.heap.size 3 i0 _ 1 8 Tryd.underlying50 hif hz0 hz1 hz2 rfl (by decide) _ _ _ rfl nil10 ⟨gx, 0, none⟩ S.length cx (S.map itm) rfl (by simp) srcx (itm_one _) (by omega) (by unfold maxLen; omega) (by omega) (Nat.le_refl _) _ rfl ?_; intro g11 cap11 w11 hown11 hgrow11 hg11 hlt11; refine Hid.out ?_)
    have hgrow11 : w10.grownBy w11 none := hgrow11
    have hown11 : w11.ownsRow w10.heap.size 3 1 (.slice (some ⟨g11, 0, none⟩) S.length cap11) S.length (S.map itm) := by simpa using hown11
    obtain ⟨nb, N, T, sub, hs10⟩ := h10.out.start
    have hs11 := hid (hs10.grown nil10 hgrow11 (Nat.le_refl _) (Nat.le_trans hs10.lw hs10.below.size))
    have hlo10 := Nat.le_trans hs10.lw hs10.below.size
    have srcy11 : ∀ j u, (R.map itm)[j]? = some u → w11.cell? ((⟨gy, 0, none⟩ : Addr).add j) = some u := fun j u hu => hgrow11.cell (srcy.out j u hu) (by simp)
    have hsz11 := hgrow11.size
    have hown11h := hid hown11
    clear hs10 h10 srcx nil10 hgrow11
    refine hid ?_
    go_wp2_with (at_builtin; refine wpList_append_lies _ rfl (.tmp 146) (.tmp 147) 50 rfl w10.heap.size 3 i0 _ 1 8 Tryd.underlying50 hif hz0 hz1 hz2 rfl (by decide) _ _ _ rfl hown11 ⟨gy, 0, none⟩ R.length cy (R.map itm) rfl (by simp) srcy11 (itm_one _) (by omega) (by unfold maxLen; omega) (by omega) hsz11 _ rfl ?_; intro g12 cap12 w12 hown12 hgrow12 hg12 hlt12; refine Hid.out ?_)
    have hs12' := hid (hs11.out.grown hown11h.out hgrow12 (Nat.le_refl _) hlo10)
    have ra12 : Hid (Rw w12 (.slice (some ⟨g12, 0, none⟩) (S.length + R.length) cap12) (S ++ R)) := hid ⟨w10.heap.size, by
      rw [List.map_append, List.length_append]
      exact hown12⟩
    have rz12 := hid (r10.out.keep hs12'.out.keep)
    have na := hid (ra12.out.ns (by rw [List.length_append]; omega))
    have nz := hid (rz12.out.ns (by rw [List.length_append]; omega))
    have h12 := hid hs12'.out.end_
    have tq : (((S.length + R.length : Nat) : Int) == (S.length : Int) + (R.length : Int)) = true := by simp
    clear hs11 hs12' hown12 hgrow12 hg12 hown11 hown11h srcy11 srcy rx10 ry10 r10 hg11
    refine hid ?_
    go_wp2_with fail
    refine (ints_ok _ _ _ _ nz.out na.out).mono ?_
    rintro e w13 ⟨rfl, b13⟩
    have h13 := hid (h12.out.more b13)
    clear h12 b13 na nz
    go_wp2_with fail
    refine (sure_ok _ (h13.out.handle hg.out rfl)).mono ?_
    rintro e w14 ⟨rfl, b14⟩
    have h14 := hid (h13.out.more b14)
    clear h13 b14
    go_wp2_with fail
    go_ret
    exact ⟨rfl, bb.out.trans (h14.out.below.mono bb.out.size)⟩

end Go.Proofs.YtcbkebllbchpiaaDoor
