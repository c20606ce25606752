/- 'SeqTurns', walked. -/
import Derived.Test.YtcbkebllbchpiaaDoorBuilt4
import Derived.Test.YtcbkebllbchpiaaDoorAt4
namespace Go.Proofs.YtcbkebllbchpiaaDoor
open Go.RowKit
set_option linter.unusedVariables false

theorem mod_inM (z : Int) (C : Nat) (h1 : 1 ≤ C) (h2 : C ≤ 1000000000) : ∃ a : Nat, wrap64 ((IntKind.u64.wrap z).tmod (C : Int)) = (a : Int) ∧ a < C := by
  have e : (IntKind.u64.wrap z).tmod (C : Int) = z % 18446744073709551616 % (C : Int) := by
    rw [IntKind.wrap_u64, Int.tmod_eq_emod_of_nonneg (by omega)]
  have g1 : 0 ≤ z % 18446744073709551616 % (C : Int) := Int.emod_nonneg _ (by omega)
  have g2 : z % 18446744073709551616 % (C : Int) < C := Int.emod_lt_of_pos _ (by omega)
  rw [e]
  generalize z % 18446744073709551616 % (C : Int) = r at g1 g2
  refine ⟨r.toNat, ?_, by omega⟩
  rw [IntWalk.wrap64_in r ⟨by omega, by omega⟩]
  omega

/-- What a row of items holds, where it is not empty. -/
theorem Rw.some {w : World} {u : Value} {l : List Nat} (h : Rw w u l) (hl : l ≠ []) : ∃ g cap, u = .slice (some ⟨g, 0, none⟩) l.length cap ∧ ∀ y, Rw y u l → ∀ (j d : Nat), l[j]? = some (d + 1) → y.cell? ⟨g, j, none⟩ = some (.int .i64 (d : Int)) := by
  obtain ⟨ad, cap, rfl, hn, hc⟩ := h.form
  cases ad with
  | none => exact absurd (hn rfl) hl
  | some a =>
    obtain ⟨g, rfl, _⟩ := hc a rfl
    refine ⟨g, cap, rfl, fun y hy j d hd => ?_⟩
    obtain ⟨ad', cap', e, _, hc'⟩ := hy.form
    injection e with e1 _ _
    obtain ⟨g', e2, hc''⟩ := hc' ⟨g, 0, none⟩ e1.symm
    cases e2
    rw [hc'' j (d + 1) hd]
    unfold itm; congr 2; omega

set_option maxRecDepth 100000 in
set_option maxHeartbeats 8000000 in
theorem turns_law (n : Int) (ad : Option Addr) (qs : List Act4) (cap : Nat) (o0 o1 : Int) (w : World) (hg : Handle w) (hq : Acts w ad qs) :
    Calls Tryd.prog 8 #[.int .i64 n, .slice ad qs.length cap, .agg #[.int .i64 o0, .int .i64 o1]] w fun e w' => e = .returned (.bool true) ∧ Below w.heap.size w w' := by
  obtain ⟨K, hK, hK1, hK2⟩ := mod_up n 20 (by decide) (by decide)
  have hK20 : K ≤ 20 := by omega
  have hql := hq.bound
  obtain ⟨wb, hwb⟩ : ∃ wb, w.alloc (.cells #[.int .i64 o0, .int .i64 o1] 61) = wb := ⟨_, rfl⟩
  have bb : Below w.heap.size w wb := by rw [← hwb]; exact (Below.refl _ _).alloc (Nat.le_refl _) _
  have hbn : wb.heap[w.heap.size]? = some (.cells #[.int .i64 o0, .int .i64 o1] 61 (0, 0)) := by rw [← hwb]; exact heap_alloc_new w _
  obtain ⟨ob, hob⟩ : ∃ ob, w.heap.size = ob := ⟨_, rfl⟩
  have hoblt : ob < wb.heap.size := by rw [hob] at hbn; exact (Array.getElem?_eq_some_iff.1 hbn).1
  have hofs : Hid (∀ y, Below wb.heap.size wb y → y.cell? ⟨ob, 0, none⟩ = some (.int .i64 o0) ∧ y.cell? ⟨ob, 1, none⟩ = some (.int .i64 o1)) := fun y hy => by
    rw [hob] at hbn
    have e := (hy.block ob hoblt).trans hbn
    constructor <;> (unfold World.cell?; rw [e]; simp)
  have hbu := hid (built_ok K ad qs cap wb hK1 (by omega) (hq.below bb))
  have hg : Hid (Handle wb) := hid (hg.belowB bb (World.block_lt_of_cell? w _ hg))
  have bb := hid bb
  clear hq hbn
  go_enter Tryd.func8, Tryd.ntmps8
  go_wp2_with fail
  try rw [hK]
  try rw [hwb]
  try rw [hob]
  refine hbu.out.mono ?_
  rintro e w1 ⟨fb, rfl, v, seq, h1⟩
  obtain ⟨f0, f1⟩ := hofs.out w1 h1.below
  obtain ⟨a, ha, haK⟩ := mod_inN o0 K hK1 (by omega)
  have h1 := hid h1
  clear hbu hK hwb hob
  go_wp2_with fail
  try rw [ha]
  refine (h1.out.list a haK).mono ?_
  rintro e w2 ⟨u2, rfl, r2, h2, _⟩
  obtain ⟨X, hX⟩ : ∃ X, a + 1 = X := ⟨_, rfl⟩
  have hX0 : X ≠ 0 := by omega
  have p2 := hid h2.part
  rw [hX] at r2
  obtain ⟨S, hS⟩ : ∃ S, seq X = S := ⟨_, rfl⟩
  rw [hS] at r2
  have hSl : S.length ≤ 8388610 := by rw [← hS]; exact p2.out.len X hX0
  have hSne : S ≠ [] := fun e => by have := p2.out.self X hX0; rw [hS, e] at this; cases this
  have hSp : 1 ≤ S.length := by
    cases S with
    | nil => exact absurd rfl hSne
    | cons _ _ => simp
  obtain ⟨g2, c2, hu2, hx2⟩ := r2.some hSne
  subst hu2
  have hx2 := hid hx2
  have r2 := hid r2
  obtain ⟨sm, hsm⟩ : ∃ sm, wrap64 (sumV v S) = sm := ⟨_, rfl⟩
  have hsu := h2.sum a haK
  rw [hX, hS, hsm] at hsu
  have hsu := hid hsu
  have hSh := hid hS
  have hsmh := hid hsm
  clear h1 f0 f1 h2 hS hsm ha
  go_wp2_with fail
  refine hsu.out.mono ?_
  rintro e w3 ⟨rfl, h3, k3⟩
  have r3 := hid (r2.out.keep k3)
  have tS : ((S.length : Int) == 0) = false := by rw [beq_eq_false_iff_ne]; omega
  have h3 := hid h3
  clear hsu r2 k3
  go_wp2_with fail
  refine (h3.out.reverse a haK).mono ?_
  rintro e w4 ⟨rfl, h4, k4⟩
  rw [hX] at h4
  have r4 := hid (r3.out.keep k4)
  have e4 : Hid (revS seq X X = S.reverse) := hid (by rw [revS_self p2.out hX0, hSh.out])
  obtain ⟨f0, f1⟩ := hofs.out w4 h4.below
  obtain ⟨k, hk, hkS⟩ := mod_inM o1 S.length hSp (by omega)
  have h4 := hid h4
  generalize revS seq X = seq4 at h4 e4
  clear h3 r3 k4
  go_wp2_with fail
  try rw [hk]
  refine (h4.out.list a haK).mono ?_
  rintro e w5 ⟨u5, rfl, r5, h5, k5⟩
  rw [hX, e4.out] at r5
  have hRne : S.reverse ≠ [] := fun e => hSne (by simpa using e)
  obtain ⟨g5, c5, hu5, hx5⟩ := r5.some hRne
  rw [List.length_reverse] at hu5
  subst hu5
  have hx5 := hid hx5
  have r45 := hid (r4.out.keep k5)
  have r5 := hid r5
  have hsu := h5.sum a haK
  rw [hX, e4.out, sumV_rev, hsmh.out] at hsu
  have hsu := hid hsu
  clear h4 r4 k5 f0 f1 h5
  go_wp2_with fail
  refine hsu.out.mono ?_
  rintro e w6 ⟨rfl, h6, k6⟩
  have r46 := hid (r45.out.keep k6)
  have r56 := hid (r5.out.keep k6)
  have h6 := hid h6
  clear hsu r45 r5 k6
  go_wp2_with fail
  refine (h6.out.at a k haK (by rw [hX, e4.out, List.length_reverse]; exact hkS)).mono ?_
  rintro e w7 ⟨d, hd, rfl, h7, k7⟩
  rw [hX, e4.out] at hd
  have r47 := hid (r46.out.keep k7)
  have r57 := hid (r56.out.keep k7)
  obtain ⟨j, hj⟩ : ∃ j, S.length - 1 - k = j := ⟨_, rfl⟩
  have eJ : (S.length : Int) - 1 - (k : Int) = (j : Int) := by omega
  have j1 : (0 : Int) ≤ (j : Int) := by omega
  have j2 : (j : Int) < (S.length : Int) := by omega
  have hSj : S[j]? = some (d + 1) := by
    rw [List.getElem?_reverse hkS, hj] at hd
    exact hd
  have cj := hx2.out w7 r47.out j d hSj
  have h7 := hid h7
  clear h6 r46 r56 k7 hd hSj hj
  go_wp2_with fail
  go_loopw [21] (fun u wr => ∃ p : Nat, p ≤ S.length ∧ u = .int .i64 (p : Int) ∧ Below w7.heap.size w7 wr) (fun u _ => S.length - (intOf u).toNat)
  case atStart => exact ⟨0, by omega, by go_num, Below.refl _ _⟩
  case round =>
    obtain ⟨p, hp, rfl, hbr⟩ := hrel
    rcases Nat.lt_or_ge p S.length with hpl | hpg
    · obtain ⟨d1, hd1⟩ : ∃ d1, S.reverse[p]? = some d1 := ⟨_, List.getElem?_eq_getElem (by simpa using hpl)⟩
      obtain ⟨i, hi⟩ : ∃ i, S.length - 1 - p = i := ⟨_, rfl⟩
      have hSi : S[i]? = some d1 := by rw [List.getElem?_reverse hpl, hi] at hd1; exact hd1
      have hd1n : d1 ≠ 0 := (p2.out.mem X d1 hX0 (by rw [hSh.out]; exact List.mem_of_getElem? hSi)).2
      obtain ⟨e1, rfl⟩ : ∃ e1, d1 = e1 + 1 := ⟨d1 - 1, by omega⟩
      have ca := hx5.out wr (r57.out.below hbr) p e1 hd1
      have cb := hx2.out wr (r47.out.below hbr) i e1 hSi
      have eI : (S.length : Int) - 1 - (p : Int) = (i : Int) := by omega
      have i1 : (0 : Int) ≤ (i : Int) := by omega
      have i2 : (i : Int) < (S.length : Int) := by omega
      have i3 : (0 : Int) ≤ (p : Int) := by omega
      have i4 : (p : Int) < (S.length : Int) := by omega
      clear hd1 hSi hi cj eJ
      go_wp2_with fail
      go_region
      all_goals
        go_wp2_with fail
        go_roundw
        case rel => exact ⟨p + 1, by omega, by go_num, hbr.drew⟩
        case measure => simp [intOf]; omega
    · have h8 := hid (h7.out.more hbr)
      clear cj eJ
      go_wp2_with fail
      refine (sure_ok _ (h8.out.handle hg.out rfl)).mono ?_
      rintro e w9 ⟨rfl, b9⟩
      have h9 := hid (h8.out.more b9)
      clear b9
      go_wp2_with fail
      go_ret
      exact ⟨rfl, bb.out.trans (h9.out.below.mono bb.out.size)⟩

end Go.Proofs.YtcbkebllbchpiaaDoor
