/- 'CutSums', walked. -/
import Derived.Test.YtbdcddkiioehcaaDoorRfind4
import Derived.Test.YtbdcddkiioehcaaDoorGrown6
namespace Go.Proofs.YtbdcddkiioehcaaDoor
open Go.RowKit
set_option linter.unusedVariables false

theorem first_one {v : Nat → Int} {W : Int} : ∀ {A A' B B' : List Nat} {p q : Nat}, A ++ p :: B = A' ++ q :: B' → v p = W → v q = W → (∀ z, z ∈ A → v z ≠ W) → (∀ z, z ∈ A' → v z ≠ W) → p = q
  | [], [], _, _, _, _, h, _, _, _, _ => by simp at h; exact h.1
  | [], a :: A', _, _, p, _, h, hp, _, _, hA => by simp at h; exact absurd hp (h.1 ▸ hA a List.mem_cons_self)
  | a :: A, [], _, _, _, q, h, _, hq, hA, _ => by simp at h; exact absurd hq (h.1 ▸ hA a List.mem_cons_self)
  | a :: A, a' :: A', _, _, _, _, h, hp, hq, hA, hA' => by
    simp at h
    exact first_one h.2 hp hq (fun z hz => hA z (List.mem_cons_of_mem _ hz)) (fun z hz => hA' z (List.mem_cons_of_mem _ hz))

theorem least_one {v : Nat → Int} {l : List Nat} (hr : In64 v l) {d e : Nat} (h : ∃ A B, l = A ++ (d + 1) :: B ∧ v (d + 1) = lowV v l ∧ ∀ z, z ∈ A → v z ≠ lowV v l) (k : Fst v l (e + 1)) : d = e := by
  obtain ⟨A, B, h1, h2, h3⟩ := h
  obtain ⟨A', B', k1, k2, k3⟩ := k
  have hm : e + 1 ∈ l := by rw [k1]; simp
  obtain ⟨z, hz, hzv⟩ := lowV_att v l (by rw [k1]; simp) hr
  have hle : v (e + 1) ≤ v z := by
    rw [k1] at hz
    rcases List.mem_append.1 hz with hz | hz
    · have := k2 z hz; omega
    · rcases List.mem_cons.1 hz with rfl | hz
      · omega
      · exact k3 z hz
  have hge := lowV_mem v l (e + 1) hm
  have he : v (e + 1) = lowV v l := by omega
  have := first_one (h1.symm.trans k1) h2 he h3 (fun z hz => by have := k2 z hz; omega)
  omega

theorem most_one {v : Nat → Int} {l : List Nat} (hr : In64 v l) {d e : Nat} (h : ∃ A B, l = A ++ (d + 1) :: B ∧ v (d + 1) = highV v l ∧ ∀ z, z ∈ A → v z ≠ highV v l) (k : Fst (fun z => -(v z)) l (e + 1)) : d = e := by
  obtain ⟨A, B, h1, h2, h3⟩ := h
  obtain ⟨A', B', k1, k2, k3⟩ := k
  have hm : e + 1 ∈ l := by rw [k1]; simp
  obtain ⟨z, hz, hzv⟩ := highV_att v l (by rw [k1]; simp) hr
  have hle : v z ≤ v (e + 1) := by
    rw [k1] at hz
    rcases List.mem_append.1 hz with hz | hz
    · have : -(v (e + 1)) < -(v z) := k2 z hz
      omega
    · rcases List.mem_cons.1 hz with rfl | hz
      · omega
      · have : -(v (e + 1)) ≤ -(v z) := k3 z hz
        omega
  have hge := highV_mem v l (e + 1) hm
  have he : v (e + 1) = highV v l := by omega
  have := first_one (h1.symm.trans k1) h2 he h3 (fun z hz => by have : -(v (e + 1)) < -(v z) := k2 z hz; omega)
  omega

theorem RB.ir {w : World} {g : Nat} {l : List Nat} (h : RB w g l) : Ir w g 0 l := fun j d hd => by rw [Nat.zero_add]; exact h.cell hd
theorem VB.vr {w : World} {b K : Nat} {v : Nat → Int} (h : VB w b K v) : Vr w b K v := fun d hd => h.cell d hd

set_option maxRecDepth 100000 in
set_option maxHeartbeats 8000000 in
theorem sums_law (n : Int) (ad : Option Addr) (qs : List Act4) (cap : Nat) (o0 o1 : Int) (w : World) (hg : Handle w) (hq : Acts w ad qs) :
    Calls Tryd.prog 7 #[.int .i64 n, .slice ad qs.length cap, .agg #[.int .i64 o0, .int .i64 o1]] w fun e w' => e = .returned (.bool true) ∧ Below w.heap.size w w' := by
  obtain ⟨K, hK, hK1, hK2⟩ := mod_up n 30 (by decide) (by decide)
  have hK30 : K ≤ 30 := by omega
  have hql := hq.bound
  obtain ⟨wb, hwb⟩ : ∃ wb, w.alloc (.cells #[.int .i64 o0, .int .i64 o1] 42) = wb := ⟨_, rfl⟩
  have bb : Below w.heap.size w wb := by rw [← hwb]; exact (Below.refl _ _).alloc (Nat.le_refl _) _
  have hbn : wb.heap[w.heap.size]? = some (.cells #[.int .i64 o0, .int .i64 o1] 42 (0, 0)) := by rw [← hwb]; exact heap_alloc_new w _
  obtain ⟨ob, hob⟩ : ∃ ob, w.heap.size = ob := ⟨_, rfl⟩
  have hoblt : ob < wb.heap.size := by rw [hob] at hbn; exact (Array.getElem?_eq_some_iff.1 hbn).1
  have hofs : Hid (∀ y, Below wb.heap.size wb y → y.cell? ⟨ob, 0, none⟩ = some (.int .i64 o0) ∧ y.cell? ⟨ob, 1, none⟩ = some (.int .i64 o1)) := fun y hy => by
    rw [hob] at hbn
    have e := (hy.block ob hoblt).trans hbn
    constructor <;> (unfold World.cell?; rw [e]; simp)
  have hbu := hid (grown_ok K ad qs cap wb hK1 (by omega) (hq.below bb))
  have hg : Hid (Handle wb) := hid (hg.belowB bb (World.block_lt_of_cell? w _ hg))
  have bb := hid bb
  clear hq hbn
  go_enter Tryd.func7, Tryd.ntmps7
  go_wp2_with fail
  try rw [hK]
  try rw [hwb]
  try rw [hob]
  refine hbu.out.mono ?_
  rintro e w1 ⟨fb, vb, rfl, v, adj, hrg, h1, hvb⟩
  obtain ⟨f0, f1⟩ := hofs.out w1 h1.below
  obtain ⟨a, ha, haK⟩ := mod_inN o0 K hK1 (by omega)
  obtain ⟨b, hb, hbK⟩ := mod_inN o1 K hK1 (by omega)
  have h1 := hid h1
  have hvb := hid hvb
  have hrg := hid hrg
  clear hbu hK hwb hob
  go_wp2_with fail
  go_region
  rw [ha, hb]
  have h1 := hid h1.out.drew
  have vb1 : Hid (VB w1.drew vb K v) := hid hvb.out
  generalize w1.drew = w1 at h1 vb1 ⊢
  clear f0 f1 ha hb hvb
  by_cases hab : ∃ l, Rd adj (a + 1) (b + 1) l
  · obtain ⟨l, hab⟩ := hab
    have hfew := h1.out.few hab haK
    have hin := hid (h1.out.road_le hab haK)
    have hne := hid hab.wk.last.1
    obtain ⟨z1, z2, z3⟩ := hab.wk.last_at
    obtain ⟨M, hM⟩ : ∃ M, l.length = M := ⟨_, rfl⟩
    obtain ⟨sm, hsm⟩ : ∃ sm, wrap64 (sumV v l) = sm := ⟨_, rfl⟩
    have hr64 := hid (hrg.out.in64 l)
    rw [hM] at hfew z3
    have tM : decide ((0 : Int) < (M : Int)) = true := decide_eq_true (by omega)
    have tM2 : decide (0 < M) = true := decide_eq_true (by omega)
    have hM := hid hM
    have hsm := hid hsm
    have hab := hid hab
    clear z1 z2 z3
    go_wp2_with fail
    refine (h1.out.listY a b haK hbK l hab.out).mono ?_
    rintro e w2 ⟨u1, rfl, ⟨g1, hu1, r1⟩, h2, k2⟩
    rw [hM.out] at hu1
    subst hu1
    have r2 : Hid (RB w2 g1 l) := hid r1
    have vb2 := hid (vb1.out.keep k2)
    have h2 := hid h2
    clear h1 r1 vb1 k2
    go_wp2_with fail
    refine (h2.out.sameY a b haK hbK l hab.out).mono ?_
    rintro e w3 ⟨rfl, h3, k3⟩
    have r3 := hid (r2.out.keep k3)
    have vb3 := hid (vb2.out.keep k3)
    have h3 := hid h3
    clear h2 r2 vb2 k3
    go_wp2_with fail
    refine (h3.out.lenY a b haK hbK l hab.out).mono ?_
    rintro e w4 ⟨rfl, h4, k4⟩
    rw [hM.out]
    have r4 := hid (r3.out.keep k4)
    have vb4 := hid (vb3.out.keep k4)
    have h4 := hid h4
    clear h3 r3 vb3 k4
    go_wp2_with fail
    refine (h4.out.sumY a b haK hbK l hab.out).mono ?_
    rintro e w5 ⟨rfl, h5, k5⟩
    rw [hsm.out]
    have r5 := hid (r4.out.keep k5)
    have vb5 := hid (vb4.out.keep k5)
    have h5 := hid h5
    clear h4 r4 vb4 k5
    go_wp2_with fail
    refine (h5.out.leastY a b haK hbK l hab.out hr64.out).mono ?_
    rintro e w6 ⟨d1, hd1, rfl, h6, k6⟩
    have r6 := hid (r5.out.keep k6)
    have vb6 := hid (vb5.out.keep k6)
    have h6 := hid h6
    have hd1 := hid hd1
    clear h5 r5 vb5 k6
    go_wp2_with fail
    refine (h6.out.mostY a b haK hbK l hab.out hr64.out).mono ?_
    rintro e w7 ⟨d2, hd2, rfl, h7, k7⟩
    have r7 := hid (r6.out.keep k7)
    have vb7 := hid (vb6.out.keep k7)
    have h7 := hid h7
    have hd2 := hid hd2
    clear h6 r6 vb6 k7
    have hs1 := rsum_ok g1 0 M vb K l v w7 r7.out.ir vb7.out.vr (by omega) hin.out (by rw [hM.out]; omega)
    rw [hM.out, hsm.out] at hs1
    have hs1 := hid hs1
    go_wp2_with fail
    refine hs1.out.mono ?_
    rintro e w8 ⟨rfl, rfl⟩
    have hs2 := rleast_ok g1 0 M vb K l v w7 r7.out.ir vb7.out.vr (by omega) hin.out (by rw [hM.out]; omega) hne.out
    rw [hM.out] at hs2
    have hs2 := hid hs2
    clear hs1
    go_wp2_with fail
    refine hs2.out.mono ?_
    rintro e w8 ⟨e1, rfl, hf1, b8⟩
    obtain rfl : d1 = e1 := least_one hr64.out hd1.out hf1
    have r8 := hid (r7.out.more b8)
    have vb8 := hid (vb7.out.more b8)
    have h8 := hid (h7.out.more b8)
    have hs3 := rmost_ok g1 0 M vb K l v w8 r8.out.ir vb8.out.vr (by omega) hin.out (by rw [hM.out]; omega) hne.out
    rw [hM.out] at hs3
    have hs3 := hid hs3
    clear hs2 h7 r7 vb7 b8 hf1
    go_wp2_with fail
    refine hs3.out.mono ?_
    rintro e w9 ⟨e2, rfl, hf2, b9⟩
    obtain rfl : d2 = e2 := most_one hr64.out hd2.out hf2
    have h9 := hid (h8.out.more b9)
    clear hs3 h8 r8 vb8 b9 hf2
    go_wp2_with fail
    refine (sure_ok _ (h9.out.handle hg.out rfl)).mono ?_
    rintro e w10 ⟨rfl, b10⟩
    have h10 := hid (h9.out.more b10)
    clear b10 h9
    go_wp2_with fail
    go_ret
    exact ⟨rfl, bb.out.trans (h10.out.below.mono bb.out.size)⟩
  · have hab : Hid (∀ l, ¬ Rd adj (a + 1) (b + 1) l) := hid (fun l e => hab ⟨l, e⟩)
    go_wp2_with fail
    refine (h1.out.listN a b haK hbK hab.out).mono ?_
    rintro e w2 ⟨rfl, h2, _⟩
    have h2 := hid h2
    clear h1
    go_wp2_with fail
    refine (h2.out.sameN a b haK hbK hab.out).mono ?_
    rintro e w3 ⟨rfl, h3, _⟩
    have h3 := hid h3
    clear h2
    go_wp2_with fail
    refine (num_err 21 _ (h3.out.handle hg.out rfl)).mono ?_
    rintro e w4 ⟨rfl, b4⟩
    have h4 := hid (h3.out.more b4)
    clear h3 b4
    go_wp2_with fail
    refine (sure_ok _ (h4.out.handle hg.out rfl)).mono ?_
    rintro e w5 ⟨rfl, b5⟩
    have h5 := hid (h4.out.more b5)
    clear h4 b5
    go_wp2_with fail
    go_ret
    exact ⟨rfl, bb.out.trans (h5.out.below.mono bb.out.size)⟩

end Go.Proofs.YtbdcddkiioehcaaDoor
