/- 'CutCuts', walked. -/
import Derived.Test.YtbdcddkiioehcabDoorCuts6
namespace Go.Proofs.YtbdcddkiioehcabDoor
open Go.RowKit
set_option linter.unusedVariables false

set_option maxRecDepth 100000 in
set_option maxHeartbeats 8000000 in
theorem cuts_law (n : Int) (ad : Option Addr) (qs : List Act4) (cap : Nat) (o0 o1 o2 : Int) (w : World) (hg : Handle w) (hq : Acts w ad qs) :
    Calls Tryd.prog 3 #[.int .i64 n, .slice ad qs.length cap, .agg #[.int .i64 o0, .int .i64 o1, .int .i64 o2]] w fun e w' => e = .returned (.bool true) ∧ Below w.heap.size w w' := by
  obtain ⟨K, hK, hK1, hK2⟩ := mod_up n 30 (by decide) (by decide)
  have hK30 : K ≤ 30 := by omega
  have hql := hq.bound
  obtain ⟨wb, hwb⟩ : ∃ wb, w.alloc (.cells #[.int .i64 o0, .int .i64 o1, .int .i64 o2] 23) = wb := ⟨_, rfl⟩
  have bb : Below w.heap.size w wb := by rw [← hwb]; exact (Below.refl _ _).alloc (Nat.le_refl _) _
  have hbn : wb.heap[w.heap.size]? = some (.cells #[.int .i64 o0, .int .i64 o1, .int .i64 o2] 23 (0, 0)) := by rw [← hwb]; exact heap_alloc_new w _
  obtain ⟨ob, hob⟩ : ∃ ob, w.heap.size = ob := ⟨_, rfl⟩
  have hoblt : ob < wb.heap.size := by rw [hob] at hbn; exact (Array.getElem?_eq_some_iff.1 hbn).1
  have hofs : Hid (∀ y, Below wb.heap.size wb y → y.cell? ⟨ob, 0, none⟩ = some (.int .i64 o0) ∧ y.cell? ⟨ob, 1, none⟩ = some (.int .i64 o1) ∧ y.cell? ⟨ob, 2, none⟩ = some (.int .i64 o2)) := fun y hy => by
    rw [hob] at hbn
    have e := (hy.block ob hoblt).trans hbn
    refine ⟨?_, ?_, ?_⟩ <;> (unfold World.cell?; rw [e]; simp)
  have hbu := hid (grown_ok K ad qs cap wb hK1 (by omega) (hq.below bb))
  have hg : Hid (Handle wb) := hid (hg.belowB bb (World.block_lt_of_cell? w _ hg))
  have bb := hid bb
  clear hq hbn
  go_enter Tryd.func3, Tryd.ntmps3
  go_wp2_with fail
  try rw [hK]
  try rw [hwb]
  try rw [hob]
  refine hbu.out.mono ?_
  rintro e w1 ⟨fb, vb, rfl, v, adj, hrg, h1, hvb⟩
  obtain ⟨f0, f1, f2⟩ := hofs.out w1 h1.below
  obtain ⟨a, ha, haK⟩ := mod_inN o0 K hK1 (by omega)
  obtain ⟨b, hb, hbK⟩ := mod_inN o1 K hK1 (by omega)
  have h1 := hid h1
  clear hbu hK hwb hob hrg hvb
  go_wp2_with fail
  go_region
  rw [ha, hb]
  have h1 := hid h1.out.drew
  generalize w1.drew = w1 at h1 ⊢
  clear f0 f1 f2 ha hb
  have hw := hid h1.out.wood
  by_cases hab : ∃ l, Rd adj (a + 1) (b + 1) l
  · obtain ⟨l, hab⟩ := hab
    have hfew := h1.out.few hab haK
    have hin := hid (h1.out.road_le hab haK)
    obtain ⟨z1, z2, z3⟩ := hab.wk.last_at
    obtain ⟨M, hM⟩ : ∃ M, l.length = M := ⟨_, rfl⟩
    rw [hM] at hfew z3
    have hM := hid hM
    have hab := hid hab
    clear z1 z2
    go_wp2_with fail
    refine (h1.out.listY a b haK hbK l hab.out).mono ?_
    rintro e w2 ⟨u1, rfl, ⟨g1, hu1, r1⟩, h2, k2⟩
    rw [hM.out] at hu1
    subst hu1
    have r2 : Hid (RB w2 g1 l) := hid r1
    have h2 := hid h2
    clear h1 r1 k2
    by_cases hM2 : M < 2
    · have tM : decide ((M : Int) < 2) = true := decide_eq_true (by omega)
      go_wp2_with fail
      refine (sure_ok _ (h2.out.handle hg.out rfl)).mono ?_
      rintro e w9 ⟨rfl, b9⟩
      have h9 := hid (h2.out.more b9)
      clear b9
      go_wp2_with fail
      go_ret
      exact ⟨rfl, bb.out.trans (h9.out.below.mono bb.out.size)⟩
    · have tM : decide ((M : Int) < 2) = false := decide_eq_false (by omega)
      obtain ⟨D, hD⟩ : ∃ D, M = D + 1 := ⟨M - 1, by omega⟩
      obtain ⟨t, ht, htD⟩ := mod_inM o2 D (by omega) (by omega)
      obtain ⟨p, hp⟩ : ∃ p, l[t]? = some p := ⟨_, List.getElem?_eq_getElem (by rw [hM.out]; omega)⟩
      obtain ⟨q, hq⟩ : ∃ q, l[t + 1]? = some q := ⟨_, List.getElem?_eq_getElem (by rw [hM.out]; omega)⟩
      obtain ⟨hp0, hpK⟩ := hin.out p (List.mem_of_getElem? hp)
      obtain ⟨hq0, hqK⟩ := hin.out q (List.mem_of_getElem? hq)
      obtain ⟨p, rfl⟩ : ∃ d, p = d + 1 := ⟨p - 1, by omega⟩
      obtain ⟨q, rfl⟩ : ∃ d, q = d + 1 := ⟨q - 1, by omega⟩
      have hpq := hid (hw.out.symm (hab.out.wk.at t (p + 1) (q + 1) hp hq))
      have f2 := (hofs.out w2 h2.out.below).2.2
      have eD : IntKind.u64.wrap (wrap64 ((M : Int) - 1)) = (D : Int) := by rw [IntKind.wrap_u64]; unfold wrap64; omega
      have eD2 : IntKind.u64.wrap ((M : Int) - 1) = (D : Int) := by rw [IntKind.wrap_u64]; omega
      have nD : ¬ D = 0 := by omega
      have nD' : ¬ (D : Int) = 0 := by omega
      have tMn : ¬ M < 2 := hM2
      obtain ⟨T1, hT1⟩ : ∃ T1, t + 1 = T1 := ⟨_, rfl⟩
      have c1 := r2.out.cell hp
      have c2 := r2.out.cell hq
      rw [hT1] at c2
      have i1 : (0 : Int) ≤ (t : Int) := by omega
      have i2 : (t : Int) < (M : Int) := by omega
      have i3 : (0 : Int) ≤ (T1 : Int) := by omega
      have i4 : (T1 : Int) < (M : Int) := by omega
      have i5 : IntKind.i64.wrap ((t : Int) + 1) = (T1 : Int) := by rw [IntKind.wrap_i64]; omega
      have i7 : (t : Int) + 1 = (T1 : Int) := by omega
      have hpK' : p < K := by omega
      have hqK' : q < K := by omega
      have hct : Hid (∀ y, FS wb.heap.size wb fb K v adj y → Calls Tryd.prog 8 #[.pointer (some ⟨fb, 0, none⟩), .int .i64 (q : Int), .int .i64 (p : Int)] y fun e w' => e = .returned .nilIface ∧ FS wb.heap.size wb fb K v (delE adj (q + 1) (p + 1)) w' ∧ Keep y w') := hid (fun y hy => hy.cut q p hqK' hpK' hpq.out)
      have htD' : t + 1 < M := by omega
      replace hD := hid hD
      have hp := hid hp
      have hq := hid hq
      have hT1h := hid hT1
      clear hp0 hpK hq0 hqK hT1
      go_wp2_with fail
      try rw [ht]
      have h2d := hid h2.out.drew
      have r2d : Hid (RB w2.drew g1 l) := hid r2.out
      clear i7 ht f2 eD eD2 nD nD'
      go_region_held3 (fun w' => w'.cell? ⟨g1, t, none⟩ = some (.int .i64 (p : Int)) ∧ w'.cell? ⟨g1, T1, none⟩ = some (.int .i64 (q : Int))) (first | exact ⟨c1', c2'⟩ | exact ⟨c1, c2⟩ | go_keep) ((go_at_call 8; refine (hct.out _ h2d.out).mono ?_; rintro e w3 ⟨rfl, h3, k3⟩; have r3 := hid (r2d.out.keep k3); have c1' := r3.out.cell hp.out; have c2' := r3.out.cell hq.out; rw [hT1h.out] at c2'; have h3 := hid h3; clear k3))
      have hside := hid (cut_sides hw.out hab.out hp.out hq.out h3.out.wood)
      have hno : Hid (¬ delE adj (q + 1) (p + 1) (p + 1) (q + 1)) := hid (fun e => e.2.2 ⟨rfl, rfl⟩)
      generalize delE adj (q + 1) (p + 1) = adj3 at h3 hside hno
      clear c1 c2 c1' c2' h2 r2 h2d r2d hct
      have st3 : Hid (FS wb.heap.size wb fb K v adj3 w3 ∧ RB w3 g1 l) := ⟨h3.out, r3.out⟩
      clear h3 r3
      go_wp2_with fail
      go_loopw [15, 16, 17, 18, 19] (fun u _ _ _ _ wy => ∃ j : Nat, j ≤ M ∧ u = .int .i64 (j : Int) ∧ Hid (FS wb.heap.size wb fb K v adj3 wy ∧ RB wy g1 l)) (fun u _ _ _ _ _ => M - (intOf u).toNat)
      case atStart => exact ⟨0, by omega, by go_num, st3⟩
      case round =>
        clear st3
        obtain ⟨j, hj, rfl, hst⟩ := hrel
        obtain ⟨h4, r4⟩ := hst.out
        by_cases hjM : j < M
        · obtain ⟨z, hz⟩ : ∃ z, l[j]? = some z := ⟨_, List.getElem?_eq_getElem (by rw [hM.out]; exact hjM)⟩
          obtain ⟨hz0, hzK⟩ := hin.out z (List.mem_of_getElem? hz)
          obtain ⟨d, rfl⟩ : ∃ d, z = d + 1 := ⟨z - 1, by omega⟩
          obtain ⟨sd1, sd2⟩ := hside.out j (d + 1) hz
          have c1 := r4.cell hz
          have j1 : (0 : Int) ≤ (j : Int) := by omega
          have j2 : (j : Int) < (M : Int) := by omega
          have hdK : d < K := by omega
          have h4 := hid h4
          have r4 := hid r4
          have hz := hid hz
          clear hst hz0 hzK
          by_cases hjt : j ≤ t
          · have tj : decide ((j : Int) ≤ (t : Int)) = true := decide_eq_true (by omega)
            have tj2 : decide (j ≤ t) = true := decide_eq_true hjt
            obtain ⟨⟨m1, hm1⟩, hm2⟩ := sd1 hjt
            have hm1 := hid hm1
            have hm2 := hid hm2
            clear sd1 sd2
            go_wp2_with fail
            refine (h4.out.sameY a d haK hdK m1 hm1.out).mono ?_
            rintro e w5 ⟨rfl, h5, k5⟩
            have r5 := hid (r4.out.keep k5)
            have c5 := r5.out.cell hz.out
            have h5 := hid h5
            clear h4 r4 k5 c1
            go_wp2_with fail
            refine (h5.out.sameN b d hbK hdK hm2.out).mono ?_
            rintro e w6 ⟨rfl, h6, k6⟩
            have st7 : Hid (FS wb.heap.size wb fb K v adj3 w6 ∧ RB w6 g1 l) := ⟨h6, r5.out.keep k6⟩
            clear h5 r5 k6 c5 h6
            go_wp2_with fail
            go_roundw
            case rel => exact ⟨j + 1, by omega, by go_num, st7⟩
            case measure => simp [intOf]; omega
          · have tj : decide ((j : Int) ≤ (t : Int)) = false := decide_eq_false (by omega)
            have tj2 : decide (j ≤ t) = false := decide_eq_false hjt
            obtain ⟨hm1, m2, hm2⟩ := sd2 (by omega)
            have hm1 := hid hm1
            have hm2 := hid hm2
            clear sd1 sd2
            go_wp2_with fail
            refine (h4.out.sameN a d haK hdK hm1.out).mono ?_
            rintro e w5 ⟨rfl, h5, k5⟩
            have r5 := hid (r4.out.keep k5)
            have c5 := r5.out.cell hz.out
            have h5 := hid h5
            clear h4 r4 k5 c1
            go_wp2_with fail
            refine (h5.out.sameY b d hbK hdK m2 hm2.out).mono ?_
            rintro e w6 ⟨rfl, h6, k6⟩
            have st7 : Hid (FS wb.heap.size wb fb K v adj3 w6 ∧ RB w6 g1 l) := ⟨h6, r5.out.keep k6⟩
            clear h5 r5 k6 c5 h6
            go_wp2_with fail
            go_roundw
            case rel => exact ⟨j + 1, by omega, by go_num, st7⟩
            case measure => simp [intOf]; omega
        · obtain rfl : M = j := by omega
          have h4 := hid h4
          have c1 := r4.cell hp.out
          have c2 := r4.cell hq.out
          rw [hT1h.out] at c2
          have r4 := hid r4
          have hct : Hid (∀ y, FS wb.heap.size wb fb K v adj3 y → Calls Tryd.prog 8 #[.pointer (some ⟨fb, 0, none⟩), .int .i64 (p : Int), .int .i64 (q : Int)] y fun e w' => e = .returned (.iface 51 (.int .i64 21)) ∧ FS wb.heap.size wb fb K v adj3 w' ∧ Keep y w') := hid (fun y hy => hy.cutN p q hpK' hqK' hno.out)
          have h4d := hid h4.out.drew
          have r4d : Hid (RB wr.drew g1 l) := hid r4.out
          clear hst h4
          go_wp2_with fail
          go_region_held3 (fun w' => w'.cell? ⟨g1, t, none⟩ = some (.int .i64 (p : Int)) ∧ w'.cell? ⟨g1, T1, none⟩ = some (.int .i64 (q : Int))) (first | exact ⟨c7a, c7b⟩ | exact ⟨c6a, c6b⟩ | exact ⟨c5a, c5b⟩ | exact ⟨c1, c2⟩ | go_keep) ((first | (go_at_call 8; refine (hct.out _ h4d.out).mono ?_; rintro e w5 ⟨rfl, h5, k5⟩; have r5 := hid (r4d.out.keep k5); have c5a := r5.out.cell hp.out; have c5b := r5.out.cell hq.out; rw [hT1h.out] at c5b; have h5 := hid h5; have hnm := hid (num_err 21 _ (h5.out.handle hg.out rfl)); clear k5) | (go_at_call 6; refine hnm.out.mono ?_; rintro e w6 ⟨rfl, b6⟩; have r6 := hid (r5.out.more b6); have c6a := r6.out.cell hp.out; have c6b := r6.out.cell hq.out; rw [hT1h.out] at c6b; have h6 := hid (h5.out.more b6); have hsu := hid (sure_ok _ (h6.out.handle hg.out rfl)); clear b6) | (go_at_call 7; refine hsu.out.mono ?_; rintro e w7 ⟨rfl, b7⟩; have r7 := hid (r6.out.more b7); have c7a := r7.out.cell hp.out; have c7b := r7.out.cell hq.out; rw [hT1h.out] at c7b; have h7 := hid (h6.out.more b7); clear b7)))
          go_wp2_with fail
          go_ret
          exact ⟨rfl, bb.out.trans (h7.out.below.mono bb.out.size)⟩
  · have hab : Hid (∀ l, ¬ Rd adj (a + 1) (b + 1) l) := hid (fun l e => hab ⟨l, e⟩)
    go_wp2_with fail
    refine (h1.out.listN a b haK hbK hab.out).mono ?_
    rintro e w2 ⟨rfl, h2, _⟩
    have h2 := hid h2
    clear h1
    go_wp2_with fail
    refine (num_err 21 _ (h2.out.handle hg.out rfl)).mono ?_
    rintro e w4 ⟨rfl, b4⟩
    have h4 := hid (h2.out.more b4)
    clear h2 b4
    go_wp2_with fail
    refine (sure_ok _ (h4.out.handle hg.out rfl)).mono ?_
    rintro e w5 ⟨rfl, b5⟩
    have h5 := hid (h4.out.more b5)
    clear h4 b5
    go_wp2_with fail
    go_ret
    exact ⟨rfl, bb.out.trans (h5.out.below.mono bb.out.size)⟩

end Go.Proofs.YtbdcddkiioehcabDoor
