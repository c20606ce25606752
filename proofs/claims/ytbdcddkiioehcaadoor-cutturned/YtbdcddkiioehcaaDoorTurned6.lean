/- 'CutTurned', walked. -/
import Derived.Test.YtbdcddkiioehcaaDoorRows6
import Derived.Test.YtbdcddkiioehcaaDoorLinks6
namespace Go.Proofs.YtbdcddkiioehcaaDoor
open Go.RowKit
set_option linter.unusedVariables false

set_option maxRecDepth 100000 in
set_option maxHeartbeats 8000000 in
theorem turned_law (n : Int) (ad : Option Addr) (qs : List Act4) (cap : Nat) (o0 o1 : Int) (w : World) (hg : Handle w) (hq : Acts w ad qs) :
    Calls Tryd.prog 5 #[.int .i64 n, .slice ad qs.length cap, .agg #[.int .i64 o0, .int .i64 o1]] w fun e w' => e = .returned (.bool true) ∧ Below w.heap.size w w' := by
  obtain ⟨K, hK, hK1, hK2⟩ := mod_up n 40 (by decide) (by decide)
  have hK40 : K ≤ 40 := by omega
  have hql := hq.bound
  obtain ⟨wb, hwb⟩ : ∃ wb, w.alloc (.cells #[.int .i64 o0, .int .i64 o1] 42) = wb := ⟨_, rfl⟩
  have bb : Below w.heap.size w wb := by rw [← hwb]; exact (Below.refl _ _).alloc (Nat.le_refl _) _
  have hbn : wb.heap[w.heap.size]? = some (.cells #[.int .i64 o0, .int .i64 o1] 42 (0, 0)) := by rw [← hwb]; exact heap_alloc_new w _
  obtain ⟨ob, hob⟩ : ∃ ob, w.heap.size = ob := ⟨_, rfl⟩
  have hoblt : ob < wb.heap.size := by rw [hob] at hbn; exact (Array.getElem?_eq_some_iff.1 hbn).1
  have hofs : Hid (∀ y, Below wb.heap.size wb y → y.cell? ⟨ob, 0, none⟩ = some (.int .i64 o0) ∧ y.cell? ⟨ob, 1, none⟩ = some (.int .i64 o1)) := fun y hy => by
    rw [hob] at hbn
    have e := (hy.block ob hoblt).trans hbn
    constructor <;> (unfold World.cell?; rw [e]; simp)
  have hq : Hid (Acts wb ad qs) := hid (hq.below bb)
  have hg : Hid (Handle wb) := hid (hg.belowB bb (World.block_lt_of_cell? w _ hg))
  have bb := hid bb
  clear hbn
  go_enter Tryd.func5, Tryd.ntmps5
  go_wp2_with fail
  try rw [hK]
  try rw [hwb]
  try rw [hob]
  refine (new_ok K wb (by omega) (by omega)).mono ?_
  rintro e w1 ⟨fb, rfl, h1⟩
  have st1 : Hid (∃ v adj, FS wb.heap.size wb fb K v adj w1) := ⟨_, _, h1⟩
  clear h1 hK hwb hob
  go_wp2_with fail
  go_loopw [10, 11, 12] (fun u _ _ wr => ∃ t : Nat, t ≤ qs.length ∧ t ≤ 120 ∧ u = .int .i64 (t : Int) ∧ Hid (∃ v adj, FS wb.heap.size wb fb K v adj wr)) (fun u _ _ _ => 120 - (intOf u).toNat)
  case atStart => exact ⟨0, by omega, by omega, by go_num, st1⟩
  case round =>
    clear st1
    obtain ⟨t, ht1, ht2, rfl, hst⟩ := hrel
    by_cases hgo : t < qs.length ∧ t < 120
    · obtain ⟨hgo1, hgo2⟩ := hgo
      obtain ⟨q, hqt⟩ : ∃ q, qs[t]? = some q := ⟨_, List.getElem?_eq_getElem hgo1⟩
      obtain ⟨v, adj, h1⟩ := hst.out
      cases ad with
      | none => have := hq.out.nil rfl; subst this; simp at hgo1
      | some a0 =>
        obtain ⟨c0, c1, c2, c3⟩ := (hq.out.below h1.below).at hqt
        have h1 := hid h1
        obtain ⟨a, ha, haK⟩ := mod_inN q.a K hK1 (by omega)
        obtain ⟨b, hb, hbK⟩ := mod_inN q.b K hK1 (by omega)
        obtain ⟨κ, hκ⟩ : ∃ κ, q.k.tmod 5 = κ := ⟨_, rfl⟩
        have i1 : (0 : Int) ≤ (t : Int) := by omega
        have i2 : (t : Int) < (qs.length : Int) := by omega
        have hqt := hid hqt
        clear hst
        go_wp2_with fail
        go_region
        rw [ha, hb]
        have h2 := hid (h1.out.drew)
        generalize hwd : wr.drew = w2 at h2 ⊢
        have d0 : w2.cell? (a0.add (t * 4)) = some (.int .i64 q.k) := by rw [← hwd]; exact c0
        clear h1 c0 c1 c2 c3 ha hb hwd
        by_cases k0 : κ = 0
        · have k0' : (κ == 0) = true := by rw [k0]; rfl
          clear k0
          go_wp2_with fail
          refine (h2.out.cutAny a b haK hbK).mono ?_
          rintro e w3 ⟨r3, rfl, ⟨adj3, h3⟩, kp⟩
          have st4 : Hid (∃ v adj, FS wb.heap.size wb fb K v adj w3) := ⟨_, _, h3⟩
          clear h2 h3 d0 hκ kp
          go_wp2_with fail
          go_roundw
          case rel => exact ⟨t + 1, by omega, by omega, by go_num, st4⟩
          case measure => simp [intOf]; omega
        · have k0' : (κ == 0) = false := by rw [beq_eq_false_iff_ne]; exact k0
          clear k0
          go_wp2_with fail
          refine (h2.out.linkAny a b haK hbK).mono ?_
          rintro e w3 ⟨r3, rfl, ⟨adj3, h3⟩, kp⟩
          have e3 := ((hq.out.below h3.below).at hqt.out).2.2.2
          have h3 := hid h3
          clear h2 d0 hκ kp
          go_wp2_with fail
          refine (h3.out.set a haK q.v).mono ?_
          rintro e w4 ⟨rfl, h4, kp⟩
          have st4 : Hid (∃ v adj, FS wb.heap.size wb fb K v adj w4) := ⟨_, _, h4⟩
          clear h3 h4 e3 kp
          go_wp2_with fail
          go_roundw
          case rel => exact ⟨t + 1, by omega, by omega, by go_num, st4⟩
          case measure => simp [intOf]; omega
    · have hstop : qs.length ≤ t ∨ (t < qs.length ∧ 120 ≤ t) := by omega
      clear hgo
      obtain ⟨v, adj, h1⟩ := hst.out
      obtain ⟨f0, f1⟩ := hofs.out wr h1.below
      obtain ⟨a, ha, haK⟩ := mod_inN o0 K hK1 (by omega)
      obtain ⟨b, hb, hbK⟩ := mod_inN o1 K hK1 (by omega)
      have h1 := hid h1
      have hw := hid h1.out.wood
      clear hst
      rcases hstop with hstop | ⟨hstop1, hstop2⟩
      all_goals
        go_wp2_with fail
        go_region
        rw [ha, hb]
        have h1 := hid h1.out.drew
        generalize wr.drew = w1 at h1 ⊢
        clear f0 f1 ha hb
        by_cases hab : ∃ l, Rd adj (a + 1) (b + 1) l
        · obtain ⟨l, hab⟩ := hab
          have hba := hid (hw.out.back hab)
          obtain ⟨z1, z2, z3⟩ := hab.wk.last_at
          have hfew := h1.out.few hab haK
          obtain ⟨M, hM⟩ : ∃ M, l.length = M := ⟨_, rfl⟩
          obtain ⟨sm, hsm⟩ : ∃ sm, wrap64 (sumV v l) = sm := ⟨_, rfl⟩
          have hs1 := h1.out.sumY a b haK hbK l hab
          have hat := hid hab.wk.at
          have hin := hid (h1.out.road_le hab haK)
          rw [hM] at z2 z3 hfew
          have hM := hid hM
          have hsm := hid hsm
          have hab := hid hab
          clear hs1
          go_wp2_with fail
          refine (h1.out.listY a b haK hbK l hab.out).mono ?_
          rintro e w2 ⟨u1, rfl, ⟨g1, hu1, r1⟩, h2, _⟩
          rw [hM.out] at hu1
          subst hu1
          have r1 : Hid (RB w2 g1 l) := hid r1
          have h2 := hid h2
          clear h1
          go_wp2_with fail
          refine (h2.out.listY b a hbK haK l.reverse hba.out).mono ?_
          rintro e w3 ⟨u2, rfl, ⟨g2, hu2, r2⟩, h3, k3⟩
          rw [List.length_reverse, hM.out] at hu2
          subst hu2
          have r2 : Hid (RB w3 g2 l.reverse) := hid r2
          have r1 := hid (r1.out.keep k3)
          have h3 := hid h3
          clear h2 k3
          go_wp2_with fail
          refine (h3.out.sumY a b haK hbK l hab.out).mono ?_
          rintro e w4 ⟨rfl, h4, k4⟩
          rw [hsm.out]
          have r1 := hid (r1.out.keep k4)
          have r2 := hid (r2.out.keep k4)
          have h4 := hid h4
          clear h3 k4
          go_wp2_with fail
          refine (h4.out.sumY b a hbK haK l.reverse hba.out).mono ?_
          rintro e w5 ⟨rfl, h5, k5⟩
          rw [sumV_rev, hsm.out]
          have r1 := hid (r1.out.keep k5)
          have r2 := hid (r2.out.keep k5)
          have h5 := hid h5
          clear h4 k5
          have x0 := r1.out.cell z1
          have xM := r1.out.cell z2
          have tM : ((M : Int) == 0) = false := by rw [beq_eq_false_iff_ne]; omega
          have q1 : (0 : Int) < (M : Int) := by omega
          have q2 : (0 : Int) ≤ (M : Int) - 1 := by omega
          have q3 : (M : Int) - 1 < (M : Int) := by omega
          have q4 : ((M : Int) - 1).toNat = M - 1 := by omega
          clear z1 z2
          go_wp2_with fail
          clear x0 xM q2 q3 q4
          have st2 : Hid (FS wb.heap.size wb fb K v adj w5 ∧ RB w5 g1 l ∧ RB w5 g2 l.reverse) := ⟨h5.out, r1.out, r2.out⟩
          clear h5 r1 r2
          go_loopw [25, 26, 27] (fun u _ _ wy => ∃ j : Nat, j ≤ M ∧ u = .int .i64 (j : Int) ∧ Hid (FS wb.heap.size wb fb K v adj wy ∧ RB wy g1 l ∧ RB wy g2 l.reverse)) (fun u _ _ _ => M - (intOf u).toNat)
          case atStart => exact ⟨0, by omega, by go_num, st2⟩
          case round =>
            clear st2
            obtain ⟨j, hj, rfl, hst⟩ := hrel
            obtain ⟨h6, r1, r2⟩ := hst.out
            by_cases hjM : j < M
            · obtain ⟨z, hz⟩ : ∃ z, l[j]? = some z := ⟨_, List.getElem?_eq_getElem (by rw [hM.out]; exact hjM)⟩
              obtain ⟨hz0, hzK⟩ := hin.out z (List.mem_of_getElem? hz)
              obtain ⟨d, rfl⟩ : ∃ d, z = d + 1 := ⟨z - 1, by omega⟩
              have y1 := r1.cell hz
              have hzr : l.reverse[M - 1 - j]? = some (d + 1) := by
                rw [List.getElem?_reverse (by rw [hM.out]; omega), hM.out, show M - 1 - (M - 1 - j) = j from by omega]; exact hz
              have y2 := r2.cell hzr
              have p1 : (0 : Int) ≤ (j : Int) := by omega
              have p2 : (j : Int) < (M : Int) := by omega
              have p3 : (0 : Int) ≤ (M : Int) - 1 - (j : Int) := by omega
              have p4 : (M : Int) - 1 - (j : Int) < (M : Int) := by omega
              have p5 : ((M : Int) - 1 - (j : Int)).toNat = M - 1 - j := by omega
              have h6 := hid h6
              have r1 := hid r1
              have r2 := hid r2
              have hz := hid hz
              have hdK : d < K := by omega
              have st3 : Hid (FS wb.heap.size wb fb K v adj wr.drew ∧ RB wr.drew g1 l ∧ RB wr.drew g2 l.reverse) := ⟨h6.out.drew, r1.out, r2.out⟩
              clear hst hzr hz0 hzK
              by_cases hj0 : j = 0
              · subst hj0
                have y2z : wr.cell? ⟨g2, M - 1, none⟩ = some (.int .i64 (d : Int)) := y2
                clear y2
                go_wp2_with fail
                go_region
                all_goals
                  generalize wr.drew = w7 at st3 ⊢
                  go_wp2_with fail
                  go_roundw
                  case rel => exact ⟨1, by omega, by go_num, st3⟩
                  case measure => simp [intOf]; omega
              · obtain ⟨i, hi⟩ : ∃ i, j - 1 = i := ⟨_, rfl⟩
                obtain ⟨z', hz'⟩ : ∃ z', l[i]? = some z' := ⟨_, List.getElem?_eq_getElem (by rw [hM.out]; omega)⟩
                obtain ⟨hz0, hzK⟩ := hin.out z' (List.mem_of_getElem? hz')
                obtain ⟨d', rfl⟩ : ∃ d, z' = d + 1 := ⟨z' - 1, by omega⟩
                have hadj := hid (hat.out i (d' + 1) (d + 1) hz' (by rw [show i + 1 = j from by omega]; exact hz.out))
                have hd'K : d' < K := by omega
                have hne : Hid (∀ y, FS wb.heap.size wb fb K v adj y → Calls Tryd.prog 10 #[.pointer (some ⟨fb, 0, none⟩), .int .i64 (d' : Int), .int .i64 (d : Int)] y fun e w' => e = .returned (.tuple #[.bool true, .nilIface]) ∧ FS wb.heap.size wb fb K v adj w' ∧ Keep y w') := hid (fun y hy => hy.nearY d' d hd'K hdK hadj.out)
                have y3 : wr.drew.cell? ⟨g1, i, none⟩ = some (.int .i64 (d' : Int)) := r1.out.cell hz'
                have y4 : wr.drew.cell? ⟨g1, j, none⟩ = some (.int .i64 (d : Int)) := r1.out.cell hz.out
                have hz' := hid hz'
                have i1 : (0 : Int) ≤ (i : Int) := by omega
                have i2 : (i : Int) < (M : Int) := by omega
                have i6 : IntKind.i64.wrap ((j : Int) - 1) = (i : Int) := by rw [IntKind.wrap_i64]; omega
                have i4 : decide ((0 : Int) < (j : Int)) = true := decide_eq_true (by omega)
                have i5 : decide (0 < j) = true := decide_eq_true (by omega)
                clear hz0 hzK h6 hi hj0
                go_wp2_with fail
                go_region
                all_goals
                  generalize wr.drew = w7 at st3 y3 y4 ⊢
                  have st3d : Hid (FS wb.heap.size wb fb K v adj w7.drew ∧ RB w7.drew g1 l ∧ RB w7.drew g2 l.reverse) := ⟨st3.out.1.drew, st3.out.2.1, st3.out.2.2⟩
                  go_wp2_with fail
                  go_region_held3 (fun w' => w'.cell? ⟨g1, i, none⟩ = some (.int .i64 (d' : Int)) ∧ w'.cell? ⟨g1, j, none⟩ = some (.int .i64 (d : Int))) (first | exact ⟨c1', c2'⟩ | exact ⟨y3, y4⟩ | go_keep) ((go_at_call 10; refine (hne.out _ st3d.out.1).mono ?_; rintro e w8 ⟨rfl, h8, k8⟩; have s8 : Hid (FS wb.heap.size wb fb K v adj w8 ∧ RB w8 g1 l ∧ RB w8 g2 l.reverse) := ⟨h8, st3d.out.2.1.keep k8, st3d.out.2.2.keep k8⟩; have c1' := s8.out.2.1.cell hz'.out; have c2' := s8.out.2.1.cell hz.out; clear h8 k8))
                  all_goals
                    go_wp2_with fail
                    go_roundw
                    case rel => exact ⟨j + 1, by omega, by go_num, s8⟩
                    case measure => simp [intOf]; omega
            · have hjM : j = M := by omega
              subst hjM
              have h6 := hid h6
              clear hst r1 r2
              go_wp2_with fail
              refine (sure_ok _ (h6.out.handle hg.out rfl)).mono ?_
              rintro e w9 ⟨rfl, b9⟩
              have h9 := hid (h6.out.more b9)
              clear b9
              go_wp2_with fail
              go_ret
              exact ⟨rfl, bb.out.trans (h9.out.below.mono bb.out.size)⟩
        · have hab : Hid (∀ l, ¬ Rd adj (a + 1) (b + 1) l) := hid (fun l e => hab ⟨l, e⟩)
          have hba : Hid (∀ l, ¬ Rd adj (b + 1) (a + 1) l) := hid (fun l e => hab.out _ (hw.out.back e))
          go_wp2_with fail
          refine (h1.out.listN a b haK hbK hab.out).mono ?_
          rintro e w2 ⟨rfl, h2, _⟩
          have h2 := hid h2
          clear h1
          go_wp2_with fail
          refine (h2.out.listN b a hbK haK hba.out).mono ?_
          rintro e w3 ⟨rfl, h3, _⟩
          have h3 := hid h3
          clear h2
          go_wp2_with fail
          refine (h3.out.sumN a b haK hbK hab.out).mono ?_
          rintro e w4 ⟨rfl, h4, _⟩
          have h4 := hid h4
          clear h3
          go_wp2_with fail
          refine (h4.out.sumN b a hbK haK hba.out).mono ?_
          rintro e w5 ⟨rfl, h5, _⟩
          have h5 := hid h5
          clear h4
          go_wp2_with fail
          refine (h5.out.sameN a b haK hbK hab.out).mono ?_
          rintro e w6 ⟨rfl, h6, _⟩
          have h6 := hid h6
          clear h5
          go_wp2_with fail
          refine (num_err 21 _ (h6.out.handle hg.out rfl)).mono ?_
          rintro e w7 ⟨rfl, b7⟩
          have h7 := hid (h6.out.more b7)
          clear h6 b7
          go_wp2_with fail
          refine (num_err 21 _ (h7.out.handle hg.out rfl)).mono ?_
          rintro e w8 ⟨rfl, b8⟩
          have h8 := hid (h7.out.more b8)
          clear h7 b8
          go_wp2_with fail
          refine (num_err 21 _ (h8.out.handle hg.out rfl)).mono ?_
          rintro e w9 ⟨rfl, b9⟩
          have h9 := hid (h8.out.more b9)
          clear h8 b9
          go_wp2_with fail
          refine (num_err 21 _ (h9.out.handle hg.out rfl)).mono ?_
          rintro e w10 ⟨rfl, b10⟩
          have h10 := hid (h9.out.more b10)
          clear h9 b10
          go_wp2_with fail
          refine (sure_ok _ (h10.out.handle hg.out rfl)).mono ?_
          rintro e w11 ⟨rfl, b11⟩
          have h11 := hid (h10.out.more b11)
          clear h10 b11
          go_wp2_with fail
          go_ret
          exact ⟨rfl, bb.out.trans (h11.out.below.mono bb.out.size)⟩

end Go.Proofs.YtbdcddkiioehcaaDoor
