/- The law WebApart, walked: of a face that is split two are made that are not linked; merged again they are as they were. -/
import Derived.Test.YtdmkbcbgjdmgdaaGreatDoorBringb
import Derived.Test.YtdmkbcbgjdmgdaaGreatDoorBwn
import Derived.Test.YtdmkbcbgjdmgdaaGreatDoorLaws14
namespace Go.Proofs.YtdmkbcbgjdmgdaaGreatDoor
open Go.RowKit
set_option linter.unusedVariables false

section
variable {n : Nat} {seq : Nat → List Nat}

/-- Split, and merged again. -/
theorem back_split (h : Part n seq) {x y : Nat} (hx : x ≠ 0) (hne : x ≠ y) (hy : y ∈ seq x) : y ∉ splS seq x y x ∧ rot (mrgS (splS seq x y) x y x) x = rot (seq x) x ∧ rot (mrgS (splS seq x y) x y y) y = rot (seq y) y := by
  obtain ⟨P, Q, e, hP⟩ := rot_parts h hx hne hy
  have e1 := splS_first h hx e x List.mem_cons_self
  have e2 := splS_second h hx e y List.mem_cons_self
  have e3 : rot (x :: P) x = x :: P := rot_self rfl
  have e4 : rot (y :: Q) y = y :: Q := rot_self rfl
  have m1 : mrgS (splS seq x y) x y x = rot (seq x) x := by
    unfold mrgS
    rw [e1, e2, if_pos (Or.inl List.mem_cons_self), e3, e4, e]
  have m2 : mrgS (splS seq x y) x y y = rot (seq x) x := by
    unfold mrgS
    rw [e1, e2, if_pos (Or.inr List.mem_cons_self), e3, e4, e]
  have hs := (h.mem x y hx hy).1
  refine ⟨by rw [e1]; exact hP, ?_, ?_⟩
  · rw [m1]
    exact rot_rot (h.nd x hx) (h.self x hx) (h.self x hx)
  · rw [m2, hs]
    exact rot_rot (h.nd x hx) (h.self x hx) hy

end

theorem fin_ofA {w wz w' : World} {wb n m : Nat} {sq : Nat → List Nat} {tt : Nat → Option (Nat × Nat)} {ky : Nat → Int} (hb : Below w.heap.size w wz) (h : WQ wz.heap.size wz wb n m sq tt ky w') : Below w.heap.size w w' := hb.trans (h.below.mono hb.size)

set_option maxRecDepth 100000 in
set_option maxHeartbeats 8000000 in
theorem apart_law (n : Int) (ad : Option Addr) (m cap : Nat) (l : List A5) (o0 o1 : Int) (w : World) (hg : Handle w) (hv : AV5 w (.slice ad m cap) l) :
    Calls Tryz.prog 5 #[.int .i64 n, .slice ad m cap, .agg #[.int .i64 o0, .int .i64 o1]] w fun e w' => e = .returned (.bool true) ∧ Below w.heap.size w w' := by
  obtain ⟨K, hK, hK1, hK2⟩ := mod_up2 n 14 (by decide) (by decide)
  have hK15 : K ≤ 15 := by omega
  obtain ⟨wz, hwz⟩ : ∃ wz, w.alloc (.cells #[.int .i64 o0, .int .i64 o1] 56) = wz := ⟨_, rfl⟩
  have bx : Below w.heap.size w wz := by rw [← hwz]; exact (Below.refl _ _).alloc (Nat.le_refl _) _
  have hbn : wz.heap[w.heap.size]? = some (.cells #[.int .i64 o0, .int .i64 o1] 56 (0, 0)) := by rw [← hwz]; exact heap_alloc_new w _
  obtain ⟨ob, hob⟩ : ∃ ob, w.heap.size = ob := ⟨_, rfl⟩
  rw [hob] at hbn
  have hof : Hid (∀ y, Below wz.heap.size wz y → y.cell? ⟨ob, 0, none⟩ = some (.int .i64 o0) ∧ y.cell? ⟨ob, 1, none⟩ = some (.int .i64 o1)) := hid fun y hy => by
    have e := (hy.block ob (Array.getElem?_eq_some_iff.1 hbn).1).trans hbn
    constructor <;> (unfold World.cell?; rw [e]; simp)
  have hnew := hid (WQ.new K 8 wz (by omega) (by omega) (by omega) (by omega) (fun _ => 0))
  have hrn := hid (fun y => doc_new K (fun _ => 0) y (by omega) (by omega))
  replace hg := hid (hg.below bx)
  have hav := hid (hv.below bx)
  obtain ⟨ad', m', cap', hve, hlen, hmc, hcm, _⟩ := hv
  simp only [Value.slice.injEq] at hve
  obtain ⟨rfl, rfl, rfl⟩ := hve
  unfold maxLen at hcm
  replace hlen := hid hlen
  replace hbn := hid hbn
  replace bx := hid bx
  replace hwz := hid hwz
  go_enter Tryz.func5, Tryz.ntmps5
  go_upto_region 1 with fail
  try rw [hwz.out]
  try rw [hob]
  go_wp2_with fail
  try rw [hK]
  refine hnew.out.mono ?_
  rintro x w1 ⟨wb, rfl, q1⟩
  replace q1 := hid q1
  clear hnew hK
  go_wp2_with fail
  refine (hrn.out w1).mono ?_
  rintro x w2 ⟨fad0, F0, fcap0, rfl, d2, b2⟩
  have q2 := q1.out.more b2
  have hls : LS wz wb K w2.heap.size (w2.alloc (.cells #[.int .i64 (K : Int), .int .i64 8, .slice fad0 F0 fcap0, .slice none 0 0] 32)) := ⟨_, _, _, _, _, _, _, _, _, q2.alloc _, d2.below ((Below.refl _ _).alloc (Nat.le_refl _) _), heap_alloc_new w2 _, q2.below.size⟩
  replace hls := hid hls
  clear b2 d2 q1 q2 hrn
  go_wp2_with fail
  obtain ⟨w3, hw3⟩ : ∃ w3, w2.alloc (.cells #[.int .i64 (K : Int), .int .i64 8, .slice fad0 F0 fcap0, .slice none 0 0] 32) = w3 := ⟨_, rfl⟩
  rw [hw3] at hls
  try rw [hw3]
  clear hw3
  obtain ⟨bx2, hbx2⟩ : ∃ bx2, w2.heap.size = bx2 := ⟨_, rfl⟩
  rw [hbx2] at hls
  try rw [hbx2]
  clear hbx2
  go_loopw [11] (fun s11 wr => ∃ j : Nat, j ≤ m ∧ j ≤ 50 ∧ s11 = .int .i64 (j : Int) ∧ Hid (LS wz wb K bx2 wr)) (fun s11 _ => 50 - (intOf s11).toNat)
  case atStart => exact ⟨0, by omega, by omega, by go_num, hls⟩
  case round =>
    obtain ⟨j, hj, hj50, rfl, hst⟩ := hrel
    clear hls
    by_cases hlt : j < m ∧ j < 50
    · obtain ⟨q, hq⟩ : ∃ q, l[j]? = some q := ⟨_, List.getElem?_eq_getElem (by rw [hlen.out]; exact hlt.1)⟩
      obtain ⟨ok, b0, o2, rfl, hbl, hcells⟩ := hav.out.five (w' := w) hq
      obtain ⟨sq, tt, ky, fad, F, fcap, tad, T, tcap, g1, g2, g3, g4⟩ := hst.out
      obtain ⟨k0, k1, k2, k3, k4⟩ := hcells wr g1.below
      obtain ⟨qk, qa, qb, qe, qv⟩ := q
      obtain ⟨ok1, ok2⟩ := ok
      simp only [] at k0 k1 k2 k3 k4 ok1 ok2
      have hdo := hid (do_ok g1.drew (g2.below (Below.refl _ _).drew) hg.out (by omega) (by omega) qk qa qb qe qv ok1 ok2)
      obtain ⟨x0, x1, x2, x3⟩ := blk4 g3
      have i1 : (0 : Int) ≤ (j : Int) := by omega
      have i2 : (j : Int) < (m : Int) := by omega
      have t1 : decide ((j : Int) < (m : Int)) = true := decide_eq_true (by omega)
      have t2 : decide ((j : Int) < 50) = true := decide_eq_true (by omega)
      have g3' := hid g3
      have g4' := hid g4
      clear hst g1 g2 g3 hq hcells ok1 ok2 hof
      go_upto_region 9 with fail
      go_region_law ((go_simp; refine (hdo.out).mono ?_; rintro x w4 ⟨xv', sq', tt', ky', rfl, h4, d4, k4'⟩; obtain ⟨fad', F', fcap', tad', T', tcap', hxe⟩ := d4.form; subst hxe; have hb4 := k4'.web g3'.out; obtain ⟨⟨m0, m1, m2, m3⟩, n0, n1, n2, n3⟩ := Wd.blk4 hb4; have fin := hid (LS.put h4 d4 hb4 g4'.out); clear h4 d4 k4' hb4; dsimp only))
      all_goals
        go_wp2_with fail
        go_roundw
        case rel => exact ⟨j + 1, by omega, by omega, by go_num, fin⟩
        case measure => simp [intOf]; omega
    · have hex := loop_end 50 rfl hlt
      obtain ⟨sq, tt, ky, fad, F, fcap, tad, T, tcap, g1, g2, g3, g4⟩ := hst.out
      obtain ⟨f0, f1⟩ := hof.out wr g1.below
      obtain ⟨a, ha, haK⟩ := mod_inN o0 K (by omega) (by omega)
      obtain ⟨b, hb, hbK⟩ := mod_inN o1 K (by omega) (by omega)
      have h1 := hid g1
      clear hlt hj hj50 hav hlen hmc hcm hst g2 g3 g4 hof hwz g1
      rcases hex with ⟨t1, t3⟩ | ⟨⟨t1, t3⟩, t2, t4⟩
      all_goals
        go_wp2_with fail
        go_region
        try rw [ha, hb]
        have h2 := hid (h1.out.drew)
        generalize wr.drew = w2' at h2 ⊢
        clear h1 f0 f1 ha hb
        go_wp2_with fail
        refine (h2.out.walk a haK).mono ?_
        rintro e w3 ⟨u3, rfl, r3, h3, k3⟩
        have p := hid h3.part
        have h3 := hid h3
        have r3 := hid r3
        clear h2 k3
        by_cases hab : a = b
        · subst hab
          go_wp2_with fail
          refine (h3.out.splitN a a haK haK 20 (.inl ⟨rfl, rfl⟩)).mono ?_
          rintro e w4 ⟨rfl, h4, k4⟩
          have h4 := hid h4
          clear h3 k4
          go_wp2_with fail
          refine (h4.out.same a a haK haK true (by simp [p.out.self (a + 1) (by omega)])).mono ?_
          rintro e w5 ⟨rfl, h5, k5⟩
          have h5 := hid h5
          clear h4 k5
          go_wp2_with fail
          refine (num_err 20 _ (hg.out.below h5.out.below)).mono ?_
          rintro e w6 ⟨rfl, b6⟩
          have h6 := hid (h5.out.more b6)
          clear h5 b6
          go_wp2_with fail
          refine (sure_ok _ (hg.out.below h6.out.below)).mono ?_
          rintro e ws ⟨rfl, bs⟩
          have hs := hid (h6.out.more bs)
          clear bs
          go_wp2_with fail
          go_ret
          exact ⟨rfl, fin_ofA bx.out hs.out⟩
        · have t5 : ((a : Int) == (b : Int)) = false := by rw [beq_eq_false_iff_ne]; omega
          have t6 : ((a : Int) != (b : Int)) = true := by rw [bne_iff_ne]; omega
          by_cases hin : b + 1 ∈ sq (a + 1)
          · obtain ⟨_, hbk, _⟩ := back_split p.out (show a + 1 ≠ 0 by omega) (show a + 1 ≠ b + 1 by omega) hin
            have hbk := hid hbk
            go_wp2_with fail
            refine (h3.out.split a b haK hbK hab hin).mono ?_
            rintro e w4 ⟨rfl, h4, k4, hno⟩
            have r4 := hid (r3.out.keepD (.ofW k4))
            have h4 := hid h4
            clear h3 r3 k4
            go_wp2_with fail
            refine (h4.out.linked a b haK hbK false (by simp [hno])).mono ?_
            rintro e w5 ⟨rfl, h5, k5⟩
            have r5 := hid (r4.out.keepD (.ofW k5))
            have h5 := hid h5
            clear h4 r4 k5
            go_wp2_with fail
            refine (h5.out.merge a b haK hbK hno).mono ?_
            rintro e w6 ⟨rfl, h6, k6⟩
            have r6 := hid (r5.out.keepD (.ofW k6))
            have h6 := hid h6
            clear h5 r5 k6
            go_wp2_with fail
            refine (h6.out.walk a haK).mono ?_
            rintro e w7 ⟨u7, rfl, r7, h7, k7⟩
            rw [hbk.out] at r7
            have r37 := r6.out.keepD (.ofW k7)
            have hins := hid (ints_ok u3 u7 _ w7 (r37.nsr p.out (by omega)) (r7.nsr p.out (by omega)))
            have h7 := hid h7
            clear h6 r6 k7 r7 r37
            go_wp2_with fail
            refine hins.out.mono ?_
            rintro e w8 ⟨rfl, b8⟩
            have h8 := hid (h7.out.more b8)
            clear h7 b8 hins
            go_wp2_with fail
            refine (sure_ok _ (hg.out.below h8.out.below)).mono ?_
            rintro e ws ⟨rfl, bs⟩
            have hs := hid (h8.out.more bs)
            clear bs
            go_wp2_with fail
            go_ret
            exact ⟨rfl, fin_ofA bx.out hs.out⟩
          · go_wp2_with fail
            refine (h3.out.splitN a b haK hbK 21 (.inr ⟨hin, rfl⟩)).mono ?_
            rintro e w4 ⟨rfl, h4, k4⟩
            have h4 := hid h4
            clear h3 k4
            go_wp2_with fail
            refine (h4.out.same a b haK hbK false (by simp [hin])).mono ?_
            rintro e w5 ⟨rfl, h5, k5⟩
            have h5 := hid h5
            clear h4 k5
            go_wp2_with fail
            refine (num_err 21 _ (hg.out.below h5.out.below)).mono ?_
            rintro e w6 ⟨rfl, b6⟩
            have h6 := hid (h5.out.more b6)
            clear h5 b6
            go_wp2_with fail
            refine (sure_ok _ (hg.out.below h6.out.below)).mono ?_
            rintro e ws ⟨rfl, bs⟩
            have hs := hid (h6.out.more bs)
            clear bs
            go_wp2_with fail
            go_ret
            exact ⟨rfl, fin_ofA bx.out hs.out⟩
end Go.Proofs.YtdmkbcbgjdmgdaaGreatDoor
