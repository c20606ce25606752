/- 'UniteSame', walked. -/
import Derived.Test.YtbjodjpdfpcjjaaSizes7
namespace Go.Proofs.Ytbjodjpdfpcjjaa
open Go.RowKit
set_option linter.unusedVariables false

theorem stepH_same (f : Nat → Nat) (fs : List (Nat → Nat)) (a b : Nat) : ∃ f' fs', stepH f fs a b = f' :: fs' ∧ f' b = f' a := by
  unfold stepH
  by_cases h : f a = f b
  · rw [if_pos h]; exact ⟨f, fs, rfl, h.symm⟩
  · rw [if_neg h]
    refine ⟨_, _, rfl, ?_⟩
    unfold jn
    split <;> split <;> omega

theorem three (f : Nat → Nat) (a b c : Nat) : ∃ x y z : Bool, decide (f a = f b) = x ∧ decide (f b = f c) = y ∧ decide (f c = f a) = z ∧ ((x = true ∧ y = true ∧ z = true) ∨ (x = true ∧ y = false ∧ z = false) ∨ (x = false ∧ y = true ∧ z = false) ∨ (x = false ∧ y = false ∧ z = true) ∨ (x = false ∧ y = false ∧ z = false)) := by
  refine ⟨_, _, _, rfl, rfl, rfl, ?_⟩
  cases e1 : decide (f a = f b) <;> cases e2 : decide (f b = f c) <;> cases e3 : decide (f c = f a) <;> simp only [decide_eq_true_eq, decide_eq_false_iff_not] at e1 e2 e3 <;> first | (exfalso; omega) | simp

set_option maxRecDepth 100000 in
set_option maxHeartbeats 4000000 in
theorem same_law (n : Int) (ad : Option Addr) (qs : List Act3) (cap : Nat) (o0 o1 o2 : Int) (wv : World) (hq : Acts3 wv ad qs) :
    Calls Try.prog 5 #[.int .i64 n, .slice ad qs.length cap, .agg #[.int .i64 o0, .int .i64 o1, .int .i64 o2]] wv fun e w' => e = .returned (.bool true) ∧ Below wv.heap.size wv w' := by
  obtain ⟨K, hK, hK1, hK2⟩ := mod_up n 40 (by decide) (by decide)
  have hK40 : K ≤ 40 := by omega
  have hql := hq.bound
  obtain ⟨wb, hwb⟩ : ∃ wb, wv.alloc (.cells #[.int .i64 o0, .int .i64 o1, .int .i64 o2] 40) = wb := ⟨_, rfl⟩
  have hbv : Below wv.heap.size wv wb := hwb ▸ balloc _ _
  have hbox : wb.heap[wv.heap.size]? = some (.cells #[.int .i64 o0, .int .i64 o1, .int .i64 o2] 40 (0, 0)) := hwb ▸ heap_alloc_new _ _
  have hlt : wv.heap.size < wb.heap.size := by rw [← hwb]; simp
  have hnew := hid (GL.new K wb (by omega) (by omega))
  have hq2 := hid (hq.below hbv)
  have hbx : Hid (∀ y, Below wb.heap.size wb y → y.cell? ⟨wv.heap.size, 0, none⟩ = some (.int .i64 o0) ∧ y.cell? ⟨wv.heap.size, 1, none⟩ = some (.int .i64 o1) ∧ y.cell? ⟨wv.heap.size, 2, none⟩ = some (.int .i64 o2)) := fun y hy => by
    have := (hy.block wv.heap.size hlt).trans hbox
    obtain ⟨x0, x1, x2, _⟩ := blk3 this
    exact ⟨x0, x1, x2⟩
  clear hq hbox
  replace hbv := hid hbv
  go_enter Try.func5, Try.ntmps5
  go_upto_region 2 with fail
  try rw [hwb]
  clear hwb
  go_wp2_with fail
  try rw [hK]
  refine hnew.out.mono ?_
  rintro e w1 ⟨gb, rfl, h1⟩
  have st1 : Hid (∃ hs, GL wb gb K hs w1) := ⟨_, h1⟩
  clear h1 hnew hK
  have hKw : IntKind.u64.wrap (K : Int) = (K : Int) := by rw [IntKind.wrap_u64]; omega
  have hK0 : ¬ K = 0 := by omega
  have hK0' : ¬ (K : Int) = 0 := by omega
  go_wp2_with fail
  go_loopw [10, 11, 12, 13, 14, 15, 16, 17, 18] (fun u _ _ _ _ _ _ _ _ wr => ∃ t : Nat, t ≤ qs.length ∧ t ≤ 80 ∧ u = .int .i64 (t : Int) ∧ Hid (∃ hs, GL wb gb K hs wr)) (fun u _ _ _ _ _ _ _ _ _ => 80 - (intOf u).toNat)
  case atStart => exact ⟨0, by omega, by omega, by go_num, st1⟩
  case round =>
    clear st1
    obtain ⟨t, ht1, ht2, rfl, hst⟩ := hrel
    by_cases hgo : t < qs.length ∧ t < 80
    · obtain ⟨hgo1, hgo2⟩ := hgo
      obtain ⟨q, hqt⟩ : ∃ q, qs[t]? = some q := ⟨_, List.getElem?_eq_getElem hgo1⟩
      obtain ⟨hs, h1⟩ := hst.out
      obtain ⟨f, fs, rfl⟩ := h1.cons
      cases ad with
      | none => have := hq2.out.nil rfl; subst this; simp at hgo1
      | some a0 =>
        obtain ⟨_, c1, c2⟩ := (hq2.out.below h1.below).at hqt
        replace h1 := hid h1.drew
        obtain ⟨a, ha, haK⟩ := mod_inN q.a K (by omega) (by omega)
        obtain ⟨b, hb, hbK⟩ := mod_inN q.b K (by omega) (by omega)
        have ha' : IntKind.i64.wrap ((IntKind.u64.wrap q.a).tmod (K : Int)) = (a : Int) := (iw _).trans ha
        have hb' : IntKind.i64.wrap ((IntKind.u64.wrap q.b).tmod (K : Int)) = (b : Int) := (iw _).trans hb
        have i1 : (0 : Int) ≤ (t : Int) := by omega
        have i2 : (t : Int) < (qs.length : Int) := by omega
        have hss := hid (stepH_same f fs a b)
        obtain ⟨x, hx⟩ : ∃ x : Bool, decide (f a = f b) = x := ⟨_, rfl⟩
        have hsm := h1.out.same a b haK hbK
        have hjo : Hid (∀ y, GL wb gb K (f :: fs) y → Calls Try.prog 7 #[.pointer (some ⟨gb, 0, none⟩), .int .i64 (a : Int), .int .i64 (b : Int)] y fun e w' => e = .returned (.tuple #[.bool (!x), .nilIface]) ∧ GL wb gb K (stepH f fs a b) w') := fun y hy => by
          have := hy.join a b haK hbK
          rw [hx] at this
          exact this
        rw [hx] at hsm
        clear hqt hst ha hb hx
        go_wp2_with fail
        go_region_held3 (fun y => y.cell? ⟨(a0.add (t * 3)).block, (a0.add (t * 3)).off + 1, none⟩ = some (.int .i64 q.a) ∧ y.cell? ⟨(a0.add (t * 3)).block, (a0.add (t * 3)).off + 2, none⟩ = some (.int .i64 q.b)) (first | assumption | go_keep) (fail)
        cases x with
        | true =>
          go_wp2_with fail
          refine hsm.mono ?_
          rintro e w2 ⟨rfl, h2⟩
          replace h2 := hid h2
          go_wp2_with fail
          refine (hjo.out _ h2.out).mono ?_
          rintro e w3 ⟨rfl, h3⟩
          obtain ⟨f', fs', e1, e2⟩ := hss.out
          rw [e1] at h3
          have hj3 := h3.join b a hbK haK
          rw [decide_eq_true e2] at hj3
          clear e1 e2 h3
          go_wp2_with fail
          refine hj3.mono ?_
          rintro e w4 ⟨rfl, h4⟩
          replace h4 := hid h4
          clear hj3 hjo hsm hss h1 h2
          go_wp2_with fail
          go_roundw
          case rel => exact ⟨t + 1, by omega, by omega, by go_num, ⟨_, h4.out⟩⟩
          case measure => simp [intOf]; omega
        | false =>
          go_wp2_with fail
          refine hsm.mono ?_
          rintro e w2 ⟨rfl, h2⟩
          replace h2 := hid h2
          go_wp2_with fail
          refine (hjo.out _ h2.out).mono ?_
          rintro e w3 ⟨rfl, h3⟩
          obtain ⟨f', fs', e1, e2⟩ := hss.out
          rw [e1] at h3
          have hj3 := h3.join b a hbK haK
          rw [decide_eq_true e2] at hj3
          clear e1 e2 h3
          go_wp2_with fail
          refine hj3.mono ?_
          rintro e w4 ⟨rfl, h4⟩
          replace h4 := hid h4
          clear hj3 hjo hsm hss h1 h2
          go_wp2_with fail
          go_roundw
          case rel => exact ⟨t + 1, by omega, by omega, by go_num, ⟨_, h4.out⟩⟩
          case measure => simp [intOf]; omega
    · have hstop : qs.length ≤ t ∨ (t < qs.length ∧ 80 ≤ t) := by omega
      clear hgo
      obtain ⟨hs, h1⟩ := hst.out
      obtain ⟨f, fs, rfl⟩ := h1.cons
      obtain ⟨x0, x1, x2⟩ := hbx.out _ h1.below
      replace h1 := hid h1.drew
      obtain ⟨a, ha, haK⟩ := mod_inN o0 K (by omega) (by omega)
      obtain ⟨b, hb, hbK⟩ := mod_inN o1 K (by omega) (by omega)
      obtain ⟨c, hc, hcK⟩ := mod_inN o2 K (by omega) (by omega)
      have ha' : IntKind.i64.wrap ((IntKind.u64.wrap o0).tmod (K : Int)) = (a : Int) := (iw _).trans ha
      have hb' : IntKind.i64.wrap ((IntKind.u64.wrap o1).tmod (K : Int)) = (b : Int) := (iw _).trans hb
      have hc' : IntKind.i64.wrap ((IntKind.u64.wrap o2).tmod (K : Int)) = (c : Int) := (iw _).trans hc
      obtain ⟨x, y, z, ex, ey, ez, hxyz⟩ := three f a b c
      have s1 := h1.out.same a b haK hbK
      have s2 : Hid (∀ y', GL wb gb K (f :: fs) y' → Calls Try.prog 14 #[.pointer (some ⟨gb, 0, none⟩), .int .i64 (b : Int), .int .i64 (c : Int)] y' fun e w' => e = .returned (.tuple #[.bool y, .nilIface]) ∧ GL wb gb K (f :: fs) w') := fun y' hy => by
        have := hy.same b c hbK hcK
        rw [ey] at this
        exact this
      have s3 : Hid (∀ y', GL wb gb K (f :: fs) y' → Calls Try.prog 14 #[.pointer (some ⟨gb, 0, none⟩), .int .i64 (c : Int), .int .i64 (a : Int)] y' fun e w' => e = .returned (.tuple #[.bool z, .nilIface]) ∧ GL wb gb K (f :: fs) w') := fun y' hy => by
        have := hy.same c a hcK haK
        rw [ez] at this
        exact this
      rw [ex] at s1
      clear ex ey ez hst ha hb hc
      rcases hstop with hstop | ⟨hstop1, hstop2⟩
      all_goals
        go_wp2_with fail
        go_region_held3 (fun y => y.cell? ⟨wv.heap.size, 0, none⟩ = some (.int .i64 o0) ∧ y.cell? ⟨wv.heap.size, 1, none⟩ = some (.int .i64 o1) ∧ y.cell? ⟨wv.heap.size, 2, none⟩ = some (.int .i64 o2)) (first | assumption | go_keep) (fail)
        go_wp2_with fail
        refine s1.mono ?_
        rintro e w2 ⟨rfl, h2⟩
        replace h2 := hid h2
        go_wp2_with fail
        refine (s2.out _ h2.out).mono ?_
        rintro e w3 ⟨rfl, h3⟩
        replace h3 := hid h3
        go_wp2_with fail
        refine (s3.out _ h3.out).mono ?_
        rintro e w4 ⟨rfl, h4⟩
        replace h4 := hid h4
        clear s1 s2 s3 h1 h2 h3 x0 x1 x2
        rcases hxyz with ⟨rfl, rfl, rfl⟩ | ⟨rfl, rfl, rfl⟩ | ⟨rfl, rfl, rfl⟩ | ⟨rfl, rfl, rfl⟩ | ⟨rfl, rfl, rfl⟩
        all_goals
          go_wp2_with fail
          refine (sure_ok _).mono ?_
          rintro e w7 ⟨rfl, b7⟩
          have fin := hid (hbv.out.trans ((h4.out.more b7).below.mono (by omega)))
          go_wp2_with fail
          go_ret
          exact ⟨rfl, fin.out⟩

end Go.Proofs.Ytbjodjpdfpcjjaa
