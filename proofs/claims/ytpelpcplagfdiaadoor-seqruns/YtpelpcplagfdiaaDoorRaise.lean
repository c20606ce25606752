/- 'settle' and 'lift' among trees; 'raise', walked. -/
import Derived.Test.YtpelpcplagfdiaaDoorMove
import Derived.Test.YtpelpcplagfdiaaDoorLiftW
namespace Go.Proofs.YtpelpcplagfdiaaDoor
open Go.RowKit
set_option linter.unusedVariables false

theorem settle_gd (fb nb n N x : Nat) (T : Tb) (v : Nat → Int) (sub seq : Nat → List Nat) (w : World) (h : Fo w fb nb n N T) (hG : Gd N T v sub seq) (hx : x < N) :
    Calls Tryd.prog 56 #[.pointer (some ⟨fb, 0, none⟩), .int .i32 (x : Int)] w fun e w' => e = .returned (.tuple #[]) ∧ ∃ T' sub', Fo w' fb nb n N T' ∧ Mv N v seq x T sub T' sub' ∧ Stl x T sub T' sub' ∧ Turned (fun k => k = nb) w w' := by
  obtain ⟨sub', m, s⟩ := hG.settle x
  refine (settle_ok fb nb n N x T w h hx (hG.l_lt x) (hG.r_lt x)).mono ?_
  rintro e w' ⟨rfl, h2, t2⟩
  exact ⟨rfl, _, sub', h2, m, s, t2⟩

theorem lift_gd (fb nb n N x : Nat) (T : Tb) (v : Nat → Int) (sub seq : Nat → List Nat) (w : World) (h : Fo w fb nb n N T) (hG : Gd N T v sub seq) (hx0 : x ≠ 0) (p : Nat) (ep : (T x).up = p) (hp : p ≠ 0) (tx : (T x).t = false) (tp : (T p).t = false) :
    Calls Tryd.prog 58 #[.pointer (some ⟨fb, 0, none⟩), .int .i32 (x : Int)] w fun e w' => e = .returned (.tuple #[]) ∧ ∃ T' sub', Fo w' fb nb n N T' ∧ Mv N v seq x T sub T' sub' ∧ Lft x p T sub T' sub' ∧ Turned (fun k => k = nb) w w' := by
  subst ep
  obtain ⟨sub', m, s⟩ := hG.lift hx0 hp tx tp
  obtain ⟨p', b, g, c, a, sd, hp', nn⟩ := hG.inv.near hx0 hp
  have e1 := nn.ep
  refine (lift_ok fb nb n N x p' b g c a sd T w h nn (hG.lt hp) (by rw [← e1]; exact hG.up_lt x) (by rw [← nn.eb]; exact hG.k_lt x _) (by rw [← nn.eg]; exact hG.up_lt _) (by rw [← nn.ec]; exact hG.k_lt _ _) (by rw [← nn.ea]; exact hG.k_lt _ _)).mono ?_
  rintro e w' ⟨rfl, h2, t2⟩
  exact ⟨rfl, _, sub', h2, m, s, t2⟩

/-- How far a node is from the top, at most. -/
def ms (nb x N : Nat) (w : World) : Nat := match w.cell? ⟨nb, x * 9 + 4, none⟩ with
  | some (.int _ k) => N + 1 - (k + 1).toNat
  | _ => 0

theorem ms_is {fb nb n N x : Nat} {T : Tb} {v : Nat → Int} {sub seq : Nat → List Nat} {w : World} (h : Fo w fb nb n N T) (hG : Gd N T v sub seq) (hx : x < N) : ms nb x N w = N + 1 - (sub x).length := by
  unfold ms
  rw [h.rest hx]
  have := (hG.inv.tal x).rest
  dsimp only
  omega

set_option maxRecDepth 100000 in
set_option maxHeartbeats 2000000 in
theorem raise_ok (fb nb n N x : Nat) (T : Tb) (v : Nat → Int) (sub seq : Nat → List Nat) (w : World) (h : Fo w fb nb n N T) (hG : Gd N T v sub seq) (hx0 : x ≠ 0) (hx : x < N) :
    Calls Tryd.prog 41 #[.pointer (some ⟨fb, 0, none⟩), .int .i32 (x : Int)] w fun e w' => e = .returned (.tuple #[]) ∧ ∃ T' sub', Fo w' fb nb n N T' ∧ Mv N v seq x T sub T' sub' ∧ (T' x).up = 0 ∧ (T' x).t = false ∧ Turned (fun k => k = nb) w w' := by
  have hbig := h.big
  have q1 : (0 : Int) ≤ (x : Int) := by omega
  have q2 : (x : Int) < (N : Int) := by omega
  have hx0h := hid hx0
  have st : Hid (∃ T1 sub1, Fo w fb nb n N T1 ∧ Mv N v seq x T sub T1 sub1 ∧ Turned (fun k => k = nb) w w) := ⟨T, sub, h, Mv.refl hG x, Turned.refl _ _⟩
  clear h hx0 hG
  go_enter Tryd.func41, Tryd.ntmps41
  go_wp2_with fail
  go_loopw [4, 5] (fun _ _ wr => Hid (∃ T1 sub1, Fo wr fb nb n N T1 ∧ Mv N v seq x T sub T1 sub1 ∧ Turned (fun k => k = nb) w wr)) (fun _ _ wr => ms nb x N wr)
  case atStart => exact st
  case round =>
    clear st
    obtain ⟨T1, sub1, h1, m1, t1⟩ := hrel.out
    clear hrel
    obtain ⟨p, ep⟩ : ∃ p, (T1 x).up = p := ⟨_, rfl⟩
    have hms := hid (ms_is h1 m1.gd hx)
    have c1 := h1.c1
    have cu : wr.cell? ⟨nb, x * 9 + 5, none⟩ = some (.int .i32 (p : Int)) := by rw [← ep]; exact h1.up hx
    by_cases hp : p = 0
    · subst hp
      have hh := hid h1
      have mh := hid m1
      have th := hid t1
      have eph := hid ep
      clear h1 m1 t1 ep
      go_wp2_with fail
      refine (settle_gd fb nb n N x T1 v sub1 seq _ hh.out mh.out.gd hx).mono ?_
      rintro e w2 ⟨rfl, T2, sub2, h2, m2, s2, t2⟩
      have fin : Hid (∃ T' sub', Fo w2 fb nb n N T' ∧ Mv N v seq x T sub T' sub' ∧ (T' x).up = 0 ∧ (T' x).t = false ∧ Turned (fun k => k = nb) w w2) := ⟨T2, sub2, h2, mh.out.trans m2, by rw [s2.up]; exact eph.out, s2.t, th.out.trans t2⟩
      clear h2 m2 s2 t2
      go_wp2_with fail
      go_end0
      exact ⟨rfl, fin.out⟩
    · have tp0 : ((p : Int) != 0) = true := by simp; omega
      have hpN : p < N := by rw [← ep]; exact m1.gd.up_lt x
      obtain ⟨g, eg⟩ : ∃ g, (T1 p).up = g := ⟨_, rfl⟩
      have hgN : g < N := by rw [← eg]; exact m1.gd.up_lt p
      have cg : wr.cell? ⟨nb, p * 9 + 5, none⟩ = some (.int .i32 (g : Int)) := by rw [← eg]; exact h1.up hpN
      have q3 : (0 : Int) ≤ (p : Int) := by omega
      have q4 : (p : Int) < (N : Int) := by omega
      have hph := hid hp
      have hh := hid h1
      have mh := hid m1
      have th := hid t1
      have eph := hid ep
      have egh := hid eg
      clear h1 m1 t1 ep eg hp
      go_wp2_with fail
      refine (settle_gd fb nb n N g T1 v sub1 seq _ hh.out mh.out.gd hgN).mono ?_
      rintro e w2 ⟨rfl, T2, sub2, h2, m2, s2, t2⟩
      have h2 := hid h2
      have m2 := hid m2
      have s2 := hid s2
      have t2 := hid (th.out.trans t2)
      clear hh th c1 cu cg
      go_wp2_with fail
      refine (settle_gd fb nb n N p T2 v sub2 seq _ h2.out m2.out.gd hpN).mono ?_
      rintro e w3 ⟨rfl, T3, sub3, h3, m3, s3, t3⟩
      have h3 := hid h3
      have m3 := hid m3
      have s3 := hid s3
      have t3 := hid (t2.out.trans t3)
      clear h2 t2
      go_wp2_with fail
      refine (settle_gd fb nb n N x T3 v sub3 seq _ h3.out m3.out.gd hx).mono ?_
      rintro e w4 ⟨rfl, T4, sub4, h4, m4, s4, t4⟩
      obtain ⟨mm, up, upp, tx, tp, tg, hlen⟩ := settle3 mh.out.gd hx0h.out eph.out hph.out egh.out m2.out s2.out m3.out s3.out m4 s4
      have h4 := hid h4
      have t4 := hid (t3.out.trans t4)
      have mm := hid mm
      have fl := hid (And.intro up (And.intro upp (And.intro tx (And.intro tp (And.intro tg hlen)))))
      clear m4 s4 h3 t3 m2 m3 s2 s3 up upp tx tp tg hlen
      have fin : Hid (∀ (y : World) (T5 T6 : Tb) (sub5 sub6 : Nat → List Nat) (q : Nat), Mv N v seq x T4 sub4 T5 sub5 → (sub4 x).length ≤ (sub5 x).length → (T5 x).up = q → q ≠ 0 → Mv N v seq x T5 sub5 T6 sub6 → Lft x q T5 sub5 T6 sub6 → Fo y fb nb n N T6 → Turned (fun k => k = nb) w y →
          Hid (∃ T1 sub1, Fo y fb nb n N T1 ∧ Mv N v seq x T sub T1 sub1 ∧ Turned (fun k => k = nb) w y) ∧ ms nb x N y < ms nb x N wr) := fun y T5 T6 sub5 sub6 q a1 a2 a3 a4 a5 a6 a7 a8 => by
        refine ⟨⟨T6, sub6, a7, ((mh.out.trans mm.out).trans a1).trans a5, a8⟩, ?_⟩
        rw [hms.out, ms_is a7 a5.gd hx, a6.sx]
        have h1 := a1.gd.inv.up_lt hx0h.out (by rw [a3]; exact a4)
        rw [a3] at h1
        have h2 := fl.out.2.2.2.2.2
        have h3 := a1.gd.len q
        omega
      by_cases hg : g = 0
      · have tg0 : ((g : Int) != 0) = false := by subst hg; rfl
        go_wp2_with fail
        refine (lift_gd fb nb n N x T4 v sub4 seq _ h4.out mm.out.gd hx0h.out p fl.out.1 hph.out fl.out.2.2.1 fl.out.2.2.2.1).mono ?_
        rintro e w5 ⟨rfl, T5, sub5, h5, m5, l5, t5⟩
        have fin2 := hid (fin.out w5 T4 T5 sub4 sub5 p (Mv.refl mm.out.gd x) (Nat.le_refl _) fl.out.1 hph.out m5 l5 h5 (t4.out.trans t5))
        clear h5 m5 l5 t5 fin
        go_wp2_with fail
        go_roundw
        case rel => exact fin2.out.1
        case measure => exact fin2.out.2
      · have tg0 : ((g : Int) != 0) = true := by simp; omega
        have hgh := hid hg
        clear hg
        have hw1 : Hid (∀ y, Fo y fb nb n N T4 → Calls Tryd.prog 57 #[.pointer (some ⟨fb, 0, none⟩), .int .i32 (p : Int)] y fun e w' => e = .returned (.int .i64 (sI (whr T4 p))) ∧ w' = y.drew) := fun y hy => where_ok fb nb n N p T4 y hy hpN (mm.out.gd.up_lt p)
        have hw2 : Hid (∀ y, Fo y fb nb n N T4 → Calls Tryd.prog 57 #[.pointer (some ⟨fb, 0, none⟩), .int .i32 (x : Int)] y fun e w' => e = .returned (.int .i64 (sI (whr T4 x))) ∧ w' = y.drew) := fun y hy => where_ok fb nb n N x T4 y hy hx (mm.out.gd.up_lt x)
        obtain ⟨P, hP⟩ : ∃ P, sI (whr T4 p) = P := ⟨_, rfl⟩
        obtain ⟨X, hX⟩ : ∃ X, sI (whr T4 x) = X := ⟨_, rfl⟩
        rw [hP] at hw1
        rw [hX] at hw2
        have h5 := hid h4.out.drew.drew
        have t5 := hid t4.out.drew.drew
        by_cases hz : whr T4 p = whr T4 x
        · have tz : (P == X) = true := by rw [← hP, ← hX, hz]; simp
          have hzh := hid hz
          clear hP hX hz
          go_wp2_with fail
          refine (hw1.out _ h4.out).mono ?_
          rintro e w' ⟨rfl, rfl⟩
          go_wp2_with fail
          refine (hw2.out _ h4.out.drew).mono ?_
          rintro e w' ⟨rfl, rfl⟩
          generalize w4.drew.drew = w5 at h5 t5 ⊢
          go_wp2_with fail
          refine (lift_gd fb nb n N p T4 v sub4 seq _ h5.out mm.out.gd hph.out g fl.out.2.1 hgh.out fl.out.2.2.2.1 (fl.out.2.2.2.2.1 hgh.out)).mono ?_
          rintro e w6 ⟨rfl, T6, sub6, h6, m6, l6, t6⟩
          obtain ⟨m7, u7, tx7, tp7, e7⟩ := zigzig mm.out.gd hx0h.out fl.out.1 hph.out fl.out.2.1 hgh.out fl.out.2.2.1 fl.out.2.2.2.1 hzh.out m6 l6
          have h6 := hid h6
          have t6 := hid (t5.out.trans t6)
          have m7 := hid m7
          have f7 := hid (And.intro u7 (And.intro tx7 (And.intro tp7 e7)))
          clear m6 l6 u7 tx7 tp7 e7 h5 t5
          go_wp2_with fail
          refine (lift_gd fb nb n N x T6 v sub6 seq _ h6.out m7.out.gd hx0h.out p f7.out.1 hph.out f7.out.2.1 f7.out.2.2.1).mono ?_
          rintro e w8 ⟨rfl, T8, sub8, h8, m8, l8, t8⟩
          have fin2 := hid (fin.out w8 T6 T8 sub6 sub8 p m7.out (by rw [f7.out.2.2.2]; exact Nat.le_refl _) f7.out.1 hph.out m8 l8 h8 (t6.out.trans t8))
          clear h8 m8 l8 t8 fin
          go_wp2_with fail
          go_roundw
          case rel => exact fin2.out.1
          case measure => exact fin2.out.2
        · have tz : (P == X) = false := by
            rw [← hP, ← hX]
            cases h1 : whr T4 p <;> cases h2 : whr T4 x <;> first | rfl | (exact absurd (h1.trans h2.symm) hz)
          clear hP hX hz
          go_wp2_with fail
          refine (hw1.out _ h4.out).mono ?_
          rintro e w' ⟨rfl, rfl⟩
          go_wp2_with fail
          refine (hw2.out _ h4.out.drew).mono ?_
          rintro e w' ⟨rfl, rfl⟩
          generalize w4.drew.drew = w5 at h5 t5 ⊢
          go_wp2_with fail
          refine (lift_gd fb nb n N x T4 v sub4 seq _ h5.out mm.out.gd hx0h.out p fl.out.1 hph.out fl.out.2.2.1 fl.out.2.2.2.1).mono ?_
          rintro e w6 ⟨rfl, T6, sub6, h6, m6, l6, t6⟩
          have h6 := hid h6
          have t6 := hid (t5.out.trans t6)
          have m7 := hid m6
          have f7 : Hid ((T6 x).up = g ∧ (T6 x).t = false ∧ (T6 g).t = false ∧ (sub4 x).length ≤ (sub6 x).length) := ⟨by rw [l6.up]; exact fl.out.2.1, by rw [l6.t]; exact fl.out.2.2.1, by rw [l6.t]; exact fl.out.2.2.2.2.1 hgh.out, by
            rw [l6.sx]
            have := mm.out.gd.inv.up_lt hx0h.out (by rw [fl.out.1]; exact hph.out)
            rw [fl.out.1] at this
            omega⟩
          clear m6 l6 h5 t5
          go_wp2_with fail
          refine (lift_gd fb nb n N x T6 v sub6 seq _ h6.out m7.out.gd hx0h.out g f7.out.1 hgh.out f7.out.2.1 f7.out.2.2.1).mono ?_
          rintro e w8 ⟨rfl, T8, sub8, h8, m8, l8, t8⟩
          have fin2 := hid (fin.out w8 T6 T8 sub6 sub8 g m7.out f7.out.2.2.2 f7.out.1 hgh.out m8 l8 h8 (t6.out.trans t8))
          clear h8 m8 l8 t8 fin
          go_wp2_with fail
          go_roundw
          case rel => exact fin2.out.1
          case measure => exact fin2.out.2

end Go.Proofs.YtpelpcplagfdiaaDoor
