/- 'settle' and 'lift' among stretches; 'raise', walked. -/
import Derived.Test.YtnkgpjjlgbggcaaDoorLiftW
namespace Go.Proofs.YtnkgpjjlgbggcaaDoor
open Go.RowKit
set_option linter.unusedVariables false

/-- From one table to another one: the stretches stay; of other ones what is above each, too. -/
structure Ms (N : Nat) (v : Nat → Int) (seq : Nat → List Nat) (x : Nat) (T : Tb) (T' : Tb) (sub' : Nat → List Nat) : Prop where
  gd : Gd N T' v sub' seq
  fr : ∀ y, y ≠ 0 → seq y ≠ seq x → (T' y).up = (T y).up

section
variable {T T' T'' T1 T2 T3 : Tb} {v : Nat → Int} {sub sub' sub'' sub1 sub2 sub3 seq : Nat → List Nat} {N : Nat} {pp par : Nat → Nat}

theorem Ms.refl (h : Gd N T v sub seq) (x : Nat) : Ms N v seq x T T sub := ⟨h, fun _ _ _ => rfl⟩
theorem Ms.trans {x : Nat} (h : Ms N v seq x T T' sub') (k : Ms N v seq x T' T'' sub'') : Ms N v seq x T T'' sub'' := ⟨k.gd, fun y h0 hy => (k.fr y h0 hy).trans (h.fr y h0 hy)⟩
theorem Ms.at {x z : Nat} (h : Ms N v seq x T T' sub') (e : seq x = seq z) : Ms N v seq z T T' sub' := ⟨h.gd, by rw [← e]; exact h.fr⟩
theorem Mv.ms {x : Nat} (h : Mv N v seq x T sub T' sub') : Ms N v seq x T T' sub' := ⟨h.gd, fun y h0 hy => by rw [(h.fr y (fun _ => hy)).1]⟩

/-- Three spots settled, one above the other. -/
theorem settle6 (h : Gd N T v sub seq) {x p g G : Nat} (hx : x ≠ 0) (ep : (T x).up = p) (hp : p ≠ 0) (eg : (T p).up = g) (hG : g ≠ 0 → G = g)
    (s1 : Stl G T sub T1 sub1) (s2 : Stl p T1 sub1 T2 sub2) (m3 : Gd N T3 v sub3 seq) (s3 : Stl x T2 sub2 T3 sub3) :
    Ms N v seq x T T3 sub3 ∧ (T3 x).up = p ∧ (T3 p).up = g ∧ (T3 x).t = false ∧ (T3 p).t = false ∧ (g ≠ 0 → (T3 g).t = false) ∧ (sub3 x).length = (sub x).length := by
  have u1 : ∀ y, (T3 y).up = (T y).up := fun y => by rw [s3.up, s2.up, s1.up]
  have lpx : (sub x).length < (sub p).length := by have := h.inv.up_lt hx (by rw [ep]; exact hp); rw [ep] at this; exact this
  have lgp : g ≠ 0 → (sub p).length < (sub g).length := fun hg => by have := h.inv.up_lt hp (by rw [eg]; exact hg); rw [eg] at this; exact this
  have npx : p ≠ x := fun e => by rw [e] at lpx; omega
  refine ⟨⟨m3, fun y _ _ => u1 y⟩, by rw [u1]; exact ep, by rw [u1]; exact eg, s3.t, ?_, fun hg => ?_, by rw [s3.len, s2.len, s1.len]⟩
  · rw [s3.o p npx (fun _ e => by rw [s2.up, s1.up, eg] at e; by_cases hg : g = 0; exact hx (e.symm.trans hg); have := lgp hg; rw [e] at this; omega)]
    exact s2.t
  · have n1 : g ≠ x := fun e => by have := lgp hg; rw [e] at this; omega
    have n2 : g ≠ p := fun e => by have := lgp hg; rw [e] at this; omega
    have lu : (T g).up ≠ 0 → (sub g).length < (sub (T g).up).length := fun hu => h.inv.up_lt hg hu
    have := lgp hg
    rw [s3.o g n1 (fun _ e => by rw [s2.up, s1.up] at e; have := lu (by rw [e]; exact hx); rw [e] at this; omega), s2.o g n2 (fun _ e => by rw [s1.up] at e; have := lu (by rw [e]; exact hp); rw [e] at this; omega), ← hG hg]
    exact s1.t
end

section
variable {T : Tb} {v : Nat → Int} {sub seq : Nat → List Nat} {N : Nat} {pp par : Nat → Nat}

theorem settle_gd (fb nb n x : Nat) (w : World) (h : Fo w fb nb n N (real T pp)) (hG : Gd N T v sub seq) (hx : x < N) :
    Calls Tryd.prog 44 #[.pointer (some ⟨fb, 0, none⟩), .int .i32 (x : Int)] w fun e w' => e = .returned (.tuple #[]) ∧ ∃ T' sub', Fo w' fb nb n N (real T' pp) ∧ Mv N v seq x T sub T' sub' ∧ Stl x T sub T' sub' ∧ Turned (fun k => k = nb) w w' := by
  obtain ⟨sub', m, s⟩ := hG.settle x
  refine (settle_ok fb nb n N x (real T pp) w h hx (hG.l_lt x) (hG.r_lt x)).mono ?_
  rintro e w' ⟨rfl, h2, t2⟩
  exact ⟨rfl, _, sub', by rw [real_settle]; exact h2, m, s, t2⟩

theorem lift_gd (fb nb n x : Nat) (w : World) (h : Fo w fb nb n N (real T pp)) (hL : Lc N T v sub seq pp par) (hx0 : x ≠ 0) (p : Nat) (ep : (T x).up = p) (hp : p ≠ 0) (tx : (T x).t = false) (tp : (T p).t = false) :
    Calls Tryd.prog 45 #[.pointer (some ⟨fb, 0, none⟩), .int .i32 (x : Int)] w fun e w' => e = .returned (.tuple #[]) ∧ ∃ T' sub', Fo w' fb nb n N (real T' pp) ∧ Mv N v seq x T sub T' sub' ∧ Lft x p T sub T' sub' ∧ Turned (fun k => k = nb) w w' := by
  subst ep
  have hG := hL.gd
  obtain ⟨sub', m, s⟩ := hG.lift hx0 hp tx tp
  obtain ⟨p', b, g, c, a, sd, hp', nn⟩ := hG.inv.near hx0 hp
  have e1 := nn.ep
  refine (lift_ok fb nb n x p' b g c a sd w h hL hx0 hp' nn (hG.lt hp) (by rw [← e1]; exact hG.up_lt x) (by rw [← nn.eb]; exact hG.k_lt x _) (by rw [← nn.ec]; exact hG.k_lt _ _) (by rw [← nn.ea]; exact hG.k_lt _ _)).mono ?_
  rintro e w' ⟨rfl, h2, t2⟩
  exact ⟨rfl, _, sub', h2, m, s, t2⟩

/-- How far a spot is from the top, at most. -/
def ms (nb x N : Nat) (w : World) : Nat := match w.cell? ⟨nb, x * 9 + 4, none⟩ with
  | some (.int _ k) => N + 1 - (k + 1).toNat
  | _ => 0

theorem ms_is {fb nb n x : Nat} {w : World} (h : Fo w fb nb n N (real T pp)) (hG : Gd N T v sub seq) (hx : x < N) : ms nb x N w = N + 1 - (sub x).length := by
  unfold ms
  rw [h.rest hx]
  have := (hG.inv.tal x).rest
  show N + 1 - ((T x).rest + 1).toNat = _
  omega
end

set_option maxRecDepth 100000 in
set_option maxHeartbeats 2000000 in
theorem raise_ok (fb nb n N x : Nat) (T : Tb) (v : Nat → Int) (sub seq : Nat → List Nat) (pp par : Nat → Nat) (w : World) (h : Fo w fb nb n N (real T pp)) (hL : Lc N T v sub seq pp par) (hx0 : x ≠ 0) (hx : x < N) :
    Calls Tryd.prog 23 #[.pointer (some ⟨fb, 0, none⟩), .int .i32 (x : Int)] w fun e w' => e = .returned (.tuple #[]) ∧ ∃ T' sub', Fo w' fb nb n N (real T' pp) ∧ Ms N v seq x T T' sub' ∧ (T' x).up = 0 ∧ (T' x).t = false ∧ Turned (fun k => k = nb) w w' := by
  have hbig := h.big
  have q1 : (0 : Int) ≤ (x : Int) := by omega
  have q2 : (x : Int) < (N : Int) := by omega
  have hx0h := hid hx0
  have st : Hid (∃ T1 sub1, Fo w fb nb n N (real T1 pp) ∧ Ms N v seq x T T1 sub1 ∧ Turned (fun k => k = nb) w w) := ⟨T, sub, h, Ms.refl hL.gd x, Turned.refl _ _⟩
  have hLh := hid hL
  clear h hx0 hL
  go_enter Tryd.func23, Tryd.ntmps23
  go_wp2_with fail
  go_loopw [4] (fun _ wr => Hid (∃ T1 sub1, Fo wr fb nb n N (real T1 pp) ∧ Ms N v seq x T T1 sub1 ∧ Turned (fun k => k = nb) w wr)) (fun _ wr => ms nb x N wr)
  case atStart => exact st
  case round =>
    clear st
    obtain ⟨T1, sub1, h1, m1, t1⟩ := hrel.out
    clear hrel
    obtain ⟨p, ep⟩ : ∃ p, (T1 x).up = p := ⟨_, rfl⟩
    have hms := hid (ms_is h1 m1.gd hx)
    have hL1 := hid (hLh.out.of m1.gd)
    have hwh := where_ok fb nb n N x (real T1 pp) wr h1 hx (hL1.out.up_lt x)
    have hh := hid h1.drew
    have th := hid t1.drew
    have mh := hid m1
    have eph := hid ep
    have hms2 : Hid (ms nb x N wr.drew = ms nb x N wr) := hid rfl
    by_cases hp : p = 0
    · rw [hL1.out.where_top hx0h.out (ep.trans hp)] at hwh
      have hwh := hid hwh
      have eph2 := hid (ep.trans hp)
      clear h1 m1 t1 ep hp
      go_wp2_with fail
      refine hwh.out.mono ?_
      rintro e w' ⟨rfl, rfl⟩
      generalize wr.drew = w1 at hh th ⊢
      go_wp2_with fail
      refine (settle_gd fb nb n x _ hh.out mh.out.gd hx).mono ?_
      rintro e w2 ⟨rfl, T2, sub2, h2, m2, s2, t2⟩
      have fin : Hid (∃ T' sub', Fo w2 fb nb n N (real T' pp) ∧ Ms N v seq x T T' sub' ∧ (T' x).up = 0 ∧ (T' x).t = false ∧ Turned (fun k => k = nb) w w2) := ⟨T2, sub2, h2, mh.out.trans m2.ms, by rw [s2.up]; exact eph2.out, s2.t, th.out.trans t2⟩
      clear h2 m2 s2 t2
      go_wp2_with fail
      go_end0
      exact ⟨rfl, fin.out⟩
    · rw [hL1.out.where_in hx0h.out (by rw [ep]; exact hp)] at hwh
      obtain ⟨C, hC⟩ : ∃ C, sI (whr T1 x) = C := ⟨_, rfl⟩
      rw [hC] at hwh
      have tC : (C != 2) = true := by rw [← hC]; cases whr T1 x <;> rfl
      have hwh := hid hwh
      have hpN : p < N := by rw [← ep]; exact m1.gd.up_lt x
      obtain ⟨g, eg⟩ : ∃ g, (T1 p).up = g := ⟨_, rfl⟩
      obtain ⟨G, eG⟩ : ∃ G, (real T1 pp p).up = G := ⟨_, rfl⟩
      have hGN : G < N := by rw [← eG]; exact hL1.out.up_lt p
      have hGg : Hid (g ≠ 0 → G = g) := hid (fun hg => by rw [← eG, real_up1 (by rw [eg]; exact hg), eg])
      have c1 := hh.out.c1
      have cu : wr.drew.cell? ⟨nb, x * 9 + 5, none⟩ = some (.int .i32 (p : Int)) := by rw [← ep, ← real_up1 (T := T1) (pp := pp) (x := x) (by rw [ep]; exact hp)]; exact hh.out.up hx
      have cg : wr.drew.cell? ⟨nb, p * 9 + 5, none⟩ = some (.int .i32 (G : Int)) := by rw [← eG]; exact hh.out.up hpN
      have q3 : (0 : Int) ≤ (p : Int) := by omega
      have q4 : (p : Int) < (N : Int) := by omega
      have hph := hid hp
      have egh := hid eg
      clear h1 m1 t1 ep eg hp eG hC
      go_wp2_with fail
      refine hwh.out.mono ?_
      rintro e w' ⟨rfl, rfl⟩
      generalize wr.drew = w1 at hh th c1 cu cg hms2 ⊢
      clear hwh
      go_wp2_with fail
      refine (settle_gd fb nb n G _ hh.out mh.out.gd hGN).mono ?_
      rintro e w2 ⟨rfl, T2, sub2, h2, m2, s2, t2⟩
      have h2 := hid h2
      have m2 := hid m2
      have s2 := hid s2
      have t2 := hid (th.out.trans t2)
      clear hh th c1 cu cg
      go_wp2_with fail
      refine (settle_gd fb nb n p _ h2.out m2.out.gd hpN).mono ?_
      rintro e w3 ⟨rfl, T3, sub3, h3, m3, s3, t3⟩
      have h3 := hid h3
      have m3 := hid m3
      have s3 := hid s3
      have t3 := hid (t2.out.trans t3)
      clear h2 t2
      go_wp2_with fail
      refine (settle_gd fb nb n x _ h3.out m3.out.gd hx).mono ?_
      rintro e w4 ⟨rfl, T4, sub4, h4, m4, s4, t4⟩
      obtain ⟨mm, up, upp, tx, tp, tg, hlen⟩ := settle6 mh.out.gd hx0h.out eph.out hph.out egh.out hGg.out s2.out s3.out m4.gd s4
      have h4 := hid h4
      have t4 := hid (t3.out.trans t4)
      have mm := hid mm
      have hL4 := hid (hLh.out.of mm.out.gd)
      have fl := hid (And.intro up (And.intro upp (And.intro tx (And.intro tp (And.intro tg hlen)))))
      clear m4 s4 h3 t3 m2 m3 s2 s3 up upp tx tp tg hlen
      have fin : Hid (∀ (y : World) (T5 T6 : Tb) (sub5 sub6 : Nat → List Nat) (q : Nat), Ms N v seq x T4 T5 sub5 → (sub4 x).length ≤ (sub5 x).length → (T5 x).up = q → q ≠ 0 → Mv N v seq x T5 sub5 T6 sub6 → Lft x q T5 sub5 T6 sub6 → Fo y fb nb n N (real T6 pp) → Turned (fun k => k = nb) w y →
          Hid (∃ T1 sub1, Fo y fb nb n N (real T1 pp) ∧ Ms N v seq x T T1 sub1 ∧ Turned (fun k => k = nb) w y) ∧ ms nb x N y < ms nb x N wr) := fun y T5 T6 sub5 sub6 q a1 a2 a3 a4 a5 a6 a7 a8 => by
        refine ⟨⟨T6, sub6, a7, ((mh.out.trans mm.out).trans a1).trans a5.ms, a8⟩, ?_⟩
        rw [hms.out, ms_is a7 a5.gd hx, a6.sx]
        have h1 := a1.gd.inv.up_lt hx0h.out (by rw [a3]; exact a4)
        rw [a3] at h1
        have h2 := fl.out.2.2.2.2.2
        have h3 := a1.gd.len q
        omega
      have hwp := where_ok fb nb n N p (real T4 pp) w4 h4.out hpN (hL4.out.up_lt p)
      have h5 := hid h4.out.drew
      have t5 := hid t4.out.drew
      by_cases hg : g = 0
      · rw [hL4.out.where_top hph.out (fl.out.2.1.trans hg)] at hwp
        have hwp := hid hwp
        clear hg
        go_wp2_with fail
        refine hwp.out.mono ?_
        rintro e w' ⟨rfl, rfl⟩
        generalize w4.drew = w5 at h5 t5 ⊢
        go_wp2_with fail
        refine (lift_gd fb nb n x _ h5.out hL4.out hx0h.out p fl.out.1 hph.out fl.out.2.2.1 fl.out.2.2.2.1).mono ?_
        rintro e w6 ⟨rfl, T5, sub5, h6, m5, l5, t6⟩
        have fin2 := hid (fin.out w6 T4 T5 sub4 sub5 p (Ms.refl mm.out.gd x) (Nat.le_refl _) fl.out.1 hph.out m5 l5 h6 (t5.out.trans t6))
        clear h6 m5 l5 t6 fin
        go_wp2_with fail
        go_roundw
        case rel => exact fin2.out.1
        case measure => exact fin2.out.2
      · rw [hL4.out.where_in hph.out (by rw [fl.out.2.1]; exact hg)] at hwp
        have hgh := hid hg
        clear hg
        have hw2 := where_ok fb nb n N x (real T4 pp) w4.drew h5.out hx (hL4.out.up_lt x)
        rw [hL4.out.where_in hx0h.out (by rw [fl.out.1]; exact hph.out)] at hw2
        obtain ⟨P, hP⟩ : ∃ P, sI (whr T4 p) = P := ⟨_, rfl⟩
        obtain ⟨X, hX⟩ : ∃ X, sI (whr T4 x) = X := ⟨_, rfl⟩
        rw [hP] at hwp
        rw [hX] at hw2
        have tP : (P == 2) = false := by rw [← hP]; cases whr T4 p <;> rfl
        have hwp := hid hwp
        have hw2 := hid hw2
        have h6 := hid h5.out.drew
        have t6 := hid t5.out.drew
        by_cases hz : whr T4 p = whr T4 x
        · have tz : (P == X) = true := by rw [← hP, ← hX, hz]; simp
          have hzh := hid hz
          clear hP hX hz
          go_wp2_with fail
          refine hwp.out.mono ?_
          rintro e w' ⟨rfl, rfl⟩
          go_wp2_with fail
          refine hw2.out.mono ?_
          rintro e w' ⟨rfl, rfl⟩
          generalize w4.drew.drew = w6 at h6 t6 ⊢
          clear h5 t5
          go_wp2_with fail
          refine (lift_gd fb nb n p _ h6.out hL4.out hph.out g fl.out.2.1 hgh.out fl.out.2.2.2.1 (fl.out.2.2.2.2.1 hgh.out)).mono ?_
          rintro e w7 ⟨rfl, T6, sub6, h7, m6, l6, t7⟩
          obtain ⟨m7, u7, tx7, tp7, e7⟩ := zigzig mm.out.gd hx0h.out fl.out.1 hph.out fl.out.2.1 hgh.out fl.out.2.2.1 fl.out.2.2.2.1 hzh.out m6 l6
          have h7 := hid h7
          have t7 := hid (t6.out.trans t7)
          have m7 := hid m7
          have f7 := hid (And.intro u7 (And.intro tx7 (And.intro tp7 e7)))
          have hL7 := hid (hLh.out.of m7.out.gd)
          clear m6 l6 u7 tx7 tp7 e7 h6 t6
          go_wp2_with fail
          refine (lift_gd fb nb n x _ h7.out hL7.out hx0h.out p f7.out.1 hph.out f7.out.2.1 f7.out.2.2.1).mono ?_
          rintro e w8 ⟨rfl, T8, sub8, h8, m8, l8, t8⟩
          have fin2 := hid (fin.out w8 T6 T8 sub6 sub8 p m7.out.ms (by rw [f7.out.2.2.2]; exact Nat.le_refl _) f7.out.1 hph.out m8 l8 h8 (t7.out.trans t8))
          clear h8 m8 l8 t8 fin
          go_wp2_with fail
          go_roundw
          case rel => exact fin2.out.1
          case measure => exact fin2.out.2
        · have tz : (P == X) = false := by
            rw [← hP, ← hX]
            cases h1 : whr T4 p <;> cases h2 : whr T4 x <;> first | rfl | (exact absurd (h1.trans h2.symm) hz)
          clear hP hX hz
          go_wp2_with fail
          refine hwp.out.mono ?_
          rintro e w' ⟨rfl, rfl⟩
          go_wp2_with fail
          refine hw2.out.mono ?_
          rintro e w' ⟨rfl, rfl⟩
          generalize w4.drew.drew = w6 at h6 t6 ⊢
          clear h5 t5
          go_wp2_with fail
          refine (lift_gd fb nb n x _ h6.out hL4.out hx0h.out p fl.out.1 hph.out fl.out.2.2.1 fl.out.2.2.2.1).mono ?_
          rintro e w7 ⟨rfl, T6, sub6, h7, m6, l6, t7⟩
          have h7 := hid h7
          have t7 := hid (t6.out.trans t7)
          have m7 := hid m6.ms
          have hL7 := hid (hLh.out.of m6.gd)
          have f7 : Hid ((T6 x).up = g ∧ (T6 x).t = false ∧ (T6 g).t = false ∧ (sub4 x).length ≤ (sub6 x).length) := ⟨by rw [l6.up]; exact fl.out.2.1, by rw [l6.t]; exact fl.out.2.2.1, by rw [l6.t]; exact fl.out.2.2.2.2.1 hgh.out, by
            rw [l6.sx]
            have := mm.out.gd.inv.up_lt hx0h.out (by rw [fl.out.1]; exact hph.out)
            rw [fl.out.1] at this
            omega⟩
          clear m6 l6 h6 t6
          go_wp2_with fail
          refine (lift_gd fb nb n x _ h7.out hL7.out hx0h.out g f7.out.1 hgh.out f7.out.2.1 f7.out.2.2.1).mono ?_
          rintro e w8 ⟨rfl, T8, sub8, h8, m8, l8, t8⟩
          have fin2 := hid (fin.out w8 T6 T8 sub6 sub8 g m7.out f7.out.2.2.2 f7.out.1 hgh.out m8 l8 h8 (t7.out.trans t8))
          clear h8 m8 l8 t8 fin
          go_wp2_with fail
          go_roundw
          case rel => exact fin2.out.1
          case measure => exact fin2.out.2

end Go.Proofs.YtnkgpjjlgbggcaaDoor
