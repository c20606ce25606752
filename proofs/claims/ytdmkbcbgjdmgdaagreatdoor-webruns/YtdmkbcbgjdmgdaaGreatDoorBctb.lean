/- 'settle' and 'lift' among stretches; 'raise', walked. 'reach', walked: the table grows. 'look', walked: are there these items? Where a call of the Forest stands; 'expose', 'root', 'size', 'node', 'place', walked. 'stretch' and 'road', walked. -/
import Derived.Test.YtdmkbcbgjdmgdaaGreatDoorBct
import Derived.Laws.CopyOwn
import Derived.OwnWalk
import Derived.Deep.Cut
import Derived.Deep.RegionHeld3
import Derived.Deep.QuietTactic
import Derived.BigQuiet
namespace Go.Proofs.YtdmkbcbgjdmgdaaGreatDoor.Ct
open Go.RowKit
set_option linter.unusedVariables false

/-- From one table to another one: the stretches stay; of other ones what is above each, too. -/
structure Ms (N : Nat) (v : Nat → Int) (seq : Nat → List Nat) (x : Nat) (T : Tb) (T' : Tb) (sub' : Nat → List Nat) : Prop where
  gd : Gd N T' v sub' seq
  fr : ∀ y, y ≠ 0 → seq y ≠ seq x → (T' y).up = (T y).up

section
variable {T T' T'' T1 T2 T3 : Tb} {v : Nat → Int} {sub sub' sub'' sub1 sub2 sub3 seq : Nat → List Nat} {N : Nat} {pp par : Nat → Nat}

theorem Ms.refl (h : Gd N T v sub seq) (x : Nat) : Ms N v seq x T T sub := ⟨h, fun _ _ _ => rfl⟩
theorem Ms.trans {x : Nat} (h : Ms N v seq x T T' sub') (k : Ms N v seq x T' T'' sub'') : Ms N v seq x T T'' sub'' := ⟨k.gd, fun y h0 hy => (k.fr y h0 hy).trans (h.fr y h0 hy)⟩
theorem Ms.at {x z : Nat} (h : Ms N v seq x T T' sub') (e : seq x = seq z) : Ms N v seq z T T' sub' := ⟨h.gd, by rw [← e]; exact h.fr⟩
theorem Mv.ms {x : Nat} (h : Mv N v seq x T sub T' sub') : Ms N v seq x T T' sub' := ⟨h.gd, fun y h0 hy => by rw [(h.fr y (fun _ => hy)).1]⟩

/-- Three spots settled, one above the other. -/
theorem settle6 (h : Gd N T v sub seq) {x p g G : Nat} (hx : x ≠ 0) (ep : (T x).up = p) (hp : p ≠ 0) (eg : (T p).up = g) (hG : g ≠ 0 → G = g)
    (s1 : Stl G T sub T1 sub1) (s2 : Stl p T1 sub1 T2 sub2) (m3 : Gd N T3 v sub3 seq) (s3 : Stl x T2 sub2 T3 sub3) :
    Ms N v seq x T T3 sub3 ∧ (T3 x).up = p ∧ (T3 p).up = g ∧ (T3 x).t = false ∧ (T3 p).t = false ∧ (g ≠ 0 → (T3 g).t = false) ∧ (sub3 x).length = (sub x).length := by
  have u1 : ∀ y, (T3 y).up = (T y).up := fun y => by rw [s3.up, s2.up, s1.up]
  have lpx : (sub x).length < (sub p).length := by have := h.inv.up_lt hx (by rw [ep]; exact hp); rw [ep] at this; exact this
  have lgp : g ≠ 0 → (sub p).length < (sub g).length := fun hg => by have := h.inv.up_lt hp (by rw [eg]; exact hg); rw [eg] at this; exact this
  have npx : p ≠ x := fun e => by rw [e] at lpx; omega
  refine ⟨⟨m3, fun y _ _ => u1 y⟩, by rw [u1]; exact ep, by rw [u1]; exact eg, s3.t, ?_, fun hg => ?_, by rw [s3.len, s2.len, s1.len]⟩
  · rw [s3.o p npx (fun _ e => by rw [s2.up, s1.up, eg] at e; by_cases hg : g = 0; exact hx (e.symm.trans hg); have := lgp hg; rw [e] at this; omega)]
    exact s2.t
  · have n1 : g ≠ x := fun e => by have := lgp hg; rw [e] at this; omega
    have n2 : g ≠ p := fun e => by have := lgp hg; rw [e] at this; omega
    have lu : (T g).up ≠ 0 → (sub g).length < (sub (T g).up).length := fun hu => h.inv.up_lt hg hu
    have := lgp hg
    rw [s3.o g n1 (fun _ e => by rw [s2.up, s1.up] at e; have := lu (by rw [e]; exact hx); rw [e] at this; omega), s2.o g n2 (fun _ e => by rw [s1.up] at e; have := lu (by rw [e]; exact hp); rw [e] at this; omega), ← hG hg]
    exact s1.t
end

section
variable {T : Tb} {v : Nat → Int} {sub seq : Nat → List Nat} {N : Nat} {pp par : Nat → Nat}

theorem settle_gd (fb nb n x : Nat) (w : World) (h : Fo w fb nb n N (real T pp)) (hG : Gd N T v sub seq) (hx : x < N) :
    Calls Tryz.prog 120 #[.pointer (some ⟨fb, 0, none⟩), .int .i32 (x : Int)] w fun e w' => e = .returned (.tuple #[]) ∧ ∃ T' sub', Fo w' fb nb n N (real T' pp) ∧ Mv N v seq x T sub T' sub' ∧ Stl x T sub T' sub' ∧ Turned (fun k => k = nb) w w' := by
  obtain ⟨sub', m, s⟩ := hG.settle x
  refine (settle_ok fb nb n N x (real T pp) w h hx (hG.l_lt x) (hG.r_lt x)).mono ?_
  rintro e w' ⟨rfl, h2, t2⟩
  exact ⟨rfl, _, sub', by rw [real_settle]; exact h2, m, s, t2⟩

theorem lift_gd (fb nb n x : Nat) (w : World) (h : Fo w fb nb n N (real T pp)) (hL : Lc N T v sub seq pp par) (hx0 : x ≠ 0) (p : Nat) (ep : (T x).up = p) (hp : p ≠ 0) (tx : (T x).t = false) (tp : (T p).t = false) :
    Calls Tryz.prog 121 #[.pointer (some ⟨fb, 0, none⟩), .int .i32 (x : Int)] w fun e w' => e = .returned (.tuple #[]) ∧ ∃ T' sub', Fo w' fb nb n N (real T' pp) ∧ Mv N v seq x T sub T' sub' ∧ Lft x p T sub T' sub' ∧ Turned (fun k => k = nb) w w' := by
  subst ep
  have hG := hL.gd
  obtain ⟨sub', m, s⟩ := hG.lift hx0 hp tx tp
  obtain ⟨p', b, g, c, a, sd, hp', nn⟩ := hG.inv.near hx0 hp
  have e1 := nn.ep
  refine (lift_ok fb nb n x p' b g c a sd w h hL hx0 hp' nn (hG.lt hp) (by rw [← e1]; exact hG.up_lt x) (by rw [← nn.eb]; exact hG.k_lt x _) (by rw [← nn.ec]; exact hG.k_lt _ _) (by rw [← nn.ea]; exact hG.k_lt _ _)).mono ?_
  rintro e w' ⟨rfl, h2, t2⟩
  exact ⟨rfl, _, sub', h2, m, s, t2⟩

/-- How far a spot is from the top, at most. -/
def ms (nb x N : Nat) (w : World) : Nat := match w.cell? ⟨nb, x * 9 + 4, none⟩ with
  | some (.int _ k) => N + 1 - (k + 1).toNat
  | _ => 0

theorem ms_is {fb nb n x : Nat} {w : World} (h : Fo w fb nb n N (real T pp)) (hG : Gd N T v sub seq) (hx : x < N) : ms nb x N w = N + 1 - (sub x).length := by
  unfold ms
  rw [h.rest hx]
  have := (hG.inv.tal x).rest
  show N + 1 - ((T x).rest + 1).toNat = _
  omega
end

set_option maxRecDepth 100000 in
set_option maxHeartbeats 2000000 in
theorem raise_ok (fb nb n N x : Nat) (T : Tb) (v : Nat → Int) (sub seq : Nat → List Nat) (pp par : Nat → Nat) (w : World) (h : Fo w fb nb n N (real T pp)) (hL : Lc N T v sub seq pp par) (hx0 : x ≠ 0) (hx : x < N) :
    Calls Tryz.prog 92 #[.pointer (some ⟨fb, 0, none⟩), .int .i32 (x : Int)] w fun e w' => e = .returned (.tuple #[]) ∧ ∃ T' sub', Fo w' fb nb n N (real T' pp) ∧ Ms N v seq x T T' sub' ∧ (T' x).up = 0 ∧ (T' x).t = false ∧ Turned (fun k => k = nb) w w' := by
  have hbig := h.big
  have q1 : (0 : Int) ≤ (x : Int) := by omega
  have q2 : (x : Int) < (N : Int) := by omega
  have hx0h := hid hx0
  have st : Hid (∃ T1 sub1, Fo w fb nb n N (real T1 pp) ∧ Ms N v seq x T T1 sub1 ∧ Turned (fun k => k = nb) w w) := ⟨T, sub, h, Ms.refl hL.gd x, Turned.refl _ _⟩
  have hLh := hid hL
  clear h hx0 hL
  go_enter Tryz.func92, Tryz.ntmps92
  go_wp2_with fail
  go_loopw [4] (fun _ wr => Hid (∃ T1 sub1, Fo wr fb nb n N (real T1 pp) ∧ Ms N v seq x T T1 sub1 ∧ Turned (fun k => k = nb) w wr)) (fun _ wr => ms nb x N wr)
  case atStart => exact st
  case round =>
    clear st
    obtain ⟨T1, sub1, h1, m1, t1⟩ := hrel.out
    clear hrel
    obtain ⟨p, ep⟩ : ∃ p, (T1 x).up = p := ⟨_, rfl⟩
    have hms := hid (ms_is h1 m1.gd hx)
    have hL1 := hid (hLh.out.of m1.gd)
    have hwh := where_ok fb nb n N x (real T1 pp) wr h1 hx (hL1.out.up_lt x)
    have hh := hid h1.drew
    have th := hid t1.drew
    have mh := hid m1
    have eph := hid ep
    have hms2 : Hid (ms nb x N wr.drew = ms nb x N wr) := hid rfl
    by_cases hp : p = 0
    · rw [hL1.out.where_top hx0h.out (ep.trans hp)] at hwh
      have hwh := hid hwh
      have eph2 := hid (ep.trans hp)
      clear h1 m1 t1 ep hp
      go_wp2_with fail
      refine hwh.out.mono ?_
      rintro e w' ⟨rfl, rfl⟩
      generalize wr.drew = w1 at hh th ⊢
      go_wp2_with fail
      refine (settle_gd fb nb n x _ hh.out mh.out.gd hx).mono ?_
      rintro e w2 ⟨rfl, T2, sub2, h2, m2, s2, t2⟩
      have fin : Hid (∃ T' sub', Fo w2 fb nb n N (real T' pp) ∧ Ms N v seq x T T' sub' ∧ (T' x).up = 0 ∧ (T' x).t = false ∧ Turned (fun k => k = nb) w w2) := ⟨T2, sub2, h2, mh.out.trans m2.ms, by rw [s2.up]; exact eph2.out, s2.t, th.out.trans t2⟩
      clear h2 m2 s2 t2
      go_wp2_with fail
      go_end0
      exact ⟨rfl, fin.out⟩
    · rw [hL1.out.where_in hx0h.out (by rw [ep]; exact hp)] at hwh
      obtain ⟨C, hC⟩ : ∃ C, sI (whr T1 x) = C := ⟨_, rfl⟩
      rw [hC] at hwh
      have tC : (C != 2) = true := by rw [← hC]; cases whr T1 x <;> rfl
      have hwh := hid hwh
      have hpN : p < N := by rw [← ep]; exact m1.gd.up_lt x
      obtain ⟨g, eg⟩ : ∃ g, (T1 p).up = g := ⟨_, rfl⟩
      obtain ⟨G, eG⟩ : ∃ G, (real T1 pp p).up = G := ⟨_, rfl⟩
      have hGN : G < N := by rw [← eG]; exact hL1.out.up_lt p
      have hGg : Hid (g ≠ 0 → G = g) := hid (fun hg => by rw [← eG, real_up1 (by rw [eg]; exact hg), eg])
      have c1 := hh.out.c1
      have cu : wr.drew.cell? ⟨nb, x * 9 + 5, none⟩ = some (.int .i32 (p : Int)) := by rw [← ep, ← real_up1 (T := T1) (pp := pp) (x := x) (by rw [ep]; exact hp)]; exact hh.out.up hx
      have cg : wr.drew.cell? ⟨nb, p * 9 + 5, none⟩ = some (.int .i32 (G : Int)) := by rw [← eG]; exact hh.out.up hpN
      have q3 : (0 : Int) ≤ (p : Int) := by omega
      have q4 : (p : Int) < (N : Int) := by omega
      have hph := hid hp
      have egh := hid eg
      clear h1 m1 t1 ep eg hp eG hC
      go_wp2_with fail
      refine hwh.out.mono ?_
      rintro e w' ⟨rfl, rfl⟩
      generalize wr.drew = w1 at hh th c1 cu cg hms2 ⊢
      clear hwh
      go_wp2_with fail
      refine (settle_gd fb nb n G _ hh.out mh.out.gd hGN).mono ?_
      rintro e w2 ⟨rfl, T2, sub2, h2, m2, s2, t2⟩
      have h2 := hid h2
      have m2 := hid m2
      have s2 := hid s2
      have t2 := hid (th.out.trans t2)
      clear hh th c1 cu cg
      go_wp2_with fail
      refine (settle_gd fb nb n p _ h2.out m2.out.gd hpN).mono ?_
      rintro e w3 ⟨rfl, T3, sub3, h3, m3, s3, t3⟩
      have h3 := hid h3
      have m3 := hid m3
      have s3 := hid s3
      have t3 := hid (t2.out.trans t3)
      clear h2 t2
      go_wp2_with fail
      refine (settle_gd fb nb n x _ h3.out m3.out.gd hx).mono ?_
      rintro e w4 ⟨rfl, T4, sub4, h4, m4, s4, t4⟩
      obtain ⟨mm, up, upp, tx, tp, tg, hlen⟩ := settle6 mh.out.gd hx0h.out eph.out hph.out egh.out hGg.out s2.out s3.out m4.gd s4
      have h4 := hid h4
      have t4 := hid (t3.out.trans t4)
      have mm := hid mm
      have hL4 := hid (hLh.out.of mm.out.gd)
      have fl := hid (And.intro up (And.intro upp (And.intro tx (And.intro tp (And.intro tg hlen)))))
      clear m4 s4 h3 t3 m2 m3 s2 s3 up upp tx tp tg hlen
      have fin : Hid (∀ (y : World) (T5 T6 : Tb) (sub5 sub6 : Nat → List Nat) (q : Nat), Ms N v seq x T4 T5 sub5 → (sub4 x).length ≤ (sub5 x).length → (T5 x).up = q → q ≠ 0 → Mv N v seq x T5 sub5 T6 sub6 → Lft x q T5 sub5 T6 sub6 → Fo y fb nb n N (real T6 pp) → Turned (fun k => k = nb) w y →
          Hid (∃ T1 sub1, Fo y fb nb n N (real T1 pp) ∧ Ms N v seq x T T1 sub1 ∧ Turned (fun k => k = nb) w y) ∧ ms nb x N y < ms nb x N wr) := fun y T5 T6 sub5 sub6 q a1 a2 a3 a4 a5 a6 a7 a8 => by
        refine ⟨⟨T6, sub6, a7, ((mh.out.trans mm.out).trans a1).trans a5.ms, a8⟩, ?_⟩
        rw [hms.out, ms_is a7 a5.gd hx, a6.sx]
        have h1 := a1.gd.inv.up_lt hx0h.out (by rw [a3]; exact a4)
        rw [a3] at h1
        have h2 := fl.out.2.2.2.2.2
        have h3 := a1.gd.len q
        omega
      have hwp := where_ok fb nb n N p (real T4 pp) w4 h4.out hpN (hL4.out.up_lt p)
      have h5 := hid h4.out.drew
      have t5 := hid t4.out.drew
      by_cases hg : g = 0
      · rw [hL4.out.where_top hph.out (fl.out.2.1.trans hg)] at hwp
        have hwp := hid hwp
        clear hg
        go_wp2_with fail
        refine hwp.out.mono ?_
        rintro e w' ⟨rfl, rfl⟩
        generalize w4.drew = w5 at h5 t5 ⊢
        go_wp2_with fail
        refine (lift_gd fb nb n x _ h5.out hL4.out hx0h.out p fl.out.1 hph.out fl.out.2.2.1 fl.out.2.2.2.1).mono ?_
        rintro e w6 ⟨rfl, T5, sub5, h6, m5, l5, t6⟩
        have fin2 := hid (fin.out w6 T4 T5 sub4 sub5 p (Ms.refl mm.out.gd x) (Nat.le_refl _) fl.out.1 hph.out m5 l5 h6 (t5.out.trans t6))
        clear h6 m5 l5 t6 fin
        go_wp2_with fail
        go_roundw
        case rel => exact fin2.out.1
        case measure => exact fin2.out.2
      · rw [hL4.out.where_in hph.out (by rw [fl.out.2.1]; exact hg)] at hwp
        have hgh := hid hg
        clear hg
        have hw2 := where_ok fb nb n N x (real T4 pp) w4.drew h5.out hx (hL4.out.up_lt x)
        rw [hL4.out.where_in hx0h.out (by rw [fl.out.1]; exact hph.out)] at hw2
        obtain ⟨P, hP⟩ : ∃ P, sI (whr T4 p) = P := ⟨_, rfl⟩
        obtain ⟨X, hX⟩ : ∃ X, sI (whr T4 x) = X := ⟨_, rfl⟩
        rw [hP] at hwp
        rw [hX] at hw2
        have tP : (P == 2) = false := by rw [← hP]; cases whr T4 p <;> rfl
        have hwp := hid hwp
        have hw2 := hid hw2
        have h6 := hid h5.out.drew
        have t6 := hid t5.out.drew
        by_cases hz : whr T4 p = whr T4 x
        · have tz : (P == X) = true := by rw [← hP, ← hX, hz]; simp
          have hzh := hid hz
          clear hP hX hz
          go_wp2_with fail
          refine hwp.out.mono ?_
          rintro e w' ⟨rfl, rfl⟩
          go_wp2_with fail
          refine hw2.out.mono ?_
          rintro e w' ⟨rfl, rfl⟩
          generalize w4.drew.drew = w6 at h6 t6 ⊢
          clear h5 t5
          go_wp2_with fail
          refine (lift_gd fb nb n p _ h6.out hL4.out hph.out g fl.out.2.1 hgh.out fl.out.2.2.2.1 (fl.out.2.2.2.2.1 hgh.out)).mono ?_
          rintro e w7 ⟨rfl, T6, sub6, h7, m6, l6, t7⟩
          obtain ⟨m7, u7, tx7, tp7, e7⟩ := zigzig mm.out.gd hx0h.out fl.out.1 hph.out fl.out.2.1 hgh.out fl.out.2.2.1 fl.out.2.2.2.1 hzh.out m6 l6
          have h7 := hid h7
          have t7 := hid (t6.out.trans t7)
          have m7 := hid m7
          have f7 := hid (And.intro u7 (And.intro tx7 (And.intro tp7 e7)))
          have hL7 := hid (hLh.out.of m7.out.gd)
          clear m6 l6 u7 tx7 tp7 e7 h6 t6
          go_wp2_with fail
          refine (lift_gd fb nb n x _ h7.out hL7.out hx0h.out p f7.out.1 hph.out f7.out.2.1 f7.out.2.2.1).mono ?_
          rintro e w8 ⟨rfl, T8, sub8, h8, m8, l8, t8⟩
          have fin2 := hid (fin.out w8 T6 T8 sub6 sub8 p m7.out.ms (by rw [f7.out.2.2.2]; exact Nat.le_refl _) f7.out.1 hph.out m8 l8 h8 (t7.out.trans t8))
          clear h8 m8 l8 t8 fin
          go_wp2_with fail
          go_roundw
          case rel => exact fin2.out.1
          case measure => exact fin2.out.2
        · have tz : (P == X) = false := by
            rw [← hP, ← hX]
            cases h1 : whr T4 p <;> cases h2 : whr T4 x <;> first | rfl | (exact absurd (h1.trans h2.symm) hz)
          clear hP hX hz
          go_wp2_with fail
          refine hwp.out.mono ?_
          rintro e w' ⟨rfl, rfl⟩
          go_wp2_with fail
          refine hw2.out.mono ?_
          rintro e w' ⟨rfl, rfl⟩
          generalize w4.drew.drew = w6 at h6 t6 ⊢
          clear h5 t5
          go_wp2_with fail
          refine (lift_gd fb nb n x _ h6.out hL4.out hx0h.out p fl.out.1 hph.out fl.out.2.2.1 fl.out.2.2.2.1).mono ?_
          rintro e w7 ⟨rfl, T6, sub6, h7, m6, l6, t7⟩
          have h7 := hid h7
          have t7 := hid (t6.out.trans t7)
          have m7 := hid m6.ms
          have hL7 := hid (hLh.out.of m6.gd)
          have f7 : Hid ((T6 x).up = g ∧ (T6 x).t = false ∧ (T6 g).t = false ∧ (sub4 x).length ≤ (sub6 x).length) := ⟨by rw [l6.up]; exact fl.out.2.1, by rw [l6.t]; exact fl.out.2.2.1, by rw [l6.t]; exact fl.out.2.2.2.2.1 hgh.out, by
            rw [l6.sx]
            have := mm.out.gd.inv.up_lt hx0h.out (by rw [fl.out.1]; exact hph.out)
            rw [fl.out.1] at this
            omega⟩
          clear m6 l6 h6 t6
          go_wp2_with fail
          refine (lift_gd fb nb n x _ h7.out hL7.out hx0h.out g f7.out.1 hgh.out f7.out.2.1 f7.out.2.2.1).mono ?_
          rintro e w8 ⟨rfl, T8, sub8, h8, m8, l8, t8⟩
          have fin2 := hid (fin.out w8 T6 T8 sub6 sub8 g m7.out f7.out.2.2.2 f7.out.1 hgh.out m8 l8 h8 (t7.out.trans t8))
          clear h8 m8 l8 t8 fin
          go_wp2_with fail
          go_roundw
          case rel => exact fin2.out.1
          case measure => exact fin2.out.2

end Go.Proofs.YtdmkbcbgjdmgdaaGreatDoor.Ct

namespace Go.Proofs.YtdmkbcbgjdmgdaaGreatDoor.Ct
open Go.RowKit
set_option linter.unusedVariables false

theorem flat_add (T : Tb) (N : Nat) : ∀ d, flat T (N + d) = flat T N ++ flat (fun i => T (N + i)) d
  | 0 => by simp [flat]
  | d + 1 => by
    rw [show N + (d + 1) = (N + d) + 1 from rfl]
    simp only [flat]
    rw [flat_add T N d, List.append_assoc]

theorem flat_over {T Z : Tb} {N K : Nat} (h : N ≤ K) (hz : ∀ i, N ≤ i → T i = Z i) : flat T N ++ (flat Z K).drop (flat T N).length = flat T K := by
  obtain ⟨d, rfl⟩ : ∃ d, K = N + d := ⟨K - N, by omega⟩
  rw [flat_add Z N d, flat_add T N d, flat_length, List.drop_left' (flat_length Z N)]
  congr 1
  exact flat_congr (fun i _ => (hz (N + i) (by omega)).symm)

def zn : Array Value := #[.int .i64 0, .int .i64 0, .int .i64 0, .int .i64 0, .int .i32 0, .int .i32 0, .int .i32 0, .int .i32 0, .bool false]

theorem made_flat (K : Nat) : madeCells zn (K * 9) = (flat (fun _ => nd0) K).toArray := by
  apply Array.ext
  · simp [madeCells, flat_length]
  · intro j h1 h2
    have hj : j < K * 9 := by simpa [madeCells] using h1
    have e := flat_get (fun _ => nd0) K (j / 9) (j % 9) (by omega) (Nat.mod_lt _ (by decide))
    rw [show j / 9 * 9 + j % 9 = j from by omega] at e
    have e2 : (flat (fun _ => nd0) K)[j]? = some ((flat (fun _ => nd0) K).toArray[j]) := by simp
    rw [e2] at e
    have hm : j % 9 < 9 := Nat.mod_lt _ (by decide)
    have key : ∀ k, k < 9 → (nc nd0)[k]? = some (zn[k]!) := fun k hk => match k, hk with
      | 0, _ => rfl | 1, _ => rfl | 2, _ => rfl | 3, _ => rfl | 4, _ => rfl | 5, _ => rfl | 6, _ => rfl | 7, _ => rfl | 8, _ => rfl
    rw [key _ hm] at e
    injection e with e
    rw [e]
    simp [madeCells, zn]

theorem infoNode : (Tryz.prog.info? 101).map (fun i => (i.zero.map Value.cells, i.size, i.bytes)) = some (some zn, 9, 56) := by kernel_rfl

theorem sizeNode : (Tryz.prog.info? 101).map (·.size) = some 9 := by kernel_rfl

theorem make_nodes (K : Nat) (hK : K ≤ 8388609) (w : World) :
    (Instr.makeSlice 103 (.int .i64 (K : Int)) (.int .i64 (K : Int))).run Tryz.prog w = .ok (.slice (some ⟨w.heap.size, 0, none⟩) K K) (w.alloc (.cells (flat (fun _ => nd0) K).toArray 101)) := by
  obtain ⟨i0, hi, e⟩ : ∃ i, Tryz.prog.info? 101 = some i ∧ (i.zero.map Value.cells, i.size, i.bytes) = (some zn, 9, 56) := by
    have := infoNode
    cases h : Tryz.prog.info? 101 with
    | none => rw [h] at this; cases this
    | some i => rw [h] at this; exact ⟨i, rfl, Option.some.inj this⟩
  have e1 : i0.zero.map Value.cells = some zn := congrArg Prod.fst e
  have e2 : i0.size = 9 := congrArg (fun p => p.2.1) e
  have e3 : i0.bytes = 56 := congrArg (fun p => p.2.2) e
  clear e
  cases hz : i0.zero with
  | none => rw [hz] at e1; cases e1
  | some z =>
    rw [hz] at e1
    have ez : z.cells = zn := Option.some.inj e1
    have h := run_make (P := Tryz.prog) w 103 101 i0 z Tryz.underlying103 hi hz .i64 .i64 K K (by omega) (Int.le_refl _) (by rw [e3]; omega) (by omega)
    rw [h]
    simp only [Int.toNat_natCast, e2, ez, made_flat]

theorem nc_one (n : Nd) : ∀ u ∈ nc n, u.oneCell' = true := by
  intro u hu
  simp only [nc, List.mem_cons, List.mem_nil_iff, or_false] at hu
  rcases hu with rfl | rfl | rfl | rfl | rfl | rfl | rfl | rfl | rfl <;> rfl

theorem flat_one (T : Tb) : ∀ N, ∀ u ∈ flat T N, u.oneCell' = true
  | 0, u, hu => by cases hu
  | N + 1, u, hu => by
    rcases List.mem_append.1 hu with h | h
    · exact flat_one T N u h
    · exact nc_one _ u h

/-- Nodes copied over the begin of new ones. -/
theorem copy_nodes {w : World} {g b N K : Nat} {T : Tb} (h1 : w.heap[g]? = some (.cells (flat (fun _ => nd0) K).toArray 101 (0, 0))) (h2 : w.heap[b]? = some (.cells (flat T N).toArray 101 (0, 0))) (hNK : N ≤ K) (hz : ∀ i, N ≤ i → T i = nd0) (ty : TypeId) :
    (Builtin.copy_ #[103, 103] ty #[.slice (some ⟨g, 0, none⟩) K K, .slice (some ⟨b, 0, none⟩) N N]).run Tryz.prog w = .ok (goInt N) (w.setRow g (flat T K).toArray) := by
  have hsrc : ∀ j u, (flat T N)[j]? = some u → w.cell? ((⟨b, 0, none⟩ : Addr).add j) = some u := by
    intro j u hu
    rw [show (⟨b, 0, none⟩ : Addr).add j = ⟨b, j, none⟩ from by unfold Addr.add; split <;> simp_all]
    unfold World.cell?
    rw [h2]
    simpa using hu
  have hl := run_loadCells_list (P := Tryz.prog) w ⟨b, 0, none⟩ (flat T N) hsrc
  have hst := run_storeCells_at Tryz.prog g 0 101 (flat T N) 0 _ w h1 (by simp [flat_length]; omega) (flat_one T N)
  have e : (flat T N ++ (flat (fun _ => nd0) K).drop (flat T N).length) = flat T K := flat_over hNK hz
  have hmin : Nat.min N K = N := Nat.min_eq_left hNK
  rw [flat_length] at hl e
  simp only [List.take_zero, List.nil_append, Nat.zero_add, flat_length] at hst
  rw [e] at hst
  have hi : ∃ i, Tryz.prog.info? 101 = some i ∧ i.size = 9 := by
    have := sizeNode
    cases h : Tryz.prog.info? 101 with
    | none => rw [h] at this; cases this
    | some i => rw [h] at this; exact ⟨i, rfl, Option.some.inj this⟩
  obtain ⟨i, hq, hi⟩ := hi
  simp [Builtin.copy_, run_underlying Tryz.underlying103, Builtin.lenOf, Builtin.firstCells, sizeOf, typeInfo, hq, hi, hmin, hl, hst]

/-- The Forest with its table grown. -/
theorem Fo.grow {w : World} {fb nb n N K : Nat} {T : Tb} (h : Fo w fb nb n N T) (hK : K ≤ 8388609) :
    Fo (((w.alloc (.cells (flat (fun _ => nd0) K).toArray 101)).setRow w.heap.size (flat T K).toArray).setCell ⟨fb, 1, none⟩ (.slice (some ⟨w.heap.size, 0, none⟩) K K)) fb w.heap.size n K T ∧
    Turned (fun k => k = fb) w (((w.alloc (.cells (flat (fun _ => nd0) K).toArray 101)).setRow w.heap.size (flat T K).toArray).setCell ⟨fb, 1, none⟩ (.slice (some ⟨w.heap.size, 0, none⟩) K K)) := by
  have hlt := h.lt
  have hn := heap_alloc_new w (.cells (flat (fun _ => nd0) K).toArray 101)
  have o1 : ∀ k, k < w.heap.size → ((w.alloc (.cells (flat (fun _ => nd0) K).toArray 101)).setRow w.heap.size (flat T K).toArray).heap[k]? = w.heap[k]? := fun k hk =>
    (setRow_other _ _ _ _ (by omega)).trans (Below.heap_alloc _ _ _ hk)
  have e1 := setRow_heap _ w.heap.size _ (flat T K).toArray _ _ hn
  refine ⟨⟨?_, ?_, hK⟩, ⟨rfl, rfl, rfl, by simp [World.setRow], fun k hk hne => (Below.heap_setCell _ _ _ _ hne).trans (o1 k hk)⟩⟩
  · unfold World.setCell
    rw [Array.getElem?_modify, if_pos rfl, o1 fb hlt.1, h.self]
    simp
  · rw [Below.heap_setCell _ _ _ _ (by simp; omega)]
    exact e1

set_option maxRecDepth 100000 in
set_option maxHeartbeats 1000000 in
theorem reach_ok (fb nb n N x : Nat) (T : Tb) (w : World) (h : Fo w fb nb n N T) (hz : ∀ i, N ≤ i → T i = nd0) (hN1 : 1 ≤ N) (hNn : N ≤ n + 1) (hn : n ≤ 8388608) (hx : x < n) :
    Calls Tryz.prog 118 #[.pointer (some ⟨fb, 0, none⟩), .int .i64 (x : Int)] w fun e w' => e = .returned (.tuple #[]) ∧ ∃ nb' N', Fo w' fb nb' n N' T ∧ N ≤ N' ∧ N' ≤ n + 1 ∧ x + 1 < N' ∧ (nb' = nb ∨ w.heap.size ≤ nb') ∧ Turned (fun k => k = fb) w w' := by
  have hbig := h.big
  have c0 := h.c0
  have c1 := h.c1
  have f1 := h.f1
  by_cases hle : x + 2 ≤ N
  · have t1 : decide ((x : Int) + 2 ≤ (N : Int)) = true := decide_eq_true (by omega)
    have hh := hid h
    clear h
    go_enter Tryz.func118, Tryz.ntmps118
    go_wp2_with fail
    first | go_end0 | refine bodyPost_ret (results_none rfl _ _ _) rfl ?_
    exact ⟨rfl, nb, N, hh.out, Nat.le_refl _, hNn, by omega, Or.inl rfl, Turned.refl _ _⟩
  · have t1 : decide ((x : Int) + 2 ≤ (N : Int)) = false := decide_eq_false (by omega)
    have gr := hid (fun K (hK : K ≤ 8388609) => h.grow hK)
    have hne := h.ne
    have hlt := h.lt
    have hnew := hid (fun K => heap_alloc_new w (.cells (flat (fun _ => nd0) K).toArray 101))
    have hcp : Hid (∀ K, N ≤ K → ∀ ty, (Builtin.copy_ #[103, 103] ty #[.slice (some ⟨w.heap.size, 0, none⟩) K K, .slice (some ⟨nb, 0, none⟩) N N]).run Tryz.prog (w.alloc (.cells (flat (fun _ => nd0) K).toArray 101)) = .ok (goInt N) ((w.alloc (.cells (flat (fun _ => nd0) K).toArray 101)).setRow w.heap.size (flat T K).toArray)) :=
      fun K hK ty => copy_nodes (heap_alloc_new w _) ((Below.heap_alloc _ _ _ hlt.2).trans h.nodes) hK hz ty
    have hca : Hid (∀ K, (w.alloc (.cells (flat (fun _ => nd0) K).toArray 101)).cell? ⟨fb, 1, none⟩ = some (.slice (some ⟨nb, 0, none⟩) N N)) := fun K => (World.cell?_of_block (Below.heap_alloc _ _ _ hlt.1)).trans h.c1
    have hcb : Hid (∀ K, ((w.alloc (.cells (flat (fun _ => nd0) K).toArray 101)).setRow w.heap.size (flat T K).toArray).cell? ⟨fb, 1, none⟩ = some (.slice (some ⟨nb, 0, none⟩) N N)) := fun K => (World.cell?_of_block (setRow_other _ _ _ _ (by simp; omega))).trans (hca.out K)
    have hfb : Hid (∀ K, ((w.alloc (.cells (flat (fun _ => nd0) K).toArray 101)).setRow w.heap.size (flat T K).toArray).frozen? ⟨fb, 1, none⟩ = false) := fun K => by
      unfold World.frozen?
      rw [setRow_other _ _ _ _ (by simp; omega), Below.heap_alloc _ _ _ hlt.1, h.self]
      simp
    clear h hne hlt hnew
    have hcase : ∃ K : Nat, N ≤ K ∧ K ≤ n + 1 ∧ x + 1 < K ∧ ((K = x + 2 ∧ 2 * N ≤ K) ∨ (K = 2 * N ∧ x + 2 < K) ∨ (K = n + 1 ∧ x + 2 < 2 * N ∧ K < 2 * N)) := by
      by_cases h1 : 2 * N ≤ x + 2
      · exact ⟨x + 2, by omega, by omega, by omega, by omega⟩
      · by_cases h2 : 2 * N ≤ n + 1
        · exact ⟨2 * N, by omega, by omega, by omega, by omega⟩
        · exact ⟨n + 1, by omega, by omega, by omega, by omega⟩
    obtain ⟨K, k1, k2, k3, hc⟩ := hcase
    have hmk := make_nodes K (by omega) w
    have hcp := hcp.out K k1
    have hca := hid (hca.out K)
    have hcb := hid (hcb.out K)
    have hfb := hid (hfb.out K)
    have gr := hid (gr.out K (by omega))
    rcases hc with ⟨e, d⟩ | ⟨e, d⟩ | ⟨e, d, d2⟩
    · have eK : (x : Int) + 2 = (K : Int) := by omega
      have d1 : ¬ ((K : Int) < 2 * (N : Int)) := by omega
      have d2 : ¬ ((n : Int) + 1 < (K : Int)) := by omega
      have t1 : decide ((K : Int) ≤ (N : Int)) = false := decide_eq_false (by omega)
      clear e d hle
      go_enter Tryz.func118, Tryz.ntmps118
      go_upto_region 3 with fail
      have hca := hca.out
      generalize w.alloc (.cells (flat (fun _ => nd0) K).toArray 101) = w1 at hcp hca hcb hfb gr ⊢
      clear hmk c0 c1 f1
      go_upto_region 4 with fail
      have hcb := hcb.out
      have hfb := hfb.out
      generalize w1.setRow w.heap.size (flat T K).toArray = w2 at hcb hfb gr ⊢
      clear hcp hca
      go_wp2_with fail
      go_end0
      exact ⟨rfl, w.heap.size, K, gr.out.1, k1, k2, k3, Or.inr (Nat.le_refl _), gr.out.2⟩
    · have eK : 2 * (N : Int) = (K : Int) := by omega
      have d1 : (x : Int) + 2 < (K : Int) := by omega
      have d2 : ¬ ((n : Int) + 1 < (K : Int)) := by omega
      clear e d hle
      go_enter Tryz.func118, Tryz.ntmps118
      go_upto_region 3 with fail
      have hca := hca.out
      generalize w.alloc (.cells (flat (fun _ => nd0) K).toArray 101) = w1 at hcp hca hcb hfb gr ⊢
      clear hmk c0 c1 f1
      go_upto_region 4 with fail
      have hcb := hcb.out
      have hfb := hfb.out
      generalize w1.setRow w.heap.size (flat T K).toArray = w2 at hcb hfb gr ⊢
      clear hcp hca
      go_wp2_with fail
      go_end0
      exact ⟨rfl, w.heap.size, K, gr.out.1, k1, k2, k3, Or.inr (Nat.le_refl _), gr.out.2⟩
    · have eK : (n : Int) + 1 = (K : Int) := by omega
      have d1 : (x : Int) + 2 < 2 * (N : Int) := by omega
      have d3 : (K : Int) < 2 * (N : Int) := by omega
      clear e d d2 hle
      go_enter Tryz.func118, Tryz.ntmps118
      go_upto_region 3 with fail
      have hca := hca.out
      generalize w.alloc (.cells (flat (fun _ => nd0) K).toArray 101) = w1 at hcp hca hcb hfb gr ⊢
      clear hmk c0 c1 f1
      go_upto_region 4 with fail
      have hcb := hcb.out
      have hfb := hfb.out
      generalize w1.setRow w.heap.size (flat T K).toArray = w2 at hcb hfb gr ⊢
      clear hcp hca
      go_wp2_with fail
      go_end0
      exact ⟨rfl, w.heap.size, K, gr.out.1, k1, k2, k3, Or.inr (Nat.le_refl _), gr.out.2⟩
end Go.Proofs.YtdmkbcbgjdmgdaaGreatDoor.Ct

namespace Go.Proofs.YtdmkbcbgjdmgdaaGreatDoor.Ct
open Go.RowKit
set_option linter.unusedVariables false

/-- The block holds these numbers. -/
def Nums (w : World) (b : Nat) (xs : List Int) : Prop := w.heap[b]? = some (.cells (xs.map (fun z => Value.int .i64 z)).toArray 3 (0, 0))

theorem Nums.cell {w : World} {b j : Nat} {xs : List Int} {z : Int} (h : Nums w b xs) (hz : xs[j]? = some z) : w.cell? ⟨b, j, none⟩ = some (.int .i64 z) := by
  unfold World.cell?
  rw [h]
  simp [hz]

set_option maxRecDepth 100000 in
set_option maxHeartbeats 1000000 in
theorem look_nil (s : Value) (w : World) : Calls Tryz.prog 91 #[.pointer none, s] w fun e w' => e = .returned (.iface 63 (.int .i64 1)) ∧ w = w' := by
  go_enter Tryz.func91, Tryz.ntmps91
  go_wp2_with fail
  go_ret
  exact ⟨rfl, rfl⟩

set_option maxRecDepth 100000 in
set_option maxHeartbeats 1000000 in
theorem look_bad (fb b n : Nat) (xs : List Int) (w : World) (hn : w.cell? ⟨fb, 0, none⟩ = some (.int .i64 (n : Int))) (hb : Nums w b xs) (hl : xs.length ≤ 2) (hbad : ¬ ∀ z ∈ xs, 0 ≤ z ∧ z < (n : Int)) :
    Calls Tryz.prog 91 #[.pointer (some ⟨fb, 0, none⟩), .slice (some ⟨b, 0, none⟩) xs.length xs.length] w fun e w' => e = .returned (.iface 63 (.int .i64 12)) ∧ w = w' := by
  have hbh := hid hb
  have hbad := hid hbad
  clear hb
  go_enter Tryz.func91, Tryz.ntmps91
  go_wp2_with fail
  go_loop [6, 14] (fun _ u => ∃ j : Nat, j ≤ xs.length ∧ u = .int .i64 (j : Int) ∧ Hid (∀ k z, k < j → xs[k]? = some z → 0 ≤ z ∧ z < (n : Int))) (fun _ u => xs.length - (intOf u).toNat)
  case atStart => exact ⟨0, by omega, by go_num, fun k z hk => by omega⟩
  case round =>
    obtain ⟨j, hj, rfl, hok⟩ := hrel
    rcases Nat.lt_or_ge j xs.length with hlt | hge
    · obtain ⟨z, hz⟩ : ∃ z, xs[j]? = some z := ⟨_, List.getElem?_eq_getElem hlt⟩
      have hc := hbh.out.cell hz
      have hzh := hid hz
      clear hz
      by_cases h0 : z < 0
      · have t1 : decide (z < 0) = true := decide_eq_true h0
        go_wp2_with fail
        go_ret
        exact ⟨rfl, rfl⟩
      · have t1 : decide (z < 0) = false := decide_eq_false h0
        by_cases h1 : (n : Int) ≤ z
        · have t2 : decide ((n : Int) ≤ z) = true := decide_eq_true h1
          go_wp2_with fail
          go_ret
          exact ⟨rfl, rfl⟩
        · have t2 : decide ((n : Int) ≤ z) = false := decide_eq_false h1
          go_wp2_with fail
          go_round
          case rel =>
            refine ⟨j + 1, by omega, by go_num, fun k z' hk hz' => ?_⟩
            rcases Nat.lt_or_ge k j with h2 | h2
            · exact hok.out k z' h2 hz'
            · obtain rfl : k = j := by omega
              rw [hzh.out] at hz'
              cases hz'
              omega
          case measure => simp [intOf]; omega
    · refine absurd (fun z hz => ?_) hbad.out
      obtain ⟨k, hk⟩ := List.mem_iff_getElem?.1 hz
      exact hok.out k z (by have := (List.getElem?_eq_some_iff.1 hk).1; omega) hk

set_option maxRecDepth 100000 in
set_option maxHeartbeats 2000000 in
theorem look_ok (fb nb b n N : Nat) (T : Tb) (xs : List Int) (w : World) (h : Fo w fb nb n N T) (hz : ∀ i, N ≤ i → T i = nd0) (hN1 : 1 ≤ N) (hNn : N ≤ n + 1) (hn : n ≤ 8388608) (hb : Nums w b xs) (hl : xs.length ≤ 2) (hok : ∀ z ∈ xs, 0 ≤ z ∧ z < (n : Int)) :
    Calls Tryz.prog 91 #[.pointer (some ⟨fb, 0, none⟩), .slice (some ⟨b, 0, none⟩) xs.length xs.length] w fun e w' => e = .returned .nilIface ∧ ∃ nb' N', Fo w' fb nb' n N' T ∧ N ≤ N' ∧ N' ≤ n + 1 ∧ (∀ z ∈ xs, z + 1 < (N' : Int)) ∧ (nb' = nb ∨ w.heap.size ≤ nb') ∧ Turned (fun k => k = fb) w w' := by
  have c0 := h.c0
  have hbne : b ≠ fb := fun e => by
    have h1 := h.self
    rw [← e, hb] at h1
    injection h1 with h1
    injection h1 with _ h1
    cases h1
  have hh := hid h
  have hbh := hid hb
  have hokh := hid hok
  have hzh := hid hz
  clear h hb hok hz
  go_enter Tryz.func91, Tryz.ntmps91
  go_wp2_with fail
  go_loop [6, 14] (fun _ u => ∃ j : Nat, j ≤ xs.length ∧ u = .int .i64 (j : Int)) (fun _ u => xs.length - (intOf u).toNat)
  case atStart => exact ⟨0, by omega, by go_num⟩
  case round =>
    obtain ⟨j, hj, rfl⟩ := hrel
    rcases Nat.lt_or_ge j xs.length with hlt | hge
    · obtain ⟨z, hz⟩ : ∃ z, xs[j]? = some z := ⟨_, List.getElem?_eq_getElem hlt⟩
      have hc := hbh.out.cell hz
      have hzz := hokh.out z (List.mem_of_getElem? hz)
      have t1 : decide (z < 0) = false := decide_eq_false (by omega)
      have t2 : decide ((n : Int) ≤ z) = false := decide_eq_false (by omega)
      clear hz hzz
      go_wp2_with fail
      go_round
      case rel => exact ⟨j + 1, by omega, by go_num⟩
      case measure => simp [intOf]; omega
    · obtain rfl : j = xs.length := by omega
      clear hge hj
      go_wp2_with fail
      go_loopw [8, 32] (fun _ u wr => ∃ j : Nat, j ≤ xs.length ∧ u = .int .i64 (j : Int) ∧ Hid (∃ nb' N', Fo wr fb nb' n N' T ∧ N ≤ N' ∧ N' ≤ n + 1 ∧ (∀ k z, k < j → xs[k]? = some z → z + 1 < (N' : Int)) ∧ (nb' = nb ∨ w.heap.size ≤ nb') ∧ Turned (fun k => k = fb) w wr)) (fun _ u _ => xs.length - (intOf u).toNat)
      case atStart => exact ⟨0, by omega, by go_num, ⟨nb, N, hh.out, Nat.le_refl _, hNn, fun k z hk => by omega, Or.inl rfl, Turned.refl _ _⟩⟩
      case round =>
        obtain ⟨j, hj, rfl, hst⟩ := hrel
        obtain ⟨nb', N', g1, g2, g3, g4, g5, g6⟩ := hst.out
        rcases Nat.lt_or_ge j xs.length with hlt | hge
        · obtain ⟨z, hz⟩ : ∃ z, xs[j]? = some z := ⟨_, List.getElem?_eq_getElem hlt⟩
          obtain ⟨x, rfl⟩ : ∃ x : Nat, z = (x : Int) := ⟨z.toNat, by have := hokh.out z (List.mem_of_getElem? hz); omega⟩
          have hx := hokh.out _ (List.mem_of_getElem? hz)
          have hc : wr.cell? ⟨b, j, none⟩ = some (.int .i64 (x : Int)) := g6.cell (hbh.out.cell hz) hbne
          have hzz := hid hz
          have G := hid (And.intro g1 (And.intro g4 (And.intro g5 g6)))
          clear hz g1 g4 g5 g6 hst c0
          go_wp2_with fail
          refine (reach_ok fb nb' n N' x T _ G.out.1 (fun i hi => hzh.out i (by omega)) (by omega) g3 hn (by omega)).mono ?_
          rintro e w2 ⟨rfl, nb2, N2, r1, r2, r3, r4, r5, r6⟩
          have st2 : Hid (∃ nb' N', Fo w2 fb nb' n N' T ∧ N ≤ N' ∧ N' ≤ n + 1 ∧ (∀ k z, k < j + 1 → xs[k]? = some z → z + 1 < (N' : Int)) ∧ (nb' = nb ∨ w.heap.size ≤ nb') ∧ Turned (fun k => k = fb) w w2) := by
            refine ⟨nb2, N2, r1, by omega, r3, fun k z' hk hz' => ?_, ?_, G.out.2.2.2.trans r6⟩
            · rcases Nat.lt_or_ge k j with h2 | h2
              · have := G.out.2.1 k z' h2 hz'; omega
              · obtain rfl : k = j := by omega
                rw [hzz.out] at hz'
                cases hz'
                omega
            · rcases r5 with rfl | r5
              · exact G.out.2.2.1
              · exact Or.inr (by have := G.out.2.2.2.size; omega)
          clear r1 r4 r5 r6
          go_wp2_with fail
          go_roundw
          case rel => exact ⟨j + 1, by omega, by go_num, st2⟩
          case measure => simp [intOf]; omega
        · have fin : Hid (∃ nb' N', Fo wr fb nb' n N' T ∧ N ≤ N' ∧ N' ≤ n + 1 ∧ (∀ z ∈ xs, z + 1 < (N' : Int)) ∧ (nb' = nb ∨ w.heap.size ≤ nb') ∧ Turned (fun k => k = fb) w wr) := ⟨nb', N', g1, g2, g3, fun z hz => by
            obtain ⟨k, hk⟩ := List.mem_iff_getElem?.1 hz
            exact g4 k z (by have := (List.getElem?_eq_some_iff.1 hk).1; omega) hk, g5, g6⟩
          clear g1 g4 g5 g6 hst
          go_wp2_with fail
          go_ret
          exact ⟨rfl, fin.out⟩

end Go.Proofs.YtdmkbcbgjdmgdaaGreatDoor.Ct

namespace Go.Proofs.YtdmkbcbgjdmgdaaGreatDoor.Ct
open Go.RowKit
set_option linter.unusedVariables false

theorem ret_int {k : IntKind} {a b : Int} (h : a = b) : Ending.returned (.int k a) = .returned (.int k b) := by rw [h]

/-- What is neither nodes nor a Forest is as it was. -/
def Keep (w w' : World) : Prop := ∀ (k : Nat) (cs : Array Value) (t : TypeId) (fr : Nat × Nat), w.heap[k]? = some (.cells cs t fr) → t ≠ 101 → t ≠ 105 → w'.heap[k]? = some (.cells cs t fr)

theorem Keep.refl (w : World) : Keep w w := fun _ _ _ _ h _ _ => h
theorem Keep.trans {a b c : World} (h : Keep a b) (k : Keep b c) : Keep a c := fun i cs t fr hi h1 h2 => k i cs t fr (h i cs t fr hi h1 h2) h1 h2
theorem Keep.ofBelow {w w' : World} (h : Below w.heap.size w w') : Keep w w' := fun k cs t fr hk _ _ => (h.block k (Array.getElem?_eq_some_iff.1 hk).1).trans hk
theorem Keep.alloc {a w : World} (h : Keep a w) (o : Obj) : Keep a (w.alloc o) := h.trans (Keep.ofBelow ((Below.refl _ _).alloc (Nat.le_refl _) o))

theorem Keep.ofNodes {w w' : World} {fb nb n N : Nat} {T : Tb} (h : Fo w fb nb n N T) (ht : Turned (fun k => k = nb) w w') : Keep w w' := fun k cs t fr hk h1 _ =>
  (ht.block k (Array.getElem?_eq_some_iff.1 hk).1 (fun e => by rw [e, h.nodes] at hk; injection hk with hk; injection hk with _ hk; exact h1 hk.symm)).trans hk

theorem Keep.ofSelf {w w' : World} {fb nb n N : Nat} {T : Tb} (h : Fo w fb nb n N T) (ht : Turned (fun k => k = fb) w w') : Keep w w' := fun k cs t fr hk _ h2 =>
  (ht.block k (Array.getElem?_eq_some_iff.1 hk).1 (fun e => by rw [e, h.self] at hk; injection hk with hk; injection hk with _ hk; exact h2 hk.symm)).trans hk

/-- A Forest that was made since w: its values, its links. -/
structure FS (lo : Nat) (w : World) (fb n : Nat) (v : Nat → Int) (adj : Nat → Nat → Prop) (wr : World) : Prop where
  st : ∃ nb N T sub seq pp par, Fo wr fb nb n N (real T pp) ∧ Lc N T v sub seq pp par ∧ (∀ x y, adj x y ↔ Adj par x y) ∧ N ≤ n + 1 ∧ lo ≤ nb
  flo : lo ≤ fb
  below : Below lo w wr
  n1 : 1 ≤ n
  n2 : n ≤ 8388608
  lw : lo ≤ w.heap.size

/-- In a call that began at w0. -/
structure HS (lo : Nat) (w w0 : World) (fb n nb N : Nat) (T : Tb) (v : Nat → Int) (sub seq : Nat → List Nat) (pp par : Nat → Nat) (adj : Nat → Nat → Prop) (wr : World) : Prop where
  fo : Fo wr fb nb n N (real T pp)
  lc : Lc N T v sub seq pp par
  he : ∀ x y, adj x y ↔ Adj par x y
  hN : N ≤ n + 1
  nlo : lo ≤ nb
  flo : lo ≤ fb
  below : Below lo w wr
  n1 : 1 ≤ n
  n2 : n ≤ 8388608
  lw : lo ≤ w.heap.size
  keep : Keep w0 wr

section
variable {lo fb n nb N : Nat} {w w0 wr : World} {T : Tb} {v : Nat → Int} {sub seq : Nat → List Nat} {pp par : Nat → Nat} {adj : Nat → Nat → Prop}

theorem FS.start (h : FS lo w fb n v adj wr) : ∃ nb N T sub seq pp par, HS lo w wr fb n nb N T v sub seq pp par adj wr := by
  obtain ⟨nb, N, T, sub, seq, pp, par, h1, h2, h3, h4, h5⟩ := h.st
  exact ⟨nb, N, T, sub, seq, pp, par, h1, h2, h3, h4, h5, h.flo, h.below, h.n1, h.n2, h.lw, Keep.refl _⟩

theorem FS.wood (h : FS lo w fb n v adj wr) : Wood adj := by
  obtain ⟨nb, N, T, sub, seq, pp, par, h1, h2, h3, h4, h5⟩ := h.st
  exact ⟨par, h3, h2.acy⟩

theorem HS.wood (h : HS lo w w0 fb n nb N T v sub seq pp par adj wr) : Wood adj := ⟨par, h.he, h.lc.acy⟩

theorem HS.end_ (h : HS lo w w0 fb n nb N T v sub seq pp par adj wr) : FS lo w fb n v adj wr := ⟨⟨nb, N, T, sub, seq, pp, par, h.fo, h.lc, h.he, h.hN, h.nlo⟩, h.flo, h.below, h.n1, h.n2, h.lw⟩

theorem HS.more (h : HS lo w w0 fb n nb N T v sub seq pp par adj wr) {w' : World} (hb : Below wr.heap.size wr w') : HS lo w w0 fb n nb N T v sub seq pp par adj w' :=
  ⟨h.fo.of (Turned.ofBelow hb (fun _ => False)) (fun e => e) (fun e => e), h.lc, h.he, h.hN, h.nlo, h.flo, h.below.trans (hb.mono (Nat.le_trans h.lw h.below.size)), h.n1, h.n2, h.lw, h.keep.trans (Keep.ofBelow hb)⟩

theorem HS.alloc (h : HS lo w w0 fb n nb N T v sub seq pp par adj wr) (o : Obj) : HS lo w w0 fb n nb N T v sub seq pp par adj (wr.alloc o) := h.more ((Below.refl _ _).alloc (Nat.le_refl _) o)
theorem HS.drew (h : HS lo w w0 fb n nb N T v sub seq pp par adj wr) : HS lo w w0 fb n nb N T v sub seq pp par adj wr.drew := h.more (Below.refl _ _).drew

/-- The spots turn. -/
theorem HS.turn (h : HS lo w w0 fb n nb N T v sub seq pp par adj wr) {w' : World} {T' : Tb} {v' : Nat → Int} {sub' seq' : Nat → List Nat} {pp' par' : Nat → Nat} {adj' : Nat → Nat → Prop} (hf : Fo w' fb nb n N (real T' pp')) (hg : Lc N T' v' sub' seq' pp' par') (he : ∀ x y, adj' x y ↔ Adj par' x y) (ht : Turned (fun k => k = nb) wr w') : HS lo w w0 fb n nb N T' v' sub' seq' pp' par' adj' w' :=
  ⟨hf, hg, he, h.hN, h.nlo, h.flo, h.below.trans (ht.below (fun k hk => by rw [hk]; exact h.nlo) (Nat.le_trans h.lw h.below.size)), h.n1, h.n2, h.lw, h.keep.trans (Keep.ofNodes h.fo ht)⟩

theorem FS.more (h : FS lo w fb n v adj wr) {w' : World} (hb : Below wr.heap.size wr w') : FS lo w fb n v adj w' := by
  obtain ⟨nb, N, T, sub, seq, pp, par, hs⟩ := h.start
  exact (hs.more hb).end_

theorem FS.alloc (h : FS lo w fb n v adj wr) (o : Obj) : FS lo w fb n v adj (wr.alloc o) := h.more ((Below.refl _ _).alloc (Nat.le_refl _) o)
theorem FS.drew (h : FS lo w fb n v adj wr) : FS lo w fb n v adj wr.drew := h.more (Below.refl _ _).drew

theorem HS.raise (h : HS lo w w0 fb n nb N T v sub seq pp par adj wr) (x : Nat) (hx0 : x ≠ 0) (hx : x < N) :
    Calls Tryz.prog 92 #[.pointer (some ⟨fb, 0, none⟩), .int .i32 (x : Int)] wr fun e w' => e = .returned (.tuple #[]) ∧ ∃ T' sub', HS lo w w0 fb n nb N T' v sub' seq pp par adj w' ∧ Ms N v seq x T T' sub' ∧ (T' x).up = 0 ∧ (T' x).t = false := by
  refine (raise_ok fb nb n N x T v sub seq pp par wr h.fo h.lc hx0 hx).mono ?_
  rintro e w' ⟨rfl, T', sub', h1, h2, h3, h4, h5⟩
  exact ⟨rfl, T', sub', h.turn h1 (h.lc.of h2.gd) h.he h5, h2, h3, h4⟩

set_option maxRecDepth 100000 in
set_option maxHeartbeats 1000000 in
theorem place_ok (x : Nat) (hx : x + 1 < 8388700) (w : World) : Calls Tryz.prog 90 #[.int .i64 (x : Int)] w fun e w' => e = .returned (.int .i32 ((x + 1 : Nat) : Int)) ∧ w = w' := by
  rw [show ((x + 1 : Nat) : Int) = (x : Int) + 1 from by omega]
  go_enter Tryz.func90, Tryz.ntmps90
  go_wp2_with fail
  go_ret
  exact ⟨ret_int (by omega), rfl⟩

/-- The nodes are there. -/
theorem HS.grew (h : HS lo w w0 fb n nb N T v sub seq pp par adj wr) {nb' N' : Nat} {w' : World} (h1 : Fo w' fb nb' n N' (real T pp)) (h2 : N ≤ N') (h3 : N' ≤ n + 1) (h5 : nb' = nb ∨ wr.heap.size ≤ nb') (h6 : Turned (fun k => k = fb) wr w') : HS lo w w0 fb n nb' N' T v sub seq pp par adj w' := by
  have hp := h.lc.gd.pos
  refine ⟨h1, ⟨⟨h.lc.gd.inv, fun i hi => h.lc.gd.zero i (by omega), by omega, h1.big⟩, h.lc.p0, fun x => by have := h.lc.plt x; omega, fun x hx => h.lc.pN x (by omega), h.lc.pst, h.lc.chn, h.lc.acy⟩, h.he, h3, ?_, h.flo, h.below.trans (h6.below (fun k hk => by rw [hk]; exact h.flo) (Nat.le_trans h.lw h.below.size)), h.n1, h.n2, h.lw, h.keep.trans (Keep.ofSelf h.fo h6)⟩
  rcases h5 with rfl | h5
  · exact h.nlo
  · have := h.below.size; have := h.lw; omega

/-- The one node is there. -/
theorem FS.look1 (h : FS lo w fb n v adj w0) (x : Nat) (hx : x < n) :
    Calls Tryz.prog 91 #[.pointer (some ⟨fb, 0, none⟩), .slice (some ⟨w0.heap.size, 0, none⟩) 1 1] (w0.alloc (.cells #[.int .i64 (x : Int)] 3)) fun e w' => e = .returned .nilIface ∧ ∃ nb N T sub seq pp par, HS lo w w0 fb n nb N T v sub seq pp par adj w' ∧ x + 1 < N := by
  obtain ⟨nb, N, T, sub, seq, pp, par, hs⟩ := h.start
  have ha := hs.alloc (.cells #[.int .i64 (x : Int)] 3)
  refine (look_ok fb nb w0.heap.size n N (real T pp) [(x : Int)] _ ha.fo ha.lc.zero ha.lc.gd.pos ha.hN ha.n2 (heap_alloc_new w0 _) (by simp) (by intro z hz; simp at hz; subst hz; omega)).mono ?_
  rintro e w' ⟨rfl, nb', N', h1, h2, h3, h4, h5, h6⟩
  refine ⟨rfl, nb', N', T, sub, seq, pp, par, ha.grew h1 h2 h3 (by simpa using h5) h6, ?_⟩
  have := h4 (x : Int) (by simp); omega

theorem FS.look2 (h : FS lo w fb n v adj w0) (x y : Nat) (hx : x < n) (hy : y < n) :
    Calls Tryz.prog 91 #[.pointer (some ⟨fb, 0, none⟩), .slice (some ⟨w0.heap.size, 0, none⟩) 2 2] (w0.alloc (.cells #[.int .i64 (x : Int), .int .i64 (y : Int)] 3)) fun e w' => e = .returned .nilIface ∧ ∃ nb N T sub seq pp par, HS lo w w0 fb n nb N T v sub seq pp par adj w' ∧ x + 1 < N ∧ y + 1 < N := by
  obtain ⟨nb, N, T, sub, seq, pp, par, hs⟩ := h.start
  have ha := hs.alloc (.cells #[.int .i64 (x : Int), .int .i64 (y : Int)] 3)
  refine (look_ok fb nb w0.heap.size n N (real T pp) [(x : Int), (y : Int)] _ ha.fo ha.lc.zero ha.lc.gd.pos ha.hN ha.n2 (heap_alloc_new w0 _) (by simp) (by intro z hz; simp at hz; rcases hz with rfl | rfl <;> omega)).mono ?_
  rintro e w' ⟨rfl, nb', N', h1, h2, h3, h4, h5, h6⟩
  refine ⟨rfl, nb', N', T, sub, seq, pp, par, ha.grew h1 h2 h3 (by simpa using h5) h6, ?_, ?_⟩
  · have := h4 (x : Int) (by simp); omega
  · have := h4 (y : Int) (by simp); omega

/-- The one node is none. -/
theorem FS.bad1 (h : FS lo w fb n v adj w0) (x : Int) (hx : ¬ (0 ≤ x ∧ x < (n : Int))) :
    Calls Tryz.prog 91 #[.pointer (some ⟨fb, 0, none⟩), .slice (some ⟨w0.heap.size, 0, none⟩) 1 1] (w0.alloc (.cells #[.int .i64 x] 3)) fun e w' => e = .returned (.iface 63 (.int .i64 12)) ∧ w0.alloc (.cells #[.int .i64 x] 3) = w' := by
  obtain ⟨nb, N, T, sub, seq, pp, par, hs⟩ := h.start
  have ha := hs.alloc (.cells #[.int .i64 x] 3)
  exact look_bad fb w0.heap.size n [x] _ ha.fo.c0 (heap_alloc_new w0 _) (by simp) (by simpa using hx)

theorem FS.bad2 (h : FS lo w fb n v adj w0) (x y : Int) (hx : ¬ ((0 ≤ x ∧ x < (n : Int)) ∧ (0 ≤ y ∧ y < (n : Int)))) :
    Calls Tryz.prog 91 #[.pointer (some ⟨fb, 0, none⟩), .slice (some ⟨w0.heap.size, 0, none⟩) 2 2] (w0.alloc (.cells #[.int .i64 x, .int .i64 y] 3)) fun e w' => e = .returned (.iface 63 (.int .i64 12)) ∧ w0.alloc (.cells #[.int .i64 x, .int .i64 y] 3) = w' := by
  obtain ⟨nb, N, T, sub, seq, pp, par, hs⟩ := h.start
  have ha := hs.alloc (.cells #[.int .i64 x, .int .i64 y] 3)
  exact look_bad fb w0.heap.size n [x, y] _ ha.fo.c0 (heap_alloc_new w0 _) (by simp) (by simpa using hx)
end

set_option maxRecDepth 100000 in
set_option maxHeartbeats 1000000 in
theorem size_ok (fb nb n N x : Nat) (T : Tb) (pp : Nat → Nat) (v : Nat → Int) (sub seq : Nat → List Nat) (w : World) (h : Fo w fb nb n N (real T pp)) (hG : Gd N T v sub seq) (hx : x < N) :
    Calls Tryz.prog 87 #[.pointer (some ⟨fb, 0, none⟩), .int .i32 (x : Int)] w fun e w' => e = .returned (.int .i64 ((sub x).length : Int)) ∧ w = w' := by
  have hbig := h.big
  have c1 := h.c1
  have cr : w.cell? ⟨nb, x * 9 + 4, none⟩ = some (.int .i32 (T x).rest) := h.rest hx
  have ht := (hG.inv.tal x).rest
  have hl := hG.len x
  obtain ⟨R, hR⟩ : ∃ R, (T x).rest = R := ⟨_, rfl⟩
  rw [hR] at cr ht
  obtain ⟨M, hM⟩ : ∃ M, (sub x).length = M := ⟨_, rfl⟩
  rw [hM] at ht hl ⊢
  have q1 : (0 : Int) ≤ (x : Int) := by omega
  have q2 : (x : Int) < (N : Int) := by omega
  have b1 : -1 ≤ R := by omega
  have b2 : R ≤ 8388610 := by omega
  have hth := hid ht
  clear h hG hR hM ht
  go_enter Tryz.func87, Tryz.ntmps87
  go_wp2_with fail
  go_ret
  have := hth.out
  exact ⟨ret_int (by omega), rfl⟩

set_option maxRecDepth 100000 in
set_option maxHeartbeats 1000000 in
theorem item_ok (x : Nat) (hx : x + 1 < 8388700) (w : World) : Calls Tryz.prog 103 #[.int .i32 ((x + 1 : Nat) : Int)] w fun e w' => e = .returned (.int .i64 (x : Int)) ∧ w = w' := by
  rw [show ((x + 1 : Nat) : Int) = (x : Int) + 1 from by omega]
  go_enter Tryz.func103, Tryz.ntmps103
  go_wp2_with fail
  go_ret
  exact ⟨ret_int (by omega), rfl⟩

/-- How much is beneath a spot that a slot names. -/
def ml (nb : Nat) (a : Value) (w : World) : Nat := match w.cell? ⟨nb, (intOf a).toNat * 9 + 4, none⟩ with
  | some (.int _ k) => (k + 1).toNat
  | _ => 0

theorem ml_is {fb nb n N x : Nat} {T : Tb} {pp : Nat → Nat} {v : Nat → Int} {sub seq : Nat → List Nat} {w : World} (h : Fo w fb nb n N (real T pp)) (hG : Gd N T v sub seq) (hx : x < N) : ml nb (.int .i32 (x : Int)) w = (sub x).length := by
  unfold ml
  rw [show (intOf (.int .i32 (x : Int))).toNat = x from by simp [intOf], h.rest hx]
  have := (hG.inv.tal x).rest
  show ((T x).rest + 1).toNat = _
  omega

/-- The node's road laid out: outside its tree all stays. -/
def Frm (par : Nat → Nat) (r : Nat) (T : Tb) (seq : Nat → List Nat) (pp : Nat → Nat) (T' : Tb) (seq' : Nat → List Nat) (pp' : Nat → Nat) : Prop := ∀ y, y ≠ 0 → ¬ Top par y r → (T' y).up = (T y).up ∧ seq' y = seq y ∧ pp' y = pp y

section
variable {lo fb n nb N : Nat} {w w0 wr : World} {T : Tb} {v : Nat → Int} {sub seq : Nat → List Nat} {pp par : Nat → Nat} {adj : Nat → Nat → Prop}

set_option maxRecDepth 100000 in
set_option maxHeartbeats 2000000 in
theorem HS.expose (h : HS lo w w0 fb n nb N T v sub seq pp par adj wr) (x r : Nat) (hx0 : x ≠ 0) (hx : x < N) (hr : Top par x r) :
    Calls Tryz.prog 100 #[.pointer (some ⟨fb, 0, none⟩), .int .i32 (x : Int)] wr fun e w' => e = .returned (.tuple #[]) ∧ ∃ T' sub' seq' pp', HS lo w w0 fb n nb N T' v sub' seq' pp' par adj w' ∧ (T' x).up = 0 ∧ (T' x).t = false ∧ pp' x = 0 ∧ (∃ A, seq' x = A ++ [x]) ∧ Frm par r T seq pp T' seq' pp' := by
  have hbig := h.fo.big
  have hN0 : 0 < N := by omega
  have q1 : (0 : Int) ≤ (x : Int) := by omega
  have q2 : (x : Int) < (N : Int) := by omega
  have hx0h := hid hx0
  have hrh := hid hr
  have st : Hid (∃ T1 sub1 seq1 pp1, HS lo w w0 fb n nb N T1 v sub1 seq1 pp1 par adj wr ∧ x < N ∧ (x ≠ 0 → Top par x r) ∧ Frm par r T seq pp T1 seq1 pp1) := ⟨T, sub, seq, pp, h, hx, fun _ => hr, fun y _ _ => ⟨rfl, rfl, rfl⟩⟩
  clear h hx0 hr
  go_enter Tryz.func100, Tryz.ntmps100
  go_wp2_with fail
  go_loopw [4, 5] (fun a b wr => ∃ k z : Nat, a = .int .i32 (k : Int) ∧ b = .int .i32 (z : Int) ∧ Hid (∃ T1 sub1 seq1 pp1, HS lo w w0 fb n nb N T1 v sub1 seq1 pp1 par adj wr ∧ z < N ∧ (z ≠ 0 → Top par z r) ∧ ((k = 0 ∧ z = x) ∨ (k ≠ 0 ∧ k < N ∧ (T1 k).up = 0 ∧ pp1 k = z ∧ ∃ A, seq1 k = A ++ [x])) ∧ Frm par r T seq pp T1 seq1 pp1)) (fun a _ wr => N + 1 - ml nb a wr)
  case atStart => exact ⟨0, x, rfl, rfl, by obtain ⟨T1, sub1, seq1, pp1, a1, a2, a3, a4⟩ := st.out; exact ⟨T1, sub1, seq1, pp1, a1, a2, a3, Or.inl ⟨rfl, rfl⟩, a4⟩⟩
  case round =>
    clear st
    obtain ⟨k, z, rfl, rfl, hst⟩ := hrel
    obtain ⟨T1, sub1, seq1, pp1, h1, hzN, hz, hk, hf⟩ := hst.out
    have hkN : k < N := by rcases hk with ⟨e, _⟩ | ⟨_, e, _⟩ <;> omega
    have hml := hid (ml_is h1.fo h1.lc.gd hkN)
    by_cases hz0 : z = 0
    · subst hz0
      rcases hk with ⟨_, e⟩ | ⟨hk0, _, hku, hkp, A, hkA⟩
      · exact absurd e.symm hx0h.out
      · have hxk : seq1 x = seq1 k := (h1.lc.gd.mem_seq hk0 (by rw [hkA]; simp)).1
        have hxA := hid (hxk.trans hkA)
        have hxp := hid ((h1.lc.pst x k hx0h.out hk0 hxk).trans hkp)
        have h1 := hid h1
        have hf := hid hf
        clear hst hz hkp hkA hxk hku hk0
        go_wp2_with fail
        refine (h1.out.raise x hx0h.out hx).mono ?_
        rintro e w2 ⟨rfl, T2, sub2, h2, m2, u2, t2⟩
        have hxt : Hid (Frm par r T seq pp T2 seq1 pp1) := hid (fun y hy hn => by
          obtain ⟨f1, f2, f3⟩ := hf.out y hy hn
          exact ⟨(m2.fr y hy (fun e => hn (h1.out.lc.one hx0h.out hy e.symm hrh.out))).trans f1, f2, f3⟩)
        have fin : Hid (∃ T' sub' seq' pp', HS lo w w0 fb n nb N T' v sub' seq' pp' par adj w2 ∧ (T' x).up = 0 ∧ (T' x).t = false ∧ pp' x = 0 ∧ (∃ A, seq' x = A ++ [x]) ∧ Frm par r T seq pp T' seq' pp') := ⟨T2, sub2, seq1, pp1, h2, u2, t2, hxp.out, ⟨A, hxA.out⟩, hxt.out⟩
        clear h2 m2 u2 t2 hxt
        go_wp2_with fail
        go_end0
        exact ⟨rfl, fin.out⟩
    · have tz : ((z : Int) != 0) = true := by simp; omega
      have q3 : (0 : Int) ≤ (z : Int) := by omega
      have q4 : (z : Int) < (N : Int) := by omega
      have hzr := hid (hz hz0)
      have hz0h := hid hz0
      have h1 := hid h1
      have hf := hid hf
      have hk := hid hk
      clear hst hz hz0
      go_wp2_with fail
      refine (h1.out.raise z hz0h.out hzN).mono ?_
      rintro e w2 ⟨rfl, T2, sub2, h2, m2, u2, t2⟩
      have hkz : k ≠ 0 → seq1 k ≠ seq1 z ∧ pp1 k = z ∧ (T2 k).up = 0 ∧ ∃ A, seq1 k = A ++ [x] := fun hk0 => by
        rcases hk.out with ⟨e, _⟩ | ⟨_, _, hku, hkp, hkA⟩
        · exact absurd e hk0
        · have e1 : seq1 k ≠ seq1 z := fun e => h1.out.lc.not hk0 (by rw [hkp, e]; exact h1.out.lc.gd.self hz0h.out)
          exact ⟨e1, hkp, by rw [m2.fr k hk0 e1]; exact hku, hkA⟩
      obtain ⟨T3, sub3, seq3, pp3, e3, l3, u3, t3, p3, ⟨A, a3⟩, f3⟩ := h2.lc.hang (k := k) hz0h.out hzN u2 t2 (by
        by_cases hk0 : k = 0
        · exact Or.inl hk0
        · obtain ⟨_, b2, b3, _⟩ := hkz hk0
          exact Or.inr ⟨hk0, hkN, b3, b2⟩)
      have hkne : k ≠ z := fun e => by
        by_cases hk0 : k = 0
        · exact hz0h.out (e.symm.trans hk0)
        · exact (hkz hk0).1 (by rw [e])
      have hh := hang_ok fb nb n N z k true (real T2 pp1) w2 h2.fo hzN hkN hkne (h2.lc.gd.l_lt z) (h2.lc.gd.inv.kid_ne hz0h.out false)
      rw [← e3, show sI true = 1 from rfl] at hh
      have hh := hid hh
      have fr3 : Hid (Frm par r T seq pp T3 seq3 pp3) := hid (fun y hy hn => by
        obtain ⟨g1, g2, g3⟩ := hf.out y hy hn
        have n1 : seq1 y ≠ seq1 z := fun e => hn (h1.out.lc.one hz0h.out hy e.symm hzr.out)
        have n2 : k ≠ 0 → seq1 y ≠ seq1 k := fun hk0 e => by
          obtain ⟨_, _, _, B, hB⟩ := hkz hk0
          have hxk : seq1 x = seq1 k := (h1.out.lc.gd.mem_seq hk0 (by rw [hB]; simp)).1
          exact hn (h1.out.lc.one hx0h.out hy (hxk.trans e.symm) hrh.out)
        obtain ⟨k1, k2, k3⟩ := f3 y hy n1 n2
        exact ⟨by rw [k1, m2.fr y hy n1, g1], k2.trans g2, k3.trans g3⟩)
      have hA3 : Hid (∃ A, seq3 z = A ++ [x]) := hid (by
        by_cases hk0 : k = 0
        · rcases hk.out with ⟨_, e⟩ | ⟨e, _⟩
          · exact ⟨A, by rw [a3, if_pos hk0, e]⟩
          · exact absurd hk0 e
        · obtain ⟨_, _, _, B, hB⟩ := hkz hk0
          exact ⟨A ++ z :: B, by rw [a3, if_neg hk0, hB]; simp⟩)
      have hlen : Hid ((sub1 k).length < (sub3 z).length) := hid (by
        rw [← l3.gd.inv.root z hz0h.out u3, a3]
        by_cases hk0 : k = 0
        · rw [hk0, h1.out.lc.gd.inv.sub0]; simp
        · rcases hk.out with ⟨e, _⟩ | ⟨_, _, hku, _, _⟩
          · exact absurd e hk0
          · rw [if_neg hk0, h1.out.lc.gd.inv.root k hk0 hku]; simp; omega)
      have hmore := hid (l3.gd.len z)
      have hPz : Hid (pp3 z ≠ 0 → Top par (pp3 z) r) := hid (fun hp => l3.hangs hz0h.out hp hzr.out)
      have hPN := l3.plt z
      have h2 := hid h2
      have l3 := hid l3
      have u3 := hid u3
      clear m2 u2 t2 hkz e3 f3 a3 t3 p3
      go_wp2_with fail
      refine hh.out.mono ?_
      rintro e w3 ⟨rfl, f3, t3⟩
      have h3 := hid (h2.out.turn f3 l3.out h2.out.he t3)
      have c1 := h3.out.fo.c1
      have cu : w3.cell? ⟨nb, z * 9 + 5, none⟩ = some (.int .i32 (pp3 z : Int)) := by rw [← real_up0 (pp := pp3) u3.out]; exact h3.out.fo.up hzN
      obtain ⟨P, hP⟩ : ∃ P, pp3 z = P := ⟨_, rfl⟩
      rw [hP] at cu hPN
      have hPh := hid hP
      have hd := hid h3.out.drew
      have hml3 : Hid (ml nb (.int .i32 (z : Int)) w3.drew = (sub3 z).length) := hid (ml_is hd.out.fo hd.out.lc.gd hzN)
      clear f3 t3 hh h1 hf hk h2 hP
      go_wp2_with fail
      go_region
      all_goals
        generalize w3.drew = w4 at hd hml3 ⊢
        go_wp2_with fail
        go_roundw
        case rel => exact ⟨z, P, rfl, rfl, ⟨T3, sub3, seq3, pp3, hd.out, hPN, by rw [← hPh.out]; exact hPz.out, Or.inr ⟨hz0h.out, hzN, u3.out, hPh.out, hA3.out⟩, fr3.out⟩⟩
        case measure => rw [hml3.out, hml.out]; have := hlen.out; have := hmore.out; omega

set_option maxRecDepth 100000 in
set_option maxHeartbeats 1000000 in
theorem HS.root (h : HS lo w w0 fb n nb N T v sub seq pp par adj wr) (x : Nat) (hx0 : x ≠ 0) (hx : x < N) :
    Calls Tryz.prog 99 #[.pointer (some ⟨fb, 0, none⟩), .int .i32 (x : Int)] wr fun e w' => e = .returned (.tuple #[]) ∧ ∃ T' sub' seq' pp' par', HS lo w w0 fb n nb N T' v sub' seq' pp' par' adj w' ∧ (T' x).up = 0 ∧ pp' x = 0 ∧ (∃ A, seq' x = x :: A) ∧ par' x = 0 := by
  obtain ⟨r, hr⟩ := h.lc.acy.top hx0
  have he := hid (h.expose x r hx0 hx hr)
  have hx0 := hid hx0
  clear h hr
  go_enter Tryz.func99, Tryz.ntmps99
  go_wp2_with fail
  refine he.out.mono ?_
  rintro e w2 ⟨rfl, T2, sub2, seq2, pp2, h2, u2, t2, p2, ⟨A, a2⟩, f2⟩
  obtain ⟨sub3, par3, l3, e3⟩ := h2.lc.turn hx0.out hx u2 p2
  have ht := turn_ok fb nb n N x (real T2 pp2) w2 h2.fo hx
  rw [← real_turn] at ht
  have ht := hid ht
  have s3 : revS seq2 x x = x :: A.reverse := by
    unfold revS
    rw [if_pos (h2.lc.gd.self hx0.out), a2]; simp
  have u3 : (turnT T2 x x).up = 0 := by rw [turnT_at, if_pos ⟨rfl, hx0.out⟩]; exact u2
  have px : par3 x = 0 := by
    have := l3.chn x hx0.out
    rw [s3, p2] at this
    exact this.1
  have fin : Hid (∀ w', Fo w' fb nb n N (real (turnT T2 x) pp2) → Turned (fun k => k = nb) w2 w' → ∃ T' sub' seq' pp' par', HS lo w w0 fb n nb N T' v sub' seq' pp' par' adj w' ∧ (T' x).up = 0 ∧ pp' x = 0 ∧ (∃ A, seq' x = x :: A) ∧ par' x = 0) := hid (fun w' k1 k2 =>
    ⟨_, _, _, _, _, h2.turn k1 l3 (fun a b => (h2.he a b).trans (e3 a b).symm) k2, u3, p2, ⟨_, s3⟩, px⟩)
  clear he h2 u2 t2 p2 a2 f2 l3 e3 s3 u3 px
  go_wp2_with fail
  refine ht.out.mono ?_
  rintro e w3 ⟨rfl, f3, t3⟩
  have fin2 := hid (fin.out w3 f3 t3)
  clear f3 t3 ht fin
  go_wp2_with fail
  go_end0
  exact ⟨rfl, fin2.out⟩
end

end Go.Proofs.YtdmkbcbgjdmgdaaGreatDoor.Ct

namespace Go.Proofs.YtdmkbcbgjdmgdaaGreatDoor.Ct
open Go.RowKit
set_option linter.unusedVariables false

theorem below_drewN (w : World) (n : Nat) : Below w.heap.size w (w.drewN n) := ⟨rfl, rfl, rfl, Nat.le_refl _, fun _ _ => rfl⟩

section
variable {lo fb n : Nat} {w w0 : World} {v : Nat → Int} {adj : Nat → Nat → Prop}

/-- The road laid out as one stretch. -/
def Laid (lo : Nat) (w w0 : World) (fb n x y : Nat) (v : Nat → Int) (adj : Nat → Nat → Prop) (l : List Nat) (w' : World) : Prop :=
  ∃ nb N T sub seq pp par, HS lo w w0 fb n nb N T v sub seq pp par adj w' ∧ x + 1 < N ∧ y + 1 < N ∧ (T (y + 1)).up = 0 ∧ (T (y + 1)).t = false ∧ pp (y + 1) = 0 ∧ seq (y + 1) = l ∧ par (x + 1) = 0

/-- No road; the one tree hangs from its node. -/
def Apart (lo : Nat) (w w0 : World) (fb n x y : Nat) (v : Nat → Int) (adj : Nat → Nat → Prop) (w' : World) : Prop :=
  ∃ nb N T sub seq pp par, HS lo w w0 fb n nb N T v sub seq pp par adj w' ∧ x + 1 < N ∧ y + 1 < N ∧ (T (x + 1)).up = 0 ∧ pp (x + 1) = 0 ∧ (∃ A, seq (x + 1) = (x + 1) :: A) ∧ ¬ Top par (y + 1) (x + 1)

set_option maxRecDepth 100000 in
set_option maxHeartbeats 2000000 in
theorem FS.stretchY (h : FS lo w fb n v adj w0) (x y : Nat) (hx : x < n) (hy : y < n) (l : List Nat) (hl : Rd adj (x + 1) (y + 1) l) :
    Calls Tryz.prog 72 #[.pointer (some ⟨fb, 0, none⟩), .int .i64 (x : Int), .int .i64 (y : Int)] w0 fun e w' => e = .returned (.tuple #[.int .i32 ((y + 1 : Nat) : Int), .nilIface]) ∧ Laid lo w w0 fb n x y v adj l w' := by
  have hn2 := h.n2
  have hk := hid (h.look2 x y hx hy)
  have hl := hid hl
  have px := hid (place_ok x (by omega))
  have py := hid (place_ok y (by omega))
  clear h
  go_enter Tryz.func72, Tryz.ntmps72
  go_wp2_with fail
  refine hk.out.mono ?_
  rintro e w1 ⟨rfl, nb, N, T, sub, seq, pp, par, h1, hxN, hyN⟩
  have h1 := hid h1
  clear hk
  go_wp2_with fail
  refine (px.out _).mono ?_
  rintro e w2 ⟨rfl, rfl⟩
  obtain ⟨X, hX⟩ : ∃ X, x + 1 = X := ⟨_, rfl⟩
  obtain ⟨Y, hY⟩ : ∃ Y, y + 1 = Y := ⟨_, rfl⟩
  have hXY := hid (And.intro hX hY)
  rw [hX] at hxN hl px ⊢
  rw [hY] at hyN hl py
  have hX0 : Hid (X ≠ 0) := hid (by omega)
  have hY0 : Hid (Y ≠ 0) := hid (by omega)
  have hbig := h1.out.fo.big
  have q1 : (0 : Int) ≤ (X : Int) := by omega
  have q2 : (X : Int) < (N : Int) := by omega
  have xX : Hid (x = y ↔ X = Y) := hid (by omega)
  clear hX hY
  go_wp2_with fail
  refine (h1.out.root X hX0.out hxN).mono ?_
  rintro e w3 ⟨rfl, T3, sub3, seq3, pp3, par3, h3, u3, p3, s3, r3⟩
  have tY := hl.out.wk.top h3.he h3.lc.acy (Top.self hX0.out r3)
  have h3 := hid h3
  have r3 := hid r3
  clear h1 u3 p3 s3
  go_wp2_with fail
  refine (py.out _).mono ?_
  rintro e w4 ⟨rfl, rfl⟩
  have he := hid (h3.out.expose Y X hY0.out hyN tY)
  clear tY
  go_wp2_with fail
  refine he.out.mono ?_
  rintro e w4 ⟨rfl, T4, sub4, seq4, pp4, h4, u4, t4, p4, ⟨B, b4⟩, f4⟩
  have hc := h4.lc.chn Y hY0.out
  rw [p4, b4] at hc
  have e4 : seq4 Y = l := by
    rw [b4]
    exact chn_uniq h4.lc.acy hc (hl.out.down h4.he r3.out) (by rw [← b4]; exact h4.lc.ne hY0.out) hl.out.wk.ne (by simp) hl.out.wk.last.1 (lst_app _ _ _) hl.out.wk.last.2
  have uX : X ≠ Y → (T4 X).up ≠ 0 := fun hne => by
    have hm : X ∈ sub4 Y := by
      rw [← h4.lc.gd.inv.root Y hY0.out u4, e4]; exact hl.out.wk.first
    exact h4.lc.gd.inv.sub_up hY0.out hm hne
  have c1 := h4.fo.c1
  have cu := h4.fo.up hxN
  have hu : X ≠ Y → (real T4 pp4 X).up ≠ 0 := fun hne => by rw [real_up1 (uX hne)]; exact uX hne
  obtain ⟨U, hU⟩ : ∃ U, (real T4 pp4 X).up = U := ⟨_, rfl⟩
  rw [hU] at cu hu
  have fin : Hid (∀ w', Below w4.heap.size w4 w' → Laid lo w w0 fb n x y v adj l w') := hid (fun w' hb => by
    refine ⟨nb, N, T4, sub4, seq4, pp4, par3, h4.more hb, ?_⟩
    rw [hXY.out.1, hXY.out.2]
    exact ⟨hxN, hyN, u4, t4, p4, e4, r3.out⟩)
  clear h4 u4 t4 p4 b4 f4 hc e4 uX hU he h3
  by_cases e : x = y
  · subst e
    have hd := hid (Below.refl w4.heap.size w4)
    clear cu hu
    go_wp2_with fail
    go_quiet ((go_at_call 90; exact Calls.quiet_of_same ((px.out _).mono (fun _ _ h => ⟨h.1, h.2.symm⟩))))
    go_wp2_with fail
    refine (py.out _).mono ?_
    rintro e w' ⟨rfl, rfl⟩
    go_wp2_with fail
    go_ret2
    exact ⟨by rw [hXY.out.2]; rfl, fin.out _ (below_drewN _ _)⟩
  · have t1 : ((x : Int) == (y : Int)) = false := by simp; omega
    have t2 : ((x : Int) != (y : Int)) = true := by simp; omega
    have hU0 := hu (fun e2 => e (xX.out.2 e2))
    have t3 : ((U : Int) == 0) = false := by simp; omega
    have t4 : ((U : Int) != 0) = true := by simp; omega
    clear e hu
    go_wp2_with fail
    go_quiet ((go_at_call 90; exact Calls.quiet_of_same ((px.out _).mono (fun _ _ h => ⟨h.1, h.2.symm⟩))))
    go_wp2_with fail
    refine (py.out _).mono ?_
    rintro e w' ⟨rfl, rfl⟩
    go_wp2_with fail
    go_ret2
    exact ⟨by rw [hXY.out.2]; rfl, fin.out _ (below_drewN _ _)⟩
set_option maxRecDepth 100000 in
set_option maxHeartbeats 2000000 in
theorem FS.stretchN (h : FS lo w fb n v adj w0) (x y : Nat) (hx : x < n) (hy : y < n) (hl : ∀ l, ¬ Rd adj (x + 1) (y + 1) l) :
    Calls Tryz.prog 72 #[.pointer (some ⟨fb, 0, none⟩), .int .i64 (x : Int), .int .i64 (y : Int)] w0 fun e w' => e = .returned (.tuple #[.int .i32 0, .nilIface]) ∧ Apart lo w w0 fb n x y v adj w' := by
  have hn2 := h.n2
  have hk := hid (h.look2 x y hx hy)
  have hl := hid hl
  have px := hid (place_ok x (by omega))
  have py := hid (place_ok y (by omega))
  clear h
  go_enter Tryz.func72, Tryz.ntmps72
  go_wp2_with fail
  refine hk.out.mono ?_
  rintro e w1 ⟨rfl, nb, N, T, sub, seq, pp, par, h1, hxN, hyN⟩
  have h1 := hid h1
  clear hk
  go_wp2_with fail
  refine (px.out _).mono ?_
  rintro e w2 ⟨rfl, rfl⟩
  obtain ⟨X, hX⟩ : ∃ X, x + 1 = X := ⟨_, rfl⟩
  obtain ⟨Y, hY⟩ : ∃ Y, y + 1 = Y := ⟨_, rfl⟩
  have hXY := hid (And.intro hX hY)
  rw [hX] at hxN hl px ⊢
  rw [hY] at hyN hl py
  have hX0 : Hid (X ≠ 0) := hid (by omega)
  have hY0 : Hid (Y ≠ 0) := hid (by omega)
  have hbig := h1.out.fo.big
  have q1 : (0 : Int) ≤ (X : Int) := by omega
  have q2 : (X : Int) < (N : Int) := by omega
  have xX : Hid (x = y ↔ X = Y) := hid (by omega)
  clear hX hY
  go_wp2_with fail
  refine (h1.out.root X hX0.out hxN).mono ?_
  rintro e w3 ⟨rfl, T3, sub3, seq3, pp3, par3, h3, u3, p3, s3, r3⟩
  have tY : ¬ Top par3 Y X := fun hT => by
    obtain ⟨m, k1, k2, k3⟩ := hT
    exact hl.out _ (rd_chn h3.he h3.lc.acy k1 k3 k2)
  have hXYne : Hid (X ≠ Y) := hid (fun e => tY (by rw [← e]; exact Top.self hX0.out r3))
  have tX : ∀ r, Top par3 Y r → ¬ Top par3 X r := fun r k1 k2 => tY (by rw [← k2.uniq h3.lc.acy (Top.self hX0.out r3)]; exact k1)
  obtain ⟨r, hr⟩ := h3.lc.acy.top hY0.out
  have tXr := tX r hr
  have h3 := hid h3
  have r3 := hid r3
  have u3 := hid u3
  have p3 := hid p3
  have s3 := hid s3
  have tY := hid tY
  have tXr := hid tXr
  clear h1 tX
  go_wp2_with fail
  refine (py.out _).mono ?_
  rintro e w4 ⟨rfl, rfl⟩
  have he := hid (h3.out.expose Y r hY0.out hyN hr)
  clear hr
  go_wp2_with fail
  refine he.out.mono ?_
  rintro e w4 ⟨rfl, T4, sub4, seq4, pp4, h4, u4, t4, p4, ⟨B, b4⟩, f4⟩
  obtain ⟨g1, g2, g3⟩ := f4 X hX0.out tXr.out
  have uX : (T4 X).up = 0 := g1.trans u3.out
  have c1 := h4.fo.c1
  have cu : w4.cell? ⟨nb, X * 9 + 5, none⟩ = some (.int .i32 0) := by
    have := h4.fo.up hxN
    rw [real_up0 uX, g3, p3.out] at this
    exact this
  have fin : Hid (∀ w', Below w4.heap.size w4 w' → Apart lo w w0 fb n x y v adj w') := hid (fun w' hb => by
    refine ⟨nb, N, T4, sub4, seq4, pp4, par3, h4.more hb, ?_⟩
    rw [hXY.out.1, hXY.out.2]
    exact ⟨hxN, hyN, uX, g3.trans p3.out, by rw [g2]; exact s3.out, tY.out⟩)
  have e : ¬ x = y := fun e => hXYne.out (xX.out.1 e)
  have t1 : ((x : Int) == (y : Int)) = false := by simp; omega
  have t2 : ((x : Int) != (y : Int)) = true := by simp; omega
  clear h4 u4 t4 p4 b4 f4 uX he h3 e g1 g2 g3 u3 p3 s3
  go_wp2_with fail
  go_quiet ((go_at_call 90; exact Calls.quiet_of_same ((px.out _).mono (fun _ _ h => ⟨h.1, h.2.symm⟩))))
  go_wp2_with fail
  go_ret2
  exact ⟨rfl, fin.out _ (below_drewN _ _)⟩

set_option maxRecDepth 100000 in
set_option maxHeartbeats 1000000 in
theorem FS.stretch_bad (h : FS lo w fb n v adj w0) (x y : Int) (hx : ¬ ((0 ≤ x ∧ x < (n : Int)) ∧ (0 ≤ y ∧ y < (n : Int)))) :
    Calls Tryz.prog 72 #[.pointer (some ⟨fb, 0, none⟩), .int .i64 x, .int .i64 y] w0 fun e w' => e = .returned (.tuple #[.int .i32 0, (.iface 63 (.int .i64 12))]) ∧ FS lo w fb n v adj w' ∧ Keep w0 w' := by
  have hb := hid (h.bad2 x y hx)
  have ha := hid (h.alloc (.cells #[.int .i64 x, .int .i64 y] 3))
  have hk := hid ((Keep.refl w0).alloc (.cells #[.int .i64 x, .int .i64 y] 3))
  clear h hx
  go_enter Tryz.func72, Tryz.ntmps72
  go_wp2_with fail
  refine hb.out.mono ?_
  rintro e w' ⟨rfl, rfl⟩
  go_wp2_with fail
  go_ret2
  exact ⟨rfl, ha.out, hk.out⟩

set_option maxRecDepth 100000 in
set_option maxHeartbeats 1000000 in
theorem stretch_nil (x y : Int) (w0 : World) :
    Calls Tryz.prog 72 #[.pointer none, .int .i64 x, .int .i64 y] w0 fun e w' => e = .returned (.tuple #[.int .i32 0, (.iface 63 (.int .i64 1))]) ∧ Below w0.heap.size w0 w' := by
  go_enter Tryz.func72, Tryz.ntmps72
  go_wp2_with fail
  refine (look_nil _ _).mono ?_
  rintro e w' ⟨rfl, rfl⟩
  go_wp2_with fail
  go_ret2
  exact ⟨rfl, (Below.refl _ _).alloc (Nat.le_refl _) _⟩

set_option maxRecDepth 100000 in
set_option maxHeartbeats 1000000 in
theorem FS.roadY (h : FS lo w fb n v adj w0) (x y : Nat) (hx : x < n) (hy : y < n) (l : List Nat) (hl : Rd adj (x + 1) (y + 1) l) :
    Calls Tryz.prog 86 #[.pointer (some ⟨fb, 0, none⟩), .int .i64 (x : Int), .int .i64 (y : Int)] w0 fun e w' => e = .returned (.tuple #[.int .i32 ((y + 1 : Nat) : Int), .nilIface]) ∧ Laid lo w w0 fb n x y v adj l w' := by
  have hs := hid (h.stretchY x y hx hy l hl)
  have t1 : (((y + 1 : Nat) : Int) == 0) = false := by simp; omega
  obtain ⟨Y, hY⟩ : ∃ Y : Int, ((y + 1 : Nat) : Int) = Y := ⟨_, rfl⟩
  rw [hY] at hs t1 ⊢
  clear h hl hY
  go_enter Tryz.func86, Tryz.ntmps86
  go_wp2_with fail
  refine hs.out.mono ?_
  rintro e w1 ⟨rfl, h1⟩
  have h1 := hid h1
  go_wp2_with fail
  go_ret2
  exact ⟨rfl, h1.out⟩

set_option maxRecDepth 100000 in
set_option maxHeartbeats 1000000 in
theorem FS.roadN (h : FS lo w fb n v adj w0) (x y : Nat) (hx : x < n) (hy : y < n) (hl : ∀ l, ¬ Rd adj (x + 1) (y + 1) l) :
    Calls Tryz.prog 86 #[.pointer (some ⟨fb, 0, none⟩), .int .i64 (x : Int), .int .i64 (y : Int)] w0 fun e w' => e = .returned (.tuple #[.int .i32 0, (.iface 63 (.int .i64 21))]) ∧ FS lo w fb n v adj w' ∧ Keep w0 w' := by
  have hs := hid (h.stretchN x y hx hy hl)
  clear h hl
  go_enter Tryz.func86, Tryz.ntmps86
  go_wp2_with fail
  refine hs.out.mono ?_
  rintro e w1 ⟨rfl, nb, N, T, sub, seq, pp, par, h1, _⟩
  have h1 := hid (And.intro h1.end_ h1.keep)
  go_wp2_with fail
  go_ret2
  exact ⟨rfl, h1.out⟩

set_option maxRecDepth 100000 in
set_option maxHeartbeats 1000000 in
theorem FS.road_bad (h : FS lo w fb n v adj w0) (x y : Int) (hx : ¬ ((0 ≤ x ∧ x < (n : Int)) ∧ (0 ≤ y ∧ y < (n : Int)))) :
    Calls Tryz.prog 86 #[.pointer (some ⟨fb, 0, none⟩), .int .i64 x, .int .i64 y] w0 fun e w' => e = .returned (.tuple #[.int .i32 0, (.iface 63 (.int .i64 12))]) ∧ FS lo w fb n v adj w' ∧ Keep w0 w' := by
  have hs := hid (h.stretch_bad x y hx)
  clear h hx
  go_enter Tryz.func86, Tryz.ntmps86
  go_wp2_with fail
  refine hs.out.mono ?_
  rintro e w1 ⟨rfl, h1⟩
  have h1 := hid h1
  go_wp2_with fail
  go_ret2
  exact ⟨rfl, h1.out⟩

set_option maxRecDepth 100000 in
set_option maxHeartbeats 1000000 in
theorem road_nil (x y : Int) (w0 : World) :
    Calls Tryz.prog 86 #[.pointer none, .int .i64 x, .int .i64 y] w0 fun e w' => e = .returned (.tuple #[.int .i32 0, (.iface 63 (.int .i64 1))]) ∧ Below w0.heap.size w0 w' := by
  have hs := hid (stretch_nil x y w0)
  go_enter Tryz.func86, Tryz.ntmps86
  go_wp2_with fail
  refine hs.out.mono ?_
  rintro e w1 ⟨rfl, h1⟩
  have h1 := hid h1
  go_wp2_with fail
  go_ret2
  exact ⟨rfl, h1.out⟩
end

end Go.Proofs.YtdmkbcbgjdmgdaaGreatDoor.Ct
