/- 'UniteRuns', walked. -/
import Derived.Test.YtbjodjpdfpcjjaaDoorStand7
namespace Go.Proofs.YtbjodjpdfpcjjaaDoor
open Go.RowKit
set_option linter.unusedVariables false

theorem iw (x : Int) : IntKind.i64.wrap x = wrap64 x := by rw [IntKind.wrap_i64]; unfold wrap64; omega

theorem belowN {B : Nat} {a w : World} (h : Below B a w) (m : Nat) : Below B a (w.drewN m) := ⟨h.os, h.tape, h.output, h.size, h.block⟩

set_option maxRecDepth 100000 in
set_option maxHeartbeats 16000000 in
theorem runs_law (n : Int) (ad : Option Addr) (qs : List Act3) (cap : Nat) (w : World) (hg : Handle w) (hq : Acts3 w ad qs) :
    Calls Tryd.prog 3 #[.int .i64 n, .slice ad qs.length cap] w fun e w' => e = .returned (.bool true) ∧ Below w.heap.size w w' := by
  obtain ⟨i0, hif, hz0, hz1, hz2⟩ := info_parts info1
  obtain ⟨K, hK, hK1, hK2⟩ := mod_up n 30 (by decide) (by decide)
  have hK30 : K ≤ 30 := by omega
  have hql := hq.bound
  have hnew := hid (GL.new K w (by omega) (by omega))
  have hnum : Hid (∀ (c : Int) y, Below w.heap.size w y → Calls Tryd.prog 8 #[.iface 48 (.int .i64 c)] y fun e w' => e = .returned (.int .i64 c) ∧ Below y.heap.size y w') := fun c y hy => num_err c y (hg.below hy)
  clear hg
  replace hq := hid hq
  go_enter Tryd.func3, Tryd.ntmps3
  go_wp2_with fail
  try rw [hK]
  refine hnew.out.mono ?_
  rintro e w1 ⟨gb, rfl, h1⟩
  replace h1 := hid h1
  go_wp2_with fail
  try rw [hK]
  refine (rnew_ok K w1 hK1 (by omega)).mono ?_
  rintro e w2 ⟨u, rfl, hu, b2⟩
  obtain ⟨ub, ucap, hue, hu1, hu2, hu3⟩ := id hu
  have st1 : Hid (∃ f fs, US w gb K (f :: fs) (.slice (some ⟨w2.heap.size, 0, none⟩) 1 1) (w2.alloc (.cells #[u] 29)) ∧ fs.length ≤ 0) := by
    have hg2 := (h1.out.more b2)
    refine ⟨fun x => x, [], ⟨hg2.more (balloc _ _), [u], World.ownsRow_lit w2 #[u] 1 hg2.below.size (by unfold maxLen; omega) rfl, fun i f hf => ?_⟩, Nat.le_refl _⟩
    have hi : i = 0 := by
      rcases Nat.eq_zero_or_pos i with h0 | h0
      · exact h0
      · rw [List.getElem?_eq_none (by simp; omega)] at hf; cases hf
    subst hi
    cases hf
    exact ⟨u, rfl, hu.below (balloc _ _)⟩
  subst hue
  clear h1 hnew hK hu b2 hu3
  have hKw : IntKind.u64.wrap (K : Int) = (K : Int) := by rw [IntKind.wrap_u64]; omega
  have hK0 : ¬ K = 0 := by omega
  have hK0' : ¬ (K : Int) = 0 := by omega
  go_wp2_with fail
  go_loopw [8, 9] (fun v u wr => ∃ t : Nat, t ≤ qs.length ∧ t ≤ 80 ∧ u = .int .i64 (t : Int) ∧ Hid (∃ f fs, US w gb K (f :: fs) v wr ∧ fs.length ≤ t)) (fun _ u _ => 80 - (intOf u).toNat)
  case atStart => exact ⟨0, by omega, by omega, by go_num, st1⟩
  case round =>
    clear st1
    obtain ⟨t, ht1, ht2, rfl, hst⟩ := hrel
    by_cases hgo : t < qs.length ∧ t < 80
    · obtain ⟨hgo1, hgo2⟩ := hgo
      obtain ⟨q, hqt⟩ : ∃ q, qs[t]? = some q := ⟨_, List.getElem?_eq_getElem hgo1⟩
      obtain ⟨f, fs, h1, hft⟩ := hst.out
      cases ad with
      | none => have := hq.out.nil rfl; subst this; simp at hgo1
      | some a0 =>
        obtain ⟨c0, c1, c2⟩ := (hq.out.below h1.gl.below).at hqt
        have hc0 : Hid (∀ y, Below w.heap.size w y → y.cell? (a0.add (t * 3)) = some (.int .i64 q.k)) := fun y hy => ((hq.out.below hy).at hqt).1
        replace h1 := h1.more (Below.refl wr.heap.size wr).drew
        obtain ⟨g, vcap, rfl, hv1, hv2⟩ := h1.form
        obtain ⟨f0, u0, e0, x0, hu0⟩ := h1.nth fs.length (Nat.le_refl _)
        rw [rev_last] at e0
        cases e0
        obtain ⟨κ, hκ0, hκ5⟩ := mod_inN q.k 5 (by decide) (by decide)
        have hκ : wrap64 ((IntKind.u64.wrap q.k).tmod 5) = (κ : Int) := hκ0
        obtain ⟨ka, hka, hkaK⟩ := mod_inN q.a K (by omega) (by omega)
        obtain ⟨kb, hkb, hkbK⟩ := mod_inN q.b K (by omega) (by omega)
        have hka' : IntKind.i64.wrap ((IntKind.u64.wrap q.a).tmod (K : Int)) = (ka : Int) := (iw _).trans hka
        have i1 : (0 : Int) ≤ (t : Int) := by omega
        have i2 : (t : Int) < (qs.length : Int) := by omega
        have i3 : (0 : Int) ≤ (fs.length : Int) := by omega
        have i4 : (fs.length : Int) < ((fs.length + 1 : Nat) : Int) := by omega
        have i5 : wrap64 (((fs.length + 1 : Nat) : Int) - 1) = (fs.length : Int) := by unfold wrap64; omega
        have hfb : fs.length ≤ 80 := by omega
        obtain ⟨ub, ucap, hue, hu1, hu2, hu3⟩ := id hu0
        subst hue
        replace hu3 := hid hu3
        replace hu0 := hid hu0
        replace h1 := hid h1
        obtain ⟨D, hD⟩ : ∃ D, fs.length = D := ⟨_, rfl⟩
        clear hqt hst hκ0
        go_wp2_with fail
        go_region_held3 (fun y => y.cell? ⟨(a0.add (t * 3)).block, (a0.add (t * 3)).off + 1, none⟩ = some (.int .i64 q.a) ∧ y.cell? ⟨(a0.add (t * 3)).block, (a0.add (t * 3)).off + 2, none⟩ = some (.int .i64 q.b)) (first | assumption | go_keep) (fail)
        clear c1 c2
        have c0 : wr.drew.cell? (a0.add (t * 3)) = some (.int .i64 q.k) := hc0.out _ h1.out.gl.below
        generalize wr.drew = w3 at h1 hu0 hu3 x0 c0 ⊢
        rw [hD] at x0 i3 i4 i5 hv1 hfb hft ⊢
        by_cases hk4 : κ = 4
        · have t1 : ((κ : Int) == 4) = true := by simp; omega
          subst hk4
          by_cases hin : 0 ≤ q.a ∧ q.a ≤ (D : Int)
          · as_aux_lemma =>
              obtain ⟨a, hae⟩ : ∃ a : Nat, q.a = (a : Int) := ⟨q.a.toNat, by omega⟩
              have haD : a ≤ D := by omega
              have haf : a ≤ fs.length := by omega
              have hbk := hid (h1.out.gl.backK a haf)
              rw [← hae] at hbk
              have s1 : decide (q.a < 0) = false := decide_eq_false (by omega)
              have s2 : decide (((D + 1 : Nat) : Int) ≤ q.a) = false := decide_eq_false (by omega)
              have s3 : wrap64 (q.a + 1) = ((a + 1 : Nat) : Int) := by rw [hae]; unfold wrap64; omega
              have s2b : decide ((D : Int) + 1 ≤ q.a) = false := decide_eq_false (by omega)
              have s6 : (0 : Int) ≤ q.a := by omega
              have s7 : q.a < ((a + 1 : Nat) : Int) := by omega
              have s8 : (q.a + 1).toNat = a + 1 := by omega
              have s9 : q.a.toNat = a := by omega
              replace hae := hid hae
              obtain ⟨f', hfd⟩ := drop_cons (f :: fs) (fs.length - a) (by simp; omega)
              generalize hfs' : (f :: fs).drop (fs.length - a + 1) = fs' at hfd
              have hlen' : fs'.length = a := by rw [← hfs']; simp; omega
              have s4 : (0 : Int) ≤ ((a + 1 : Nat) : Int) := by omega
              have s5 : ((a + 1 : Nat) : Int) ≤ (vcap : Int) := by omega
              go_wp2_with fail
              refine hbk.out.mono ?_
              rintro e w5 ⟨rfl, g5, k5⟩
              have h1' : Hid (US w gb K (f :: fs) (.slice (some ⟨g, 0, none⟩) (fs.length + 1) vcap) w3) := h1
              have hcut := hid (h1'.out.cut a haf g5 k5)
              rw [hfd] at hcut
              have hT : Hid (US w gb K (f' :: fs') (.slice (some ⟨g, 0, none⟩) (a + 1) vcap) w5) := hcut
              clear hcut h1' hbk hfs' hfd
              obtain ⟨f2, u2, e2, x2, hu2'⟩ := US.nth (fs := fs') (f := f') (by rw [hlen']; exact hT.out) a (by omega)
              rw [← hlen', rev_last] at e2
              cases e2
              obtain ⟨ub2, ucap2, hue2, _, _, _⟩ := id hu2'
              subst hue2
              have hU := hid hu2'
              clear hu2' h1 hu0 hu3 x0 g5 k5
              go_wp2_with fail
              clear s6 s7 s8 s9 s1 s2 s2b s3 s4 s5 hin
              have hSz : Hid (∀ y, US w gb K (f' :: fs') (.slice (some ⟨g, 0, none⟩) (a + 1) vcap) y → Calls Tryd.prog 12 #[.pointer (some ⟨gb, 0, none⟩), .int .i64 (kb : Int)] y fun e w' => e = .returned (.tuple #[.int .i64 (cnt (fun y => f' y == f' kb) K : Int), .nilIface]) ∧ Below y.heap.size y w') := fun y hy => by
                obtain ⟨O, g1, _⟩ := hy.gl.st
                exact g1.size kb hkbK
              have hLe : Hid (∀ y, US w gb K (f' :: fs') (.slice (some ⟨g, 0, none⟩) (a + 1) vcap) y → Calls Tryd.prog 13 #[.pointer (some ⟨gb, 0, none⟩), .int .i64 (kb : Int)] y fun e w' => e = .returned (.tuple #[.int .i64 (f' kb : Int), .nilIface]) ∧ Below y.heap.size y w') := fun y hy => by
                obtain ⟨O, g1, _⟩ := hy.gl.st
                exact g1.least kb hkbK
              have hSa : Hid (∀ y, US w gb K (f' :: fs') (.slice (some ⟨g, 0, none⟩) (a + 1) vcap) y → Calls Tryd.prog 10 #[.pointer (some ⟨gb, 0, none⟩), .int .i64 (kb : Int), .int .i64 (ka : Int)] y fun e w' => e = .returned (.tuple #[.bool (decide (f' kb = f' ka)), .nilIface]) ∧ Below y.heap.size y w') := fun y hy => by
                obtain ⟨O, g1, _⟩ := hy.gl.st
                exact g1.same kb ka hkbK hkaK
              have hFl := hid hT.out.gl.ok
              obtain ⟨S, hS⟩ : ∃ S, cnt (fun y => f' y == f' kb) K = S := ⟨_, rfl⟩
              obtain ⟨L, hL⟩ : ∃ L, f' kb = L := ⟨_, rfl⟩
              obtain ⟨L2, hL2⟩ : ∃ L2, f' ka = L2 := ⟨_, rfl⟩
              obtain ⟨C, hC⟩ : ∃ C, fix K f' = C := ⟨_, rfl⟩
              have hSK : S ≤ K := hS ▸ cnt_le _ _
              have hCK : C ≤ K := hC ▸ cnt_le _ _
              have hLK : L ≤ kb := hL ▸ hFl.out.1 kb hkbK
              have hLK2 : L2 ≤ ka := hL2 ▸ hFl.out.1 ka hkaK
              rw [hS] at hSz
              rw [hL] at hLe
              rw [hL, hL2] at hSa
              obtain ⟨X, hX⟩ : ∃ X : Bool, decide (L = L2) = X := ⟨_, rfl⟩
              rw [hX] at hSa
              have qSz : Hid (∀ y, Ls y (.slice (some ⟨ub2, 0, none⟩) K ucap2) K f' → Calls Tryd.prog 14 #[.slice (some ⟨ub2, 0, none⟩) K ucap2, .int .i64 (kb : Int)] y fun e w' => e = .returned (.int .i64 (S : Int)) ∧ ∃ m, w' = y.drewN m) := fun y hy => by
                have := rsize_ok _ K kb f' y hy (by omega) hkbK
                rw [hS] at this
                exact this
              have qCo : Hid (∀ y, Ls y (.slice (some ⟨ub2, 0, none⟩) K ucap2) K f' → Calls Tryd.prog 16 #[.slice (some ⟨ub2, 0, none⟩) K ucap2] y fun e w' => e = .returned (.int .i64 (C : Int)) ∧ w' = y) := fun y hy => by
                have := rcount_ok _ K f' y hy (by omega)
                rw [hC] at this
                exact this
              have qGc : Hid (∀ y, US w gb K (f' :: fs') (.slice (some ⟨g, 0, none⟩) (a + 1) vcap) y → Calls Tryd.prog 15 #[.pointer (some ⟨gb, 0, none⟩)] y fun e w' => e = .returned (.int .i64 (C : Int)) ∧ ∃ m, w' = y.drewN m) := fun y hy => by
                obtain ⟨O, g1, _⟩ := hy.gl.st
                have := g1.countQ
                rw [hC] at this
                exact this
              have qSt : Hid (∀ y, US w gb K (f' :: fs') (.slice (some ⟨g, 0, none⟩) (a + 1) vcap) y → Calls Tryd.prog 17 #[.pointer (some ⟨gb, 0, none⟩)] y fun e w' => e = .returned (.int .i64 (a : Int)) ∧ w' = y) := fun y hy => by
                obtain ⟨O, g1, _⟩ := hy.gl.st
                have := g1.steps
                rw [hlen'] at this
                exact this.mono fun e w' ⟨e1, e2⟩ => ⟨e1, e2.symm⟩
              go_wp2_with fail
              try rw [hkb]
              refine (hSz.out _ hT.out).mono ?_
              rintro e w11 ⟨rfl, b11⟩
              have hT1 := hid (hT.out.more b11)
              have hU1 := hid (hU.out.below b11)
              clear b11
              go_wp2_with fail
              try rw [hkb]
              refine (hLe.out _ hT1.out).mono ?_
              rintro e w12 ⟨rfl, b12⟩
              have hT2 := hid (hT1.out.more b12)
              have hU2 := hid (hU1.out.below b12)
              clear b12
              go_wp2_with fail
              try rw [hkb]
              try rw [hka]
              refine (hSa.out _ hT2.out).mono ?_
              rintro e w13 ⟨rfl, b13⟩
              have hT3 := hid (hT2.out.more b13)
              have hU3 := hid (hU2.out.below b13)
              clear b13 hT1 hT2 hU1 hU2 hSz hLe hSa
              obtain ⟨_, _, e9, _, _, _, _, _, hcell⟩ := id hU3.out
              simp only [Value.slice.injEq, Option.some.injEq, Addr.mk.injEq, and_true, true_and] at e9
              obtain ⟨rfl, rfl⟩ := e9
              have ckb := hcell kb hkbK
              have cka := hcell ka hkaK
              rw [hL] at ckb
              rw [hL2] at cka
              have j1 : (0 : Int) ≤ (kb : Int) := by omega
              have j2 : (kb : Int) < (K : Int) := by omega
              have j3 : (0 : Int) ≤ (ka : Int) := by omega
              have j4 : (ka : Int) < (K : Int) := by omega
              have j5 : IntKind.i64.wrap (((a + 1 : Nat) : Int) - 1) = (a : Int) := by rw [IntKind.wrap_i64]; omega
              have hLL : ((L : Int) == (L2 : Int)) = X := by rw [← hX]; by_cases e : L = L2 <;> simp [e] <;> omega
              clear hS hL hL2 hC hX hcell
              go_wp2_with fail
              go_quiet ((first | (go_at_call 14; exact Calls.quiet_of (qSz.out _ (hU3.out.below (belowN (Below.refl _ _) _)))) | (go_at_call 16; exact Calls.quiet_of_same (qCo.out _ (hU3.out.below (belowN (Below.refl _ _) _)))) | (go_at_call 15; exact Calls.quiet_of (qGc.out _ (hT3.out.more (belowN (Below.refl _ _) _)))) | (go_at_call 17; exact Calls.quiet_of_same (qSt.out _ (hT3.out.more (belowN (Below.refl _ _) _))))))
              have st9 := hid (hT3.out.more (belowN (Below.refl _ _) nq))
              go_wp2_with fail
              go_roundw
              case rel => exact ⟨t + 1, by omega, by omega, by go_num, ⟨_, _, st9.out, by rw [hlen']; omega⟩⟩
              case measure => simp [intOf]; omega
          · as_aux_lemma =>
              have hbd : q.a < 0 ∨ ((fs.length : Nat) : Int) < q.a := by omega
              obtain ⟨O, ga, _⟩ := h1.out.gl.st
              have hbk := hid (ga.back_bad q.a hbd)
              have ways : q.a < 0 ∨ (¬ q.a < 0 ∧ ((D + 1 : Nat) : Int) ≤ q.a) := by omega
              clear ga hbd
              rcases ways with y1 | ⟨y1, y2⟩
              · have s1 : decide (q.a < 0) = true := decide_eq_true y1
                go_wp2_with fail
                refine hbk.out.mono ?_
                rintro e w5 ⟨rfl, rfl⟩
                go_wp2_with fail
                refine (hnum.out 1 _ h1.out.gl.below).mono ?_
                rintro e w6 ⟨rfl, b6⟩
                have st6 := hid (h1.out.more b6)
                clear b6 h1 hu0 hu3 x0 hbk
                go_wp2_with fail
                go_roundw
                case rel => exact ⟨t + 1, by omega, by omega, by go_num, ⟨_, _, by rw [hD] at st6; exact st6.out, by rw [hD]; omega⟩⟩
                case measure => simp [intOf]; omega
              · have s1 : decide (q.a < 0) = false := decide_eq_false y1
                have s2 : decide (((D + 1 : Nat) : Int) ≤ q.a) = true := decide_eq_true y2
                go_wp2_with fail
                refine hbk.out.mono ?_
                rintro e w5 ⟨rfl, rfl⟩
                go_wp2_with fail
                refine (hnum.out 1 _ h1.out.gl.below).mono ?_
                rintro e w6 ⟨rfl, b6⟩
                have st6 := hid (h1.out.more b6)
                clear b6 h1 hu0 hu3 x0 hbk
                go_wp2_with fail
                go_roundw
                case rel => exact ⟨t + 1, by omega, by omega, by go_num, ⟨_, _, by rw [hD] at st6; exact st6.out, by rw [hD]; omega⟩⟩
                case measure => simp [intOf]; omega
        · have t1 : ((κ : Int) == 4) = false := by simp; omega
          have t2 : ¬ ((κ : Int) = 4) := by omega
          by_cases hin : (0 ≤ q.a ∧ q.a < (K : Int)) ∧ (0 ≤ q.b ∧ q.b < (K : Int))
          · obtain ⟨a, hae⟩ : ∃ a : Nat, q.a = (a : Int) := ⟨q.a.toNat, by omega⟩
            obtain ⟨b, hbe⟩ : ∃ b : Nat, q.b = (b : Int) := ⟨q.b.toNat, by omega⟩
            have haK : a < K := by omega
            have hbK : b < K := by omega
            have s1 : decide (q.a < 0) = false := decide_eq_false (by omega)
            have s2 : decide ((K : Int) ≤ q.a) = false := decide_eq_false (by omega)
            have s3 : decide (q.b < 0) = false := decide_eq_false (by omega)
            have s4 : decide ((K : Int) ≤ q.b) = false := decide_eq_false (by omega)
            have hjn := hid (h1.out.gl.joinK a b haK hbK)
            rw [← hae, ← hbe] at hjn
            replace hae := hid hae
            replace hbe := hid hbe
            by_cases hsm : f a = f b
            · as_aux_lemma =>
                have hrj : Hid (∀ y, Ls y (.slice (some ⟨ub, 0, none⟩) K ucap) K f → Calls Tryd.prog 11 #[.slice (some ⟨ub, 0, none⟩) K ucap, .int .i64 q.a, .int .i64 q.b] y fun e w' => e = .returned (.tuple #[.slice (some ⟨ub, 0, none⟩) K ucap, .bool false]) ∧ Below y.heap.size y w') := fun y hy => by
                  rw [hae.out, hbe.out]
                  exact rjoin_same _ K a b f y hy haK hbK (by omega) hsm
                have hstp : stepH f fs a b = f :: fs := by unfold stepH; rw [if_pos hsm]
                rw [decide_eq_true hsm, hstp] at hjn
                clear hstp hsm hin
                go_wp2_with fail
                refine hjn.out.mono ?_
                rintro e w5 ⟨rfl, g5, k5⟩
                have h5 := hid (h1.out.keep g5 k5)
                have hu5 := hid (hu0.out.keep k5)
                clear g5 k5 hjn
                go_wp2_with fail
                refine (hrj.out _ hu5.out).mono ?_
                rintro e w6 ⟨rfl, b6⟩
                have hT : Hid (US w gb K (f :: fs) (.slice (some ⟨g, 0, none⟩) (D + 1) vcap) w6) := by
                  have := h5.out.more b6
                  rw [hD] at this
                  exact this
                have hU := hid (hu5.out.below b6)
                clear b6 h5 hu5 h1 hu0 hu3 x0 hrj
                have hSz : Hid (∀ y, US w gb K (f :: fs) (.slice (some ⟨g, 0, none⟩) (D + 1) vcap) y → Calls Tryd.prog 12 #[.pointer (some ⟨gb, 0, none⟩), .int .i64 (kb : Int)] y fun e w' => e = .returned (.tuple #[.int .i64 (cnt (fun y => f y == f kb) K : Int), .nilIface]) ∧ Below y.heap.size y w') := fun y hy => by
                  obtain ⟨O, g1, _⟩ := hy.gl.st
                  exact g1.size kb hkbK
                have hLe : Hid (∀ y, US w gb K (f :: fs) (.slice (some ⟨g, 0, none⟩) (D + 1) vcap) y → Calls Tryd.prog 13 #[.pointer (some ⟨gb, 0, none⟩), .int .i64 (kb : Int)] y fun e w' => e = .returned (.tuple #[.int .i64 (f kb : Int), .nilIface]) ∧ Below y.heap.size y w') := fun y hy => by
                  obtain ⟨O, g1, _⟩ := hy.gl.st
                  exact g1.least kb hkbK
                have hSa : Hid (∀ y, US w gb K (f :: fs) (.slice (some ⟨g, 0, none⟩) (D + 1) vcap) y → Calls Tryd.prog 10 #[.pointer (some ⟨gb, 0, none⟩), .int .i64 (kb : Int), .int .i64 (ka : Int)] y fun e w' => e = .returned (.tuple #[.bool (decide (f kb = f ka)), .nilIface]) ∧ Below y.heap.size y w') := fun y hy => by
                  obtain ⟨O, g1, _⟩ := hy.gl.st
                  exact g1.same kb ka hkbK hkaK
                have hFl := hid hT.out.gl.ok
                obtain ⟨S, hS⟩ : ∃ S, cnt (fun y => f y == f kb) K = S := ⟨_, rfl⟩
                obtain ⟨L, hL⟩ : ∃ L, f kb = L := ⟨_, rfl⟩
                obtain ⟨L2, hL2⟩ : ∃ L2, f ka = L2 := ⟨_, rfl⟩
                obtain ⟨C, hC⟩ : ∃ C, fix K f = C := ⟨_, rfl⟩
                have hSK : S ≤ K := hS ▸ cnt_le _ _
                have hCK : C ≤ K := hC ▸ cnt_le _ _
                have hLK : L ≤ kb := hL ▸ hFl.out.1 kb hkbK
                have hLK2 : L2 ≤ ka := hL2 ▸ hFl.out.1 ka hkaK
                rw [hS] at hSz
                rw [hL] at hLe
                rw [hL, hL2] at hSa
                obtain ⟨X, hX⟩ : ∃ X : Bool, decide (L = L2) = X := ⟨_, rfl⟩
                rw [hX] at hSa
                have qSz : Hid (∀ y, Ls y (.slice (some ⟨ub, 0, none⟩) K ucap) K f → Calls Tryd.prog 14 #[.slice (some ⟨ub, 0, none⟩) K ucap, .int .i64 (kb : Int)] y fun e w' => e = .returned (.int .i64 (S : Int)) ∧ ∃ m, w' = y.drewN m) := fun y hy => by
                  have := rsize_ok _ K kb f y hy (by omega) hkbK
                  rw [hS] at this
                  exact this
                have qCo : Hid (∀ y, Ls y (.slice (some ⟨ub, 0, none⟩) K ucap) K f → Calls Tryd.prog 16 #[.slice (some ⟨ub, 0, none⟩) K ucap] y fun e w' => e = .returned (.int .i64 (C : Int)) ∧ w' = y) := fun y hy => by
                  have := rcount_ok _ K f y hy (by omega)
                  rw [hC] at this
                  exact this
                have qGc : Hid (∀ y, US w gb K (f :: fs) (.slice (some ⟨g, 0, none⟩) (D + 1) vcap) y → Calls Tryd.prog 15 #[.pointer (some ⟨gb, 0, none⟩)] y fun e w' => e = .returned (.int .i64 (C : Int)) ∧ ∃ m, w' = y.drewN m) := fun y hy => by
                  obtain ⟨O, g1, _⟩ := hy.gl.st
                  have := g1.countQ
                  rw [hC] at this
                  exact this
                have qSt : Hid (∀ y, US w gb K (f :: fs) (.slice (some ⟨g, 0, none⟩) (D + 1) vcap) y → Calls Tryd.prog 17 #[.pointer (some ⟨gb, 0, none⟩)] y fun e w' => e = .returned (.int .i64 (D : Int)) ∧ w' = y) := fun y hy => by
                  obtain ⟨O, g1, _⟩ := hy.gl.st
                  have := g1.steps
                  rw [hD] at this
                  exact this.mono fun e w' ⟨e1, e2⟩ => ⟨e1, e2.symm⟩
                go_wp2_with fail
                try rw [hkb]
                refine (hSz.out _ hT.out).mono ?_
                rintro e w11 ⟨rfl, b11⟩
                have hT1 := hid (hT.out.more b11)
                have hU1 := hid (hU.out.below b11)
                clear b11
                go_wp2_with fail
                try rw [hkb]
                refine (hLe.out _ hT1.out).mono ?_
                rintro e w12 ⟨rfl, b12⟩
                have hT2 := hid (hT1.out.more b12)
                have hU2 := hid (hU1.out.below b12)
                clear b12
                go_wp2_with fail
                try rw [hkb]
                try rw [hka]
                refine (hSa.out _ hT2.out).mono ?_
                rintro e w13 ⟨rfl, b13⟩
                have hT3 := hid (hT2.out.more b13)
                have hU3 := hid (hU2.out.below b13)
                clear b13 hT1 hT2 hU1 hU2 hSz hLe hSa
                obtain ⟨_, _, e9, _, _, _, _, _, hcell⟩ := id hU3.out
                simp only [Value.slice.injEq, Option.some.injEq, Addr.mk.injEq, and_true, true_and] at e9
                obtain ⟨rfl, rfl⟩ := e9
                have ckb := hcell kb hkbK
                have cka := hcell ka hkaK
                rw [hL] at ckb
                rw [hL2] at cka
                have j1 : (0 : Int) ≤ (kb : Int) := by omega
                have j2 : (kb : Int) < (K : Int) := by omega
                have j3 : (0 : Int) ≤ (ka : Int) := by omega
                have j4 : (ka : Int) < (K : Int) := by omega
                have j5 : IntKind.i64.wrap (((D + 1 : Nat) : Int) - 1) = (D : Int) := by rw [IntKind.wrap_i64]; omega
                have hLL : ((L : Int) == (L2 : Int)) = X := by rw [← hX]; by_cases e : L = L2 <;> simp [e] <;> omega
                clear hS hL hL2 hC hX hcell
                go_wp2_with fail
                go_quiet ((first | (go_at_call 14; exact Calls.quiet_of (qSz.out _ (hU3.out.below (belowN (Below.refl _ _) _)))) | (go_at_call 16; exact Calls.quiet_of_same (qCo.out _ (hU3.out.below (belowN (Below.refl _ _) _)))) | (go_at_call 15; exact Calls.quiet_of (qGc.out _ (hT3.out.more (belowN (Below.refl _ _) _)))) | (go_at_call 17; exact Calls.quiet_of_same (qSt.out _ (hT3.out.more (belowN (Below.refl _ _) _))))))
                have st9 := hid (hT3.out.more (belowN (Below.refl _ _) nq))
                go_wp2_with fail
                go_roundw
                case rel => exact ⟨t + 1, by omega, by omega, by go_num, ⟨_, _, st9.out, by rw [hD]; omega⟩⟩
                case measure => simp [intOf]; omega
            · as_aux_lemma =>
                have hfle := hid h1.out.gl.ok.1
                have hrj : Hid (∀ y, Ls y (.slice (some ⟨ub, 0, none⟩) K ucap) K f → Calls Tryd.prog 11 #[.slice (some ⟨ub, 0, none⟩) K ucap, .int .i64 q.a, .int .i64 q.b] y fun e w' => ∃ u', e = .returned (.tuple #[u', .bool true]) ∧ Ls w' u' K (jn f a b) ∧ Below y.heap.size y w') := fun y hy => by
                  rw [hae.out, hbe.out]
                  exact rjoin_new _ K a b f y hy haK hbK (by omega) hsm hfle.out
                have hstp : stepH f fs a b = jn f a b :: f :: fs := by unfold stepH; rw [if_neg hsm]
                rw [decide_eq_false hsm, hstp] at hjn
                clear hstp hsm hin hfle
                go_wp2_with fail
                refine hjn.out.mono ?_
                rintro e w5 ⟨rfl, g5, k5⟩
                have hu5 := hid (hu0.out.keep k5)
                obtain ⟨vs, hr5, he5⟩ := h1.out.row
                replace hr5 := own_keep hr5 k5
                have he5' : ∀ (i : Nat) x, (f :: fs).reverse[i]? = some x → ∃ u, vs[i]? = some u ∧ Ls w5 u K x := fun i x hx => by
                  obtain ⟨u, e1, e2⟩ := he5 i x hx
                  exact ⟨u, e1, e2.keep k5⟩
                replace g5 := hid g5
                replace hr5 := hid hr5
                replace he5' := hid he5'
                clear he5 k5 hjn
                go_wp2_with fail
                refine (hrj.out _ hu5.out).mono ?_
                rintro e w6 ⟨u6, rfl, hu6, b6⟩
                obtain ⟨ub6, ucap6, hue6, _, _, _⟩ := id hu6
                subst hue6
                have g6 := g5.out.more b6
                have hb7 := balloc w6 (.cells #[.slice (some ⟨ub6, 0, none⟩) K ucap6] 29)
                have g7 := hid (g6.more hb7)
                have hr7 : (w6.alloc (.cells #[.slice (some ⟨ub6, 0, none⟩) K ucap6] 29)).ownsRow w.heap.size 29 1 (.slice (some ⟨g, 0, none⟩) (D + 1) vcap) (D + 1) vs := by
                  have h6 := own_keep (own_keep hr5.out (Keep.ofBelow b6)) (Keep.ofBelow hb7)
                  simpa [hD] using h6
                have he7 := hid (fun (i : Nat) x (hx : (f :: fs).reverse[i]? = some x) => show ∃ u, vs[i]? = some u ∧ Ls (w6.alloc (.cells #[.slice (some ⟨ub6, 0, none⟩) K ucap6] 29)) u K x from by
                  obtain ⟨u, e1, e2⟩ := he5'.out i x hx
                  exact ⟨u, e1, (e2.below b6).below hb7⟩)
                have hu7 := hid (hu6.below hb7)
                have hlo : w.heap.size ≤ w6.heap.size := g6.below.size
                clear g5 g6 hr5 he5' hu5 h1 hu0 hu3 x0 hrj hu6 hb7 b6
                go_wp2_with (at_builtin; refine wpList_append_own _ rfl (.tmp 161) (.tmp 163) 31 rfl w.heap.size 29 i0 _ 1 24 Tryd.underlying31 hif hz0 hz1 hz2 rfl (by decide) _ _ _ rfl hr7 ⟨w6.heap.size, 0, none⟩ 1 1 [.slice (some ⟨ub6, 0, none⟩) K ucap6] rfl rfl (one_new w6 _ _) (by simp [Value.oneCell']) (by unfold maxLen; omega) (by omega) (by simp; omega) ?_; intro v8 w8 ho8 hg8 _; refine Hid.out ?_)
                have hT' : US w gb K (jn f a b :: f :: fs) v8 w8 := US.push (g' := g7.out) (vs := vs) (u := .slice (some ⟨ub6, 0, none⟩) K ucap6) (v := .slice (some ⟨g, 0, none⟩) (D + 1) vcap) (by simpa [hD] using hr7) he7.out hu7.out hg8 (by simpa [hD] using ho8)
                have hU : Hid (Ls w8 (.slice (some ⟨ub6, 0, none⟩) K ucap6) K (jn f a b)) := hid (hu7.out.block (g7.out.row hr7 (Nat.le_refl _) hg8).2)
                obtain ⟨g8, vcap8, hv8, hv81, hv82⟩ := hT'.form
                subst hv8
                obtain ⟨D8, hD8⟩ : ∃ D8, (f :: fs).length = D8 := ⟨_, rfl⟩
                rw [hD8] at hT' hv81
                have hT := hid hT'
                have hDt : D8 ≤ t + 1 := by rw [← hD8]; simp [hD]; omega
                clear hT' ho8 hg8 hr7 he7 hu7 g7
                try rw [hD8]
                refine hid ?_
                go_wp2_with fail
                have hSz : Hid (∀ y, US w gb K ((jn f a b) :: (f :: fs)) (.slice (some ⟨g8, 0, none⟩) (D8 + 1) vcap8) y → Calls Tryd.prog 12 #[.pointer (some ⟨gb, 0, none⟩), .int .i64 (kb : Int)] y fun e w' => e = .returned (.tuple #[.int .i64 (cnt (fun y => (jn f a b) y == (jn f a b) kb) K : Int), .nilIface]) ∧ Below y.heap.size y w') := fun y hy => by
                  obtain ⟨O, g1, _⟩ := hy.gl.st
                  exact g1.size kb hkbK
                have hLe : Hid (∀ y, US w gb K ((jn f a b) :: (f :: fs)) (.slice (some ⟨g8, 0, none⟩) (D8 + 1) vcap8) y → Calls Tryd.prog 13 #[.pointer (some ⟨gb, 0, none⟩), .int .i64 (kb : Int)] y fun e w' => e = .returned (.tuple #[.int .i64 ((jn f a b) kb : Int), .nilIface]) ∧ Below y.heap.size y w') := fun y hy => by
                  obtain ⟨O, g1, _⟩ := hy.gl.st
                  exact g1.least kb hkbK
                have hSa : Hid (∀ y, US w gb K ((jn f a b) :: (f :: fs)) (.slice (some ⟨g8, 0, none⟩) (D8 + 1) vcap8) y → Calls Tryd.prog 10 #[.pointer (some ⟨gb, 0, none⟩), .int .i64 (kb : Int), .int .i64 (ka : Int)] y fun e w' => e = .returned (.tuple #[.bool (decide ((jn f a b) kb = (jn f a b) ka)), .nilIface]) ∧ Below y.heap.size y w') := fun y hy => by
                  obtain ⟨O, g1, _⟩ := hy.gl.st
                  exact g1.same kb ka hkbK hkaK
                have hFl := hid hT.out.gl.ok
                obtain ⟨S, hS⟩ : ∃ S, cnt (fun y => (jn f a b) y == (jn f a b) kb) K = S := ⟨_, rfl⟩
                obtain ⟨L, hL⟩ : ∃ L, (jn f a b) kb = L := ⟨_, rfl⟩
                obtain ⟨L2, hL2⟩ : ∃ L2, (jn f a b) ka = L2 := ⟨_, rfl⟩
                obtain ⟨C, hC⟩ : ∃ C, fix K (jn f a b) = C := ⟨_, rfl⟩
                have hSK : S ≤ K := hS ▸ cnt_le _ _
                have hCK : C ≤ K := hC ▸ cnt_le _ _
                have hLK : L ≤ kb := hL ▸ hFl.out.1 kb hkbK
                have hLK2 : L2 ≤ ka := hL2 ▸ hFl.out.1 ka hkaK
                rw [hS] at hSz
                rw [hL] at hLe
                rw [hL, hL2] at hSa
                obtain ⟨X, hX⟩ : ∃ X : Bool, decide (L = L2) = X := ⟨_, rfl⟩
                rw [hX] at hSa
                have qSz : Hid (∀ y, Ls y (.slice (some ⟨ub6, 0, none⟩) K ucap6) K (jn f a b) → Calls Tryd.prog 14 #[.slice (some ⟨ub6, 0, none⟩) K ucap6, .int .i64 (kb : Int)] y fun e w' => e = .returned (.int .i64 (S : Int)) ∧ ∃ m, w' = y.drewN m) := fun y hy => by
                  have := rsize_ok _ K kb (jn f a b) y hy (by omega) hkbK
                  rw [hS] at this
                  exact this
                have qCo : Hid (∀ y, Ls y (.slice (some ⟨ub6, 0, none⟩) K ucap6) K (jn f a b) → Calls Tryd.prog 16 #[.slice (some ⟨ub6, 0, none⟩) K ucap6] y fun e w' => e = .returned (.int .i64 (C : Int)) ∧ w' = y) := fun y hy => by
                  have := rcount_ok _ K (jn f a b) y hy (by omega)
                  rw [hC] at this
                  exact this
                have qGc : Hid (∀ y, US w gb K ((jn f a b) :: (f :: fs)) (.slice (some ⟨g8, 0, none⟩) (D8 + 1) vcap8) y → Calls Tryd.prog 15 #[.pointer (some ⟨gb, 0, none⟩)] y fun e w' => e = .returned (.int .i64 (C : Int)) ∧ ∃ m, w' = y.drewN m) := fun y hy => by
                  obtain ⟨O, g1, _⟩ := hy.gl.st
                  have := g1.countQ
                  rw [hC] at this
                  exact this
                have qSt : Hid (∀ y, US w gb K ((jn f a b) :: (f :: fs)) (.slice (some ⟨g8, 0, none⟩) (D8 + 1) vcap8) y → Calls Tryd.prog 17 #[.pointer (some ⟨gb, 0, none⟩)] y fun e w' => e = .returned (.int .i64 (D8 : Int)) ∧ w' = y) := fun y hy => by
                  obtain ⟨O, g1, _⟩ := hy.gl.st
                  have := g1.steps
                  rw [hD8] at this
                  exact this.mono fun e w' ⟨e1, e2⟩ => ⟨e1, e2.symm⟩
                go_wp2_with fail
                try rw [hkb]
                refine (hSz.out _ hT.out).mono ?_
                rintro e w11 ⟨rfl, b11⟩
                have hT1 := hid (hT.out.more b11)
                have hU1 := hid (hU.out.below b11)
                clear b11
                go_wp2_with fail
                try rw [hkb]
                refine (hLe.out _ hT1.out).mono ?_
                rintro e w12 ⟨rfl, b12⟩
                have hT2 := hid (hT1.out.more b12)
                have hU2 := hid (hU1.out.below b12)
                clear b12
                go_wp2_with fail
                try rw [hkb]
                try rw [hka]
                refine (hSa.out _ hT2.out).mono ?_
                rintro e w13 ⟨rfl, b13⟩
                have hT3 := hid (hT2.out.more b13)
                have hU3 := hid (hU2.out.below b13)
                clear b13 hT1 hT2 hU1 hU2 hSz hLe hSa
                obtain ⟨_, _, e9, _, _, _, _, _, hcell⟩ := id hU3.out
                simp only [Value.slice.injEq, Option.some.injEq, Addr.mk.injEq, and_true, true_and] at e9
                obtain ⟨rfl, rfl⟩ := e9
                have ckb := hcell kb hkbK
                have cka := hcell ka hkaK
                rw [hL] at ckb
                rw [hL2] at cka
                have j1 : (0 : Int) ≤ (kb : Int) := by omega
                have j2 : (kb : Int) < (K : Int) := by omega
                have j3 : (0 : Int) ≤ (ka : Int) := by omega
                have j4 : (ka : Int) < (K : Int) := by omega
                have j5 : IntKind.i64.wrap (((D8 + 1 : Nat) : Int) - 1) = (D8 : Int) := by rw [IntKind.wrap_i64]; omega
                have hLL : ((L : Int) == (L2 : Int)) = X := by rw [← hX]; by_cases e : L = L2 <;> simp [e] <;> omega
                clear hS hL hL2 hC hX hcell
                go_wp2_with fail
                go_quiet ((first | (go_at_call 14; exact Calls.quiet_of (qSz.out _ (hU3.out.below (belowN (Below.refl _ _) _)))) | (go_at_call 16; exact Calls.quiet_of_same (qCo.out _ (hU3.out.below (belowN (Below.refl _ _) _)))) | (go_at_call 15; exact Calls.quiet_of (qGc.out _ (hT3.out.more (belowN (Below.refl _ _) _)))) | (go_at_call 17; exact Calls.quiet_of_same (qSt.out _ (hT3.out.more (belowN (Below.refl _ _) _))))))
                have st9 := hid (hT3.out.more (belowN (Below.refl _ _) nq))
                go_wp2_with fail
                go_roundw
                case rel => exact ⟨t + 1, by omega, by omega, by go_num, ⟨_, _, st9.out, by rw [hD8]; omega⟩⟩
                case measure => simp [intOf]; omega
          · as_aux_lemma =>
              obtain ⟨O, ga, _⟩ := h1.out.gl.st
              have hjb := hid (ga.join_bad q.a q.b hin)
              have hsb : Hid (∀ y, Below w3.heap.size w3 y → Calls Tryd.prog 10 #[.pointer (some ⟨gb, 0, none⟩), .int .i64 q.a, .int .i64 q.b] y fun e w' => e = .returned (.tuple #[.bool false, .iface 48 (.int .i64 12)]) ∧ Below y.heap.size y w') := fun y hy => (ga.more hy).same_bad q.a q.b hin
              have ways : q.a < 0 ∨ (¬ q.a < 0 ∧ (K : Int) ≤ q.a) ∨ ((¬ q.a < 0 ∧ ¬ (K : Int) ≤ q.a) ∧ q.b < 0) ∨ ((¬ q.a < 0 ∧ ¬ (K : Int) ≤ q.a) ∧ (¬ q.b < 0 ∧ (K : Int) ≤ q.b)) := by omega
              clear ga hin
              rcases ways with y1 | ⟨y1, y2⟩ | ⟨⟨y1, y2⟩, y3⟩ | ⟨⟨y1, y2⟩, y3, y4⟩
              all_goals
                first
                  | (have s1 : decide (q.a < 0) = true := decide_eq_true y1)
                  | (have s1 : decide (q.a < 0) = false := decide_eq_false y1; first
                      | (have s2 : decide ((K : Int) ≤ q.a) = true := decide_eq_true y2)
                      | (have s2 : decide ((K : Int) ≤ q.a) = false := decide_eq_false y2; first
                          | (have s3 : decide (q.b < 0) = true := decide_eq_true y3)
                          | (have s3 : decide (q.b < 0) = false := decide_eq_false y3; have s4 : decide ((K : Int) ≤ q.b) = true := decide_eq_true y4)))
                go_wp2_with fail
                refine hjb.out.mono ?_
                rintro e w5 ⟨rfl, b5⟩
                have h5 := hid (h1.out.more b5)
                replace b5 := hid b5
                go_wp2_with fail
                refine (hsb.out _ b5.out).mono ?_
                rintro e w6 ⟨rfl, b6⟩
                have h6 := hid (h5.out.more b6)
                clear b5 b6 h5
                go_wp2_with fail
                refine (hnum.out 12 _ h6.out.gl.below).mono ?_
                rintro e w7 ⟨rfl, b7⟩
                have h7 := hid (h6.out.more b7)
                clear b7 h6
                go_wp2_with fail
                refine (hnum.out 12 _ h7.out.gl.below).mono ?_
                rintro e w8 ⟨rfl, b8⟩
                have st8 := hid (h7.out.more b8)
                clear b8 h7 h1 hu0 hu3 x0 hjb hsb
                go_wp2_with fail
                go_roundw
                case rel => exact ⟨t + 1, by omega, by omega, by go_num, ⟨_, _, by rw [hD] at st8; exact st8.out, by rw [hD]; omega⟩⟩
                case measure => simp [intOf]; omega
    · have hstop : qs.length ≤ t ∨ (t < qs.length ∧ 80 ≤ t) := by omega
      clear hgo
      obtain ⟨f, fs, h1, _⟩ := hst.out
      replace h1 := hid h1
      clear hst
      rcases hstop with hstop | ⟨hstop1, hstop2⟩
      all_goals
        go_wp2_with fail
        refine (sure_ok _).mono ?_
        rintro e ws ⟨rfl, bs⟩
        have hs := hid (h1.out.more bs).gl.below
        clear bs
        go_wp2_with fail
        go_ret
        exact ⟨rfl, hs.out⟩

end Go.Proofs.YtbjodjpdfpcjjaaDoor
