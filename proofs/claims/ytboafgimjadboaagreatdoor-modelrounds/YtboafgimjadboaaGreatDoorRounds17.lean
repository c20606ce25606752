/- The law ModelRounds, walked. -/
import Derived.Test.YtboafgimjadboaaGreatDoorBlaw
import Derived.Test.YtboafgimjadboaaGreatDoorBrow
import Derived.Test.YtboafgimjadboaaGreatDoorRef17
namespace Go.Proofs.YtboafgimjadboaaGreatDoor
open Go.RowKit
set_option linter.unusedVariables false

theorem Lw.round {W w1 : World} {A : Nat} {vv ev lv uv ue ul : Value} {m m' : Mo} (h : Lw W w1 A vv ev lv m) (hh : m'.vs.length ≤ 1000 ∧ m'.es.length ≤ 1000 ∧ m'.l.length ≤ 1000) (y : World) (hy : Below w1.heap.size w1 y) (hm : Mp y uv ue ul m') :
    Calls Tryz.prog 11 #[.agg #[.int .i64 m'.n, uv, ue, ul]] y fun e w' => Below y.heap.size y w' ∧ ((May m' ∧ ∃ a n c, e = .returned (.tuple #[.slice a n c, .nilIface]) ∧ Rg y.heap.size w' (.slice a n c) (rws m')) ∨ (¬ May m' ∧ e = .returned (.tuple #[.slice none 0 0, .iface 67 (.int .i64 17)]))) := by
  refine (round_ok hm rfl (h.tab y hy) (h.two y hy) hh.1 hh.2.1 hh.2.2).mono ?_
  rintro e w' ⟨b, ⟨h1, u, rfl, hr⟩ | h1⟩
  · obtain ⟨us, h2, h3, h4⟩ := id hr
    obtain ⟨a, c, rfl, _⟩ := own_any h3
    exact ⟨b, .inl ⟨h1, a, _, c, rfl, hr⟩⟩
  · exact ⟨b, .inr h1⟩

theorem rws_at {m : Mo} {v : Nat} (h : v < m.vs.length) : ((rws m)[v]?).getD [] = row17 m v := by
  unfold rws
  rw [rwB_get h]; rfl

set_option maxRecDepth 100000 in
set_option maxHeartbeats 4000000 in
theorem rounds_law {W : World} {vv ev lv : Value} {m : Mo} (hm : Mp W vv ev lv m) (hg : Handle W) (hT : Ar.Tab W) (h2 : 2 ≤ W.heap.size) :
    Calls Tryz.prog 7 #[.agg #[.int .i64 m.n, vv, ev, lv]] W fun e W' => e = .returned (.bool true) ∧ Below W.heap.size W W' := by
  obtain ⟨va, vn, vc, ea, en, ec, la, ln, lc, rfl, rfl, rfl⟩ := mp_slices hm
  have hl := Lw.new hm hg hT h2
  obtain ⟨w1, hw1⟩ : ∃ w1, W.alloc (.cells #[.int .i64 m.n, .slice va vn vc, .slice ea en ec, .slice la ln lc] 25) = w1 := ⟨_, rfl⟩
  rw [hw1] at hl
  replace hl := hid hl
  clear hm hg hT h2
  go_enter Tryz.func7, Tryz.ntmps7
  go_upto_region 1 with fail
  try rw [hw1]
  clear hw1
  obtain ⟨c0, c1, c2, c3⟩ := hl.out.box w1 (Below.refl _ _)
  by_cases hh : Hg m
  · have hq := hid (hl.out.huge hh w1 (Below.refl _ _))
    clear hh
    go_wp2_with fail
    refine hq.out.mono ?_
    rintro e w2 ⟨rfl, b2⟩
    replace b2 := hid b2
    clear hq
    go_wp2_with fail
    refine (hl.out.sure w2 b2.out).mono ?_
    rintro e w3 ⟨rfl, b3⟩
    have hb := hid (hl.out.bel.trans ((b2.out.trans (b3.mono b2.out.size)).mono hl.out.bel.size))
    clear b3
    go_wp2_with fail
    go_ret
    exact ⟨rfl, hb.out⟩
  · have hq := hid (hl.out.small hh w1 (Below.refl _ _))
    replace hh := hid hh
    go_wp2_with fail
    refine hq.out.mono ?_
    rintro e w2 ⟨rfl, b2⟩
    obtain ⟨d0, d1, d2, d3⟩ := hl.out.box w2 b2
    replace b2 := hid b2
    clear hq c0 c1 c2 c3
    go_wp2_with fail
    refine (hl.out.give hh.out w2 b2.out).mono ?_
    rintro e w3 ⟨uv, ue, ul, rfl, hm3, b3⟩
    have b3' := hid (b2.out.trans (b3.mono b2.out.size))
    have hsz : Hid (m.vs.length ≤ 40 ∧ m.es.length ≤ 40 ∧ m.l.length ≤ 40) := by
      have := hh.out
      unfold Hg at this
      exact ⟨by omega, by omega, by omega⟩
    have hrd := hid (hl.out.round ⟨by have := hsz.out; omega, by have := hsz.out; omega, by have := hsz.out; omega⟩ w3 b3'.out hm3)
    clear b3 d0 d1 d2 d3 b2 hm3
    go_wp2_with fail
    refine hrd.out.mono ?_
    rintro e w4 ⟨b4, ⟨hmay, ra, rn, rc, rfl, hr⟩ | ⟨hno, rfl⟩⟩
    · have b4' := hid (b3'.out.trans (b4.mono b3'.out.size))
      have hdr := hid (fun (y : World) (hy : Below w1.heap.size w1 y) => rdarts17_ok (n := m.n) (hl.out.mp y hy) (by have := hsz.out; omega))
      obtain ⟨_, _, ht, hc, _⟩ := id hmay
      obtain ⟨a', c', e1, hrc, ⟨hrm, _⟩, hrow⟩ := hr.rl
      simp only [Value.slice.injEq] at e1
      obtain ⟨rfl, hrn, rfl⟩ := e1
      rw [rws_len] at hrn hrow hrc
      have hV := (hl.out.mp w4 b4'.out).vs
      have hE := (hl.out.mp w4 b4'.out).es
      have hLg := (hl.out.mp w4 b4'.out).l
      obtain ⟨va', vn', vc', e2, hVr, _⟩ := hV
      simp only [Value.slice.injEq] at e2
      obtain ⟨rfl, rfl, rfl⟩ := e2
      have hvn := hVr.len
      obtain ⟨ea', en', ec', e3, hEr, _⟩ := hE
      simp only [Value.slice.injEq] at e3
      obtain ⟨rfl, rfl, rfl⟩ := e3
      have hlln : m.l.length = ln := by
        obtain ⟨_, _, _, e4, hL, _⟩ := hLg
        simp only [Value.slice.injEq] at e4
        rw [e4.2.1]; exact hL.len
      rw [hvn] at hrn hrow hrc
      subst hrn
      have hall := hid (all_dts ht hc)
      have hsum := hid (fun (v : Nat) (hv : v ≤ rn) => sumL_le (rm_tn (V := m.vs.length) (E := m.es.length) ht hc (Nat.le_refl _)) v (by rw [hvn]; exact hv))
      have hrow' := hid hrow
      have hLg' := hid hLg
      have hEr' := hid hEr
      have hlln' := hid hlln
      have hvn' := hid hvn
      have ht' := hid ht
      have hc' := hid hc
      have hbox := hid (fun (y : World) (hy : Below w4.heap.size w4 y) => hl.out.box y (b4'.out.trans (hy.mono b4'.out.size)))
      have hvb : rn ≤ 40 := by have := hsz.out.1; omega
      clear b4 hrd b3' hr hrow hVr hEr hlln hvn ht hc hmay hLg
      go_wp2_with fail
      go_loopw [5, 6, 7, 8, 9] (fun s5 s6 _ _ _ wr => ∃ v : Nat, v ≤ rn ∧ s6 = .int .i64 (v : Int) ∧ s5 = .int .i64 (sumL (Rm m) v : Int) ∧ Hid (Below w4.heap.size w4 wr)) (fun _ s6 _ _ _ _ => rn - (intOf s6).toNat)
      case atStart => exact ⟨0, by omega, by go_num, by go_num, Below.refl _ _⟩
      case round =>
        obtain ⟨v, hv, rfl, rfl, hbr⟩ := hrel
        rcases Nat.lt_or_ge v rn with hlt | hge
        · obtain ⟨rb, ro, xr, rfl, cx, hnl⟩ := hrow'.out v hlt
          rw [rws_at (by rw [hvn'.out]; exact hlt)] at hnl
          obtain ⟨xa, xn, xc, rfl, hxl, ⟨hx1, _, _⟩, hx2, hcell⟩ := hnl
          have hsv := hsum.out (v + 1) hlt
          have hse : sumL (Rm m) (v + 1) = sumL (Rm m) v + xn := by
            show sumL (Rm m) v + (Rm m v).length = _
            unfold Rm
            rw [if_pos (by rw [hvn'.out]; exact hlt), hxl]
          obtain ⟨SM, hSM⟩ : ∃ SM, sumL (Rm m) v = SM := ⟨_, rfl⟩
          rw [hSM] at hse ⊢
          have hSb : SM + xn ≤ 80 := by have := hsz.out.2.1; omega
          have hcx := hid (fun (y : World) (hy : Below w4.heap.size w4 y) => (hy.cell (World.block_lt_of_cell? _ _ cx)).trans cx)
          have hcd := hid (fun (y : World) (hy : Below w4.heap.size w4 y) (j d : Nat) (hd : (row17 m v)[j]? = some d) => by
            obtain ⟨b, o, e, c⟩ := hcell j d hd
            exact (⟨b, o, e, (hy.cell (World.block_lt_of_cell? _ _ c)).trans c⟩ : ∃ b o, xa = some ⟨b, o, none⟩ ∧ y.cell? ⟨b, o + j, none⟩ = some (.int .i64 (d : Int))))
          have hxl' := hid hxl
          have hse' := hid hse
          have q1 := hcx.out wr hbr.out
          have r1 : (0 : Int) ≤ (v : Int) := by omega
          have r2 : (v : Int) < (rn : Int) := by omega
          unfold maxLen at hx2
          clear cx hcell hxl hse hsv hSM
          go_wp2_with fail
          go_loopw [5, 7, 8, 9] (fun s5 s7 _ _ wy => ∃ i : Nat, i ≤ xn ∧ s7 = .int .i64 (i : Int) ∧ s5 = .int .i64 ((SM + i : Nat) : Int) ∧ Hid (Below w4.heap.size w4 wy)) (fun _ s7 _ _ _ => xn - (intOf s7).toNat)
          case atStart => exact ⟨0, by omega, by go_num, by go_num, hbr⟩
          case round =>
            obtain ⟨i, hi, rfl, rfl, hby⟩ := hrel
            clear q1
            have q1 := hcx.out wr hby.out
            rcases Nat.lt_or_ge i xn with hil | hig
            · obtain ⟨d, hd⟩ : ∃ d, (row17 m v)[i]? = some d := ⟨_, List.getElem?_eq_getElem (by rw [hxl'.out]; exact hil)⟩
              obtain ⟨hlv, hfr, hnx, x0, hx0, hle⟩ := row_at ht'.out hc'.out hd
              rw [hxl'.out] at hnx
              obtain ⟨xb, xo, rfl, q2⟩ := hcd.out wr hby.out i d hd
              obtain ⟨b3, o3, e3, q3⟩ := hcd.out wr hby.out _ _ hnx
              simp only [Option.some.injEq, Addr.mk.injEq, and_true] at e3
              obtain ⟨rfl, rfl⟩ := e3
              obtain ⟨b4, o4, e4, q4⟩ := hcd.out wr hby.out _ _ hx0
              simp only [Option.some.injEq, Addr.mk.injEq, and_true] at e4
              obtain ⟨rfl, rfl⟩ := e4
              rw [Nat.add_zero] at q4
              have hdk := (ht'.out.dart hlv).1
              obtain ⟨lb, lo, lcap, e5, l1, l2, q5, q6, l3, l4⟩ := (hLg'.out.below hby.out).dart hdk
              simp only [Value.slice.injEq] at e5
              obtain ⟨rfl, rfl, rfl⟩ := e5
              obtain ⟨p, hp⟩ : ∃ p, m.es[d / 2]? = some p := ⟨_, List.getElem?_eq_getElem hlv.lt⟩
              obtain ⟨eb, eo, rfl, _, q7⟩ := (hEr'.out.below hby.out).cell _ _ hp
              have hp1 : p.2 = 1 := by
                have := hlv
                unfold Lv at this
                rw [hp] at this
                exact this
              rw [hp1] at q7
              obtain ⟨q8, q9, q10, q11⟩ := hbox.out wr hby.out
              obtain ⟨f1, f2⟩ := half_int d
              have hlen := hEr'.out.len
              have hEl := hlv.lt
              have hdl : d / 2 < m.l.length := by unfold Mo.k at hdk; omega
              have hds : d % 2 < 2 := by omega
              obtain ⟨E, hE⟩ : ∃ E, d / 2 = E := ⟨_, rfl⟩
              obtain ⟨S, hS⟩ : ∃ S, d % 2 = S := ⟨_, rfl⟩
              obtain ⟨G, hG⟩ : ∃ G, m.nd d = G := ⟨_, rfl⟩
              rw [hfr] at q5 l3
              rw [hG] at q3 q6 l4
              rw [hE] at f1 q5 q6 q7 hEl hdl
              rw [hS] at f2 q5 q6 hds
              have hL40 := hsz.out.2.2
              have hE40 := hsz.out.2.1
              rw [hlen] at hEl hE40
              have i1 : (0 : Int) ≤ (i : Int) := by omega
              have i2 : (i : Int) < (xn : Int) := by omega
              have i3 : (0 : Int) ≤ (d : Int) := by omega
              have t1 : decide ((d : Int) < 0) = false := decide_eq_false (by omega)
              have t2 : decide ((E : Int) ≥ (m.l.length : Int)) = false := decide_eq_false (by omega)
              have t2' : decide ((m.l.length : Int) ≤ (E : Int)) = false := decide_eq_false (by omega)
              have t2'' : decide (m.l.length ≤ E) = false := decide_eq_false (by omega)
              have t3 : decide ((d : Int) < (x0 : Int)) = false := decide_eq_false (by omega)
              have t3' : decide (d < x0) = false := decide_eq_false (by omega)
              have i4 : (0 : Int) ≤ (E : Int) := by omega
              have i5 : (E : Int) < (m.l.length : Int) := by omega
              have i6 : (E : Int) < (en : Int) := by omega
              have i7 : (0 : Int) ≤ (S : Int) := by omega
              have i8 : (S : Int) < 2 := by omega
              have i9 : (0 : Int) < (xn : Int) := by omega
              have i10 : ¬ ((xn : Int) = 0) := by omega
              have i11 : ¬ (xn = 0) := by omega
              have w1' : wrap64 (E : Int) = (E : Int) := IntWalk.wrap64_in _ ⟨by omega, by omega⟩
              have w2' : IntKind.i64.wrap (v : Int) = (v : Int) := by rw [IntKind.wrap_i64]; omega
              have w3' : IntKind.i64.wrap (G : Int) = (G : Int) := by rw [IntKind.wrap_i64]; omega
              obtain ⟨K, hK⟩ : ∃ K, (i + 1) % xn = K := ⟨_, rfl⟩
              have hKx : K < xn := by rw [← hK]; exact Nat.mod_lt _ (by omega)
              have f3 : ((i : Int) + 1).tmod (xn : Int) = (K : Int) := by
                rw [Int.tmod_eq_emod_of_nonneg (by omega), ← hK, show (i : Int) + 1 = ((i + 1 : Nat) : Int) from by omega, ← Int.natCast_emod]
              rw [hK] at q3
              have i12 : (0 : Int) ≤ (K : Int) := by omega
              have i13 : (K : Int) < (xn : Int) := by omega
              have g1 : IntKind.i64.wrap ((i : Int) + 1) = (i : Int) + 1 := by rw [IntKind.wrap_i64]; omega
              have g2 : wrap64 ((i : Int) + 1) = (i : Int) + 1 := IntWalk.wrap64_in _ ⟨by omega, by omega⟩
              have g3 : IntKind.i64.wrap (K : Int) = (K : Int) := by rw [IntKind.wrap_i64]; omega
              have g4 : wrap64 (K : Int) = (K : Int) := IntWalk.wrap64_in _ ⟨by omega, by omega⟩
              have f4 : (IntKind.i64.wrap ((i : Int) + 1)).tmod (xn : Int) = (K : Int) := by rw [g1]; exact f3
              have hbn : Hid (∀ k, Below w4.heap.size w4 (wr.drewN k)) := fun k => belowN hby.out k
              clear hd hlv hfr hnx hx0 hle hdk l1 l2 hp hp1 hE hS hG hK hKx hlen
              go_upto_region 14 with fail
              go_quiet (fail)
              have hkeep : Hid (SM + xn ≤ 80 ∧ i < xn ∧ v < rn ∧ rn ≤ 40) := ⟨hSb, hil, hlt, hvb⟩
              clear g1 g2 g3 g4 f3 f4 i12 i13 i9 i10 i11 q2 q3 hSb hil hlt hvb hrc hx1 hx2 hL40 hE40 l3 l4 hEl hdl hds hi hv hrm
              go_upto_if 122 with fail
              obtain ⟨hSb, hil, hlt, hvb⟩ := hkeep.out
              go_wp2_with fail
              go_roundw
              case rel => exact ⟨i + 1, by omega, by go_num, by go_num, hid (hbn.out _)⟩
              case measure => simp [intOf]; omega
            · obtain rfl : i = xn := by omega
              go_wp2_with fail
              go_roundw
              case rel => exact ⟨v + 1, by omega, by go_num, by rw [hse'.out], hby⟩
              case measure => simp [intOf]; omega
        · obtain rfl : v = rn := by omega
          have hD : sumL (Rm m) v = (dtl m).length := by rw [← hvn'.out]; exact hall.out
          obtain ⟨D, hDD⟩ : ∃ D, (dtl m).length = D := ⟨_, rfl⟩
          rw [hD, hDD]
          have hb1 := hid (b4'.out.trans (hbr.out.mono b4'.out.size))
          have hdq := hid (hdr.out wr hb1.out)
          obtain ⟨q8, q9, q10, q11⟩ := hbox.out wr hbr.out
          clear hD
          go_wp2_with fail
          refine hdq.out.mono ?_
          rintro e w5 ⟨u, rfl, hu, b5⟩
          unfold Rw at hu
          rw [hDD] at hu
          obtain ⟨ua, uc, rfl, _, _⟩ := own_any hu
          have b5' := hid (hb1.out.trans (b5.mono hb1.out.size))
          obtain ⟨s8, s9, s10, s11⟩ := hl.out.box w5 b5'.out
          have t7 : ((D : Int) == (D : Int)) = true := by simp
          clear b5 hu hdq hDD q8 q9 q10 q11
          go_wp2_with fail
          refine (hl.out.sure w5 b5'.out).mono ?_
          rintro e w6 ⟨rfl, b6⟩
          have hb := hid (hl.out.bel.trans ((b5'.out.trans (b6.mono b5'.out.size)).mono hl.out.bel.size))
          clear b6
          go_wp2_with fail
          go_ret
          exact ⟨rfl, hb.out⟩
    · have b4' := hid (b3'.out.trans (b4.mono b3'.out.size))
      clear b4 hrd b3'
      go_wp2_with fail
      refine (hl.out.num17 w4 b4'.out).mono ?_
      rintro e w5 ⟨rfl, b5⟩
      have b5' := hid (b4'.out.trans (b5.mono b4'.out.size))
      clear b5 b4'
      go_wp2_with fail
      refine (hl.out.sure w5 b5'.out).mono ?_
      rintro e w6 ⟨rfl, b6⟩
      have hb := hid (hl.out.bel.trans ((b5'.out.trans (b6.mono b5'.out.size)).mono hl.out.bel.size))
      clear b6
      go_wp2_with fail
      go_ret
      exact ⟨rfl, hb.out⟩

end Go.Proofs.YtboafgimjadboaaGreatDoor
