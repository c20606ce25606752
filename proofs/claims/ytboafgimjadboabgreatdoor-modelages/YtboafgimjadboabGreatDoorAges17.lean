/- The law ModelAges, walked. -/
import Derived.Test.YtboafgimjadboabGreatDoorBlaw
import Derived.Test.YtboafgimjadboabGreatDoorBrow
import Derived.Test.YtboafgimjadboabGreatDoorLists11
namespace Go.Proofs.YtboafgimjadboabGreatDoor
open Go.RowKit
set_option linter.unusedVariables false

theorem infoRPlace : (Tryz.prog.info? 41).map (fun i => (i.zero, i.size, i.bytes)) = some (some (.agg #[.int .u32 0, .int .i64 0]), 2, 16) := by kernel_rfl

theorem rpcs_new (w : World) (a s : Int) : ∀ j u, (Ar.pcs [(a, s)])[j]? = some u → (w.alloc (.cells #[.int .u32 a, .int .i64 s] 41)).cell? ((⟨w.heap.size, 0, none⟩ : Addr).add j) = some u := by
  intro j u hu
  rw [add_plain, Nat.zero_add]
  exact cell_of (new_of w _ _) (by simpa [Ar.pcs] using hu)

theorem Lw.round {W w1 : World} {A : Nat} {vv ev lv uv ue ul : Value} {m m' : Mo} (h : Lw W w1 A vv ev lv m) (hh : m'.vs.length ≤ 1000 ∧ m'.es.length ≤ 1000 ∧ m'.l.length ≤ 1000) (y : World) (hy : Below w1.heap.size w1 y) (hm : Mp y uv ue ul m') :
    Calls Tryz.prog 6 #[.agg #[.int .i64 m'.n, uv, ue, ul]] y fun e w' => Below y.heap.size y w' ∧ ((May m' ∧ ∃ a n c, e = .returned (.tuple #[.slice a n c, .nilIface]) ∧ Rg y.heap.size w' (.slice a n c) (rws m')) ∨ (¬ May m' ∧ e = .returned (.tuple #[.slice none 0 0, .iface 52 (.int .i64 17)]))) := by
  refine (round_ok hm rfl (h.tab y hy) (h.two y hy) hh.1 hh.2.1 hh.2.2).mono ?_
  rintro e w' ⟨b, ⟨h1, u, rfl, hr⟩ | h1⟩
  · obtain ⟨us, h2, h3, h4⟩ := id hr
    obtain ⟨a, c, rfl, _⟩ := own_any h3
    exact ⟨b, .inl ⟨h1, a, _, c, rfl, hr⟩⟩
  · exact ⟨b, .inr h1⟩

theorem take_map {α β : Type} (f : α → β) {l : List α} {j : Nat} {p : α} (h : l[j]? = some p) : (l.map f).take (j + 1) = (l.map f).take j ++ [f p] := by
  rw [List.take_add_one]
  simp [h]

set_option maxRecDepth 100000 in
set_option maxHeartbeats 4000000 in
theorem ages_law {W : World} {vv ev lv : Value} {m : Mo} (hm : Mp W vv ev lv m) (a1 : Int) (h8 : 0 ≤ a1 ∧ a1 ≤ 4294967295) (hg : Handle W) (hT : Ar.Tab W) (h2 : 2 ≤ W.heap.size) :
    Calls Tryz.prog 3 #[.agg #[.int .i64 m.n, vv, ev, lv], .int .u32 a1] W fun e W' => e = .returned (.bool true) ∧ Below W.heap.size W W' := by
  obtain ⟨i0, hif, hz0, hz1, hz2⟩ := info_parts infoRPlace
  obtain ⟨va, vn, vc, ea, en, ec, la, ln, lc, rfl, rfl, rfl⟩ := mp_slices hm
  have hl := Lw.new hm hg hT h2
  obtain ⟨w1, hw1⟩ : ∃ w1, W.alloc (.cells #[.int .i64 m.n, .slice va vn vc, .slice ea en ec, .slice la ln lc] 25) = w1 := ⟨_, rfl⟩
  rw [hw1] at hl
  replace hl := hid hl
  clear hm hg hT h2
  go_enter Tryz.func3, Tryz.ntmps3
  go_upto_region 1 with fail
  try rw [hw1]
  clear hw1
  obtain ⟨c0, c1, c2, c3⟩ := hl.out.box w1 (Below.refl _ _)
  by_cases hsm : Hg m ∨ a1 = 0 ∨ a1 = 4294967295
  · by_cases hh : Hg m
    · have hq := hid (hl.out.huge hh w1 (Below.refl _ _))
      clear hh hsm
      go_wp2_with fail
      refine hq.out.mono ?_
      rintro e w2 ⟨rfl, b2⟩
      replace b2 := hid b2
      clear hq
      go_wp2_with fail
      refine (hl.out.sure w2 b2.out).mono ?_
      rintro e w3 ⟨rfl, b3⟩
      have hb := hid (hl.out.bel.trans ((b2.out.trans (b3.mono b2.out.size)).mono hl.out.bel.size))
      clear b3
      go_wp2_with fail
      go_ret
      exact ⟨rfl, hb.out⟩
    · have hq := hid (hl.out.small hh w1 (Below.refl _ _))
      have h01 : a1 = 0 ∨ ((a1 == 0) = false ∧ a1 = 4294967295) := by
        rcases hsm with q | q | q
        · exact absurd q hh
        · exact .inl q
        · subst q; exact .inr ⟨by decide, rfl⟩
      clear hh hsm
      rcases h01 with rfl | ⟨z1, rfl⟩
      all_goals
        go_wp2_with fail
        refine hq.out.mono ?_
        rintro e w2 ⟨rfl, b2⟩
        replace b2 := hid b2
        clear hq
        go_wp2_with fail
        refine (hl.out.sure w2 b2.out).mono ?_
        rintro e w3 ⟨rfl, b3⟩
        have hb := hid (hl.out.bel.trans ((b2.out.trans (b3.mono b2.out.size)).mono hl.out.bel.size))
        clear b3
        go_wp2_with fail
        go_ret
        exact ⟨rfl, hb.out⟩
  · have hh : ¬ Hg m := fun q => hsm (.inl q)
    have z0 : a1 ≠ 0 := fun q => hsm (.inr (.inl q))
    have z9 : a1 ≠ 4294967295 := fun q => hsm (.inr (.inr q))
    have z1 : (a1 == 0) = false := by simpa using z0
    have z2 : (a1 == 4294967295) = false := by simpa using z9
    have hag : Hid (0 < a1 ∧ a1 < 4294967295) := ⟨by omega, by omega⟩
    have hq := hid (hl.out.small hh w1 (Below.refl _ _))
    replace hh := hid hh
    clear hsm z0 z9 h8
    go_wp2_with fail
    refine hq.out.mono ?_
    rintro e w2 ⟨rfl, b2⟩
    obtain ⟨d0, d1, d2, d3⟩ := hl.out.box w2 b2
    replace b2 := hid b2
    clear hq c0 c1 c2 c3
    go_wp2_with fail
    refine (hl.out.give hh.out w2 b2.out).mono ?_
    rintro e w3 ⟨uv, ue, ul, rfl, hm3, b3⟩
    have b3' := hid (b2.out.trans (b3.mono b2.out.size))
    have hsz : Hid (m.vs.length ≤ 1000 ∧ m.es.length ≤ 1000 ∧ m.l.length ≤ 1000) := by
      have := hh.out
      unfold Hg at this
      exact ⟨by omega, by omega, by omega⟩
    have hrd := hid (hl.out.round hsz.out w3 b3'.out hm3)
    clear b3 d0 d1 d2 d3 b2 hm3
    go_wp2_with fail
    refine hrd.out.mono ?_
    rintro e w4 ⟨b4, ⟨hmay, ra, rn, rc, rfl, hr⟩ | ⟨hno, rfl⟩⟩
    · have b4' := hid (b3'.out.trans (b4.mono b3'.out.size))
      replace hr := hid hr.rl
      replace hmay := hid hmay
      obtain ⟨d0, d1, d2, d3⟩ := hl.out.box w4 b4'.out
      clear b4 hrd b3'
      have n5 := new_of w4 #[.int .i64 m.n, .slice none 0 0, .slice ea en ec, .slice la ln lc] 25
      have b45 := balloc w4 (.cells #[.int .i64 m.n, .slice none 0 0, .slice ea en ec, .slice la ln lc] 25)
      go_upto_region 8 with fail
      obtain ⟨w5, hw5⟩ : ∃ w5, w4.alloc (.cells #[.int .i64 m.n, .slice none 0 0, .slice ea en ec, .slice la ln lc] 25) = w5 := ⟨_, rfl⟩
      rw [hw5] at n5 b45 ⊢
      have hAw := World.block_lt_of_cell? w1 _ (hl.out.box w1 (Below.refl _ _)).1
      obtain ⟨X, hX⟩ : ∃ X, w4.heap.size = X := ⟨_, rfl⟩
      have b4x := b4'.out.size
      have b5 := hid (b4'.out.trans (b45.mono b4'.out.size))
      rw [hX] at n5 b45 b4x ⊢
      have hX5 := (Array.getElem?_eq_some_iff.1 n5).1
      have hup := hid (fun (y : World) (hy : Ar.Turned (fun k => k = X) w5 y) => b5.out.trans (hy.below (fun k hk => by rw [hk]; exact b4x) b5.out.size))
      have hup4 : Hid (∀ y : World, Ar.Turned (fun k => k = X) w5 y → Below w4.heap.size w4 y) := fun y hy => by
        rw [hX]
        exact b45.trans (hy.below (fun k hk => by rw [hk]; exact Nat.le_refl _) (by omega))
      have hvs := hid (hl.out.mp w5 b5.out).vs
      obtain ⟨_, _, _, e2, hVr, hv1, hv2, hv3⟩ := hvs.out
      simp only [Value.slice.injEq] at e2
      obtain ⟨rfl, rfl, rfl⟩ := e2
      have hvn := hid hVr.len
      have hnum := hid hVr.num
      have hvb : vn ≤ 1000 := by rw [← hvn.out]; exact hsz.out.1
      obtain ⟨l5, hl5⟩ : ∃ l5, w5.heap.size = l5 := ⟨_, rfl⟩
      replace hX := hid hX
      have hT5 := hid (Ar.Turned.refl (fun k => k = X) w5)
      have n5' := hid n5
      have b45' := hid b45
      clear d0 d1 d2 d3 hVr hw5 b45 n5
      have d1 := (hl.out.box w5 b5.out).2.1
      go_wp2_with fail
      go_loopw [8, 9] (fun s8 _ wr => ∃ j : Nat, j ≤ vn ∧ s8 = .int .i64 (j : Int) ∧ Hid (∃ sa sc, wr.heap[X]? = some (.cells #[.int .i64 m.n, .slice sa j sc, .slice ea en ec, .slice la ln lc] 25 (0, 0)) ∧ wr.ownsRow w5.heap.size 41 2 (.slice sa j sc) j (Ar.pcs ((reage a1 m.vs).take j)) ∧ Ar.Turned (fun k => k = X) w5 wr)) (fun s8 _ _ => vn - (intOf s8).toNat)
      case atStart => exact ⟨0, by omega, by go_num, none, 0, n5'.out, World.ownsRow_nil _ _ _ _, hT5.out⟩
      case round =>
        obtain ⟨j, hj, rfl, hst⟩ := hrel
        obtain ⟨sa, sc, hxb, hown, hturn⟩ := hst.out
        have hbw := hid (hup.out wr hturn)
        clear d1
        obtain ⟨d0, d1, d2, d3⟩ := hl.out.box wr hbw.out
        rcases Nat.lt_or_ge j vn with hlt | hge
        · obtain ⟨⟨q0, q1⟩, hp⟩ : ∃ p, m.vs[j]? = some p := ⟨_, List.getElem?_eq_getElem (by rw [hvn.out]; exact hlt)⟩
          obtain ⟨_, _, _, e6, hVw, _⟩ := (hl.out.mp wr hbw.out).vs
          simp only [Value.slice.injEq] at e6
          obtain ⟨rfl, rfl, rfl⟩ := e6
          obtain ⟨b, o, rfl, x0, x1⟩ := hVw.cell j _ hp
          dsimp only at x0 x1
          have j1 : (0 : Int) ≤ (j : Int) := by omega
          have j2 : (j : Int) < (vn : Int) := by omega
          have hXr : X < wr.heap.size := (Array.getElem?_eq_some_iff.1 hxb).1
          have hsr := hturn.size
          have htk : Hid (∀ r : Int × Int, (if q1 = 0 then (a1, q1) else (q0, q1)) = r → (reage a1 m.vs).take (j + 1) = (reage a1 m.vs).take j ++ [r]) := fun r hr => by
            have := take_map (fun p : Int × Int => if p.2 = 0 then (a1, p.2) else p) hp
            rw [← hr]
            exact this
          have hxb' := hid hxb
          have hown' := hid hown
          have hturn' := hid hturn
          clear hst hp hVw hxb hown hturn
          by_cases hq : q1 = 0
          · subst hq
            go_upto_region 14 with fail
            have hrow := hid (htk.out (a1, 0) (by simp))
            obtain ⟨wp, hwp⟩ : ∃ wp, wr.alloc (.cells #[.int .u32 a1, .int .i64 0] 41) = wp := ⟨_, rfl⟩
            have np := new_of wr #[.int .u32 a1, .int .i64 0] 41
            have bp := balloc wr (.cells #[.int .u32 a1, .int .i64 0] 41)
            rw [hwp] at np bp ⊢
            obtain ⟨P, hP⟩ : ∃ P, wr.heap.size = P := ⟨_, rfl⟩
            rw [hP] at np ⊢
            have y0 := cell_of np (j := 0) rfl
            have y1 := cell_of np (j := 1) rfl
            have hxp := (bp.block X hXr).trans hxb'.out
            have y2 := cell_of hxp (j := 1) rfl
            have hownp := ownsRow_below hown'.out bp
            have htp : Ar.Turned (fun k => k = X) w5 wp := hturn'.out.trans (Ar.Turned.ofBelow bp _)
            have hsp := htp.size
            have hj1 : j ≤ 1000 := by omega
            have hXn : X < wp.heap.size := by omega
            replace hxp := hid hxp
            replace htp := hid htp
            replace hP := hid hP
            replace bp := hid bp
            clear hwp np x0 x1 d0 d1 d2 d3 hown' hturn' hxb' htk
            go_wp2_with (at_builtin; refine wpList_append_own _ rfl (.tmp 57) (.tmp 59) 22 rfl w5.heap.size 41 i0 _ 2 16 Tryz.underlying22 hif hz0 hz1 hz2 rfl (by decide) _ _ _ rfl (hownp.alloc _) ⟨wp.heap.size, 0, none⟩ 1 1 (Ar.pcs [(a1, 0)]) rfl rfl (rpcs_new wp a1 0) (Ar.pcs_one _) (by unfold maxLen; omega) (by omega) (by simp; omega) ?_; intro v' w' ho' hg' _; refine Hid.out ?_)
            obtain ⟨sa', sc', rfl, _, _⟩ := own_any ho'
            have hxa : (wp.alloc (.cells #[.int .u32 a1, .int .i64 0] 41)).heap[X]? = some (.cells #[.int .i64 m.n, .slice sa j sc, .slice ea en ec, .slice la ln lc] 25 (0, 0)) := ((balloc wp _).block X hXn).trans hxp.out
            have hxw := (hg'.block X (Array.getElem?_eq_some_iff.1 hxa).1 (own_off hownp (by omega)).symm).trans hxa
            have z1 := cell_of hxw (j := 1) rfl
            have fz := frozen_of hxw (k := 1)
            have hset := set_block hxw (k := 1) (.slice sa' (j + 1) sc')
            have hTn := (((htp.out.alloc (.cells #[.int .u32 a1, .int .i64 0] 41)).then (Ar.Turned.ofGrown (S := fun k => w5.heap.size ≤ k) hg' (fun k hk => (hownp.lt k hk).1)) (fun i hi hS => by omega)).setCell (p := ⟨X, 1, none⟩) rfl (.slice sa' (j + 1) sc'))
            have hown2 := row_kept ho' ((Ar.Turned.refl (fun i => i = X) w').setCell (p := ⟨X, 1, none⟩) rfl (.slice sa' (j + 1) sc')) (own_off ho' (by omega))
            rw [← Ar.pcs_append, ← hrow.out] at hown2
            have hnew := hid (And.intro hset (And.intro hown2 hTn))
            clear hset hown2 hTn hxa hxw ho' hg' hownp y0 y1 y2
            refine hid ?_
            go_wp2_with fail
            go_roundw
            case rel => exact ⟨j + 1, by omega, by go_num, sa', sc', by simpa using hnew.out.1, hnew.out.2.1, hnew.out.2.2⟩
            case measure => simp [intOf]; omega
          · have t1 : (q1 == 0) = false := by simpa using hq
            go_upto_region 14 with fail
            have hrow := hid (htk.out (q0, q1) (by rw [if_neg hq]))
            obtain ⟨wp, hwp⟩ : ∃ wp, wr.alloc (.cells #[.int .u32 q0, .int .i64 q1] 41) = wp := ⟨_, rfl⟩
            have np := new_of wr #[.int .u32 q0, .int .i64 q1] 41
            have bp := balloc wr (.cells #[.int .u32 q0, .int .i64 q1] 41)
            rw [hwp] at np bp ⊢
            obtain ⟨P, hP⟩ : ∃ P, wr.heap.size = P := ⟨_, rfl⟩
            rw [hP] at np ⊢
            have y0 := cell_of np (j := 0) rfl
            have y1 := cell_of np (j := 1) rfl
            have hxp := (bp.block X hXr).trans hxb'.out
            have y2 := cell_of hxp (j := 1) rfl
            have hownp := ownsRow_below hown'.out bp
            have htp : Ar.Turned (fun k => k = X) w5 wp := hturn'.out.trans (Ar.Turned.ofBelow bp _)
            have hsp := htp.size
            have hj1 : j ≤ 1000 := by omega
            have hXn : X < wp.heap.size := by omega
            replace hxp := hid hxp
            replace htp := hid htp
            replace hP := hid hP
            replace bp := hid bp
            clear hwp np x0 x1 d0 d1 d2 d3 hown' hturn' hxb' htk
            go_wp2_with (at_builtin; refine wpList_append_own _ rfl (.tmp 57) (.tmp 59) 22 rfl w5.heap.size 41 i0 _ 2 16 Tryz.underlying22 hif hz0 hz1 hz2 rfl (by decide) _ _ _ rfl (hownp.alloc _) ⟨wp.heap.size, 0, none⟩ 1 1 (Ar.pcs [(q0, q1)]) rfl rfl (rpcs_new wp q0 q1) (Ar.pcs_one _) (by unfold maxLen; omega) (by omega) (by simp; omega) ?_; intro v' w' ho' hg' _; refine Hid.out ?_)
            obtain ⟨sa', sc', rfl, _, _⟩ := own_any ho'
            have hxa : (wp.alloc (.cells #[.int .u32 q0, .int .i64 q1] 41)).heap[X]? = some (.cells #[.int .i64 m.n, .slice sa j sc, .slice ea en ec, .slice la ln lc] 25 (0, 0)) := ((balloc wp _).block X hXn).trans hxp.out
            have hxw := (hg'.block X (Array.getElem?_eq_some_iff.1 hxa).1 (own_off hownp (by omega)).symm).trans hxa
            have z1 := cell_of hxw (j := 1) rfl
            have fz := frozen_of hxw (k := 1)
            have hset := set_block hxw (k := 1) (.slice sa' (j + 1) sc')
            have hTn := (((htp.out.alloc (.cells #[.int .u32 q0, .int .i64 q1] 41)).then (Ar.Turned.ofGrown (S := fun k => w5.heap.size ≤ k) hg' (fun k hk => (hownp.lt k hk).1)) (fun i hi hS => by omega)).setCell (p := ⟨X, 1, none⟩) rfl (.slice sa' (j + 1) sc'))
            have hown2 := row_kept ho' ((Ar.Turned.refl (fun i => i = X) w').setCell (p := ⟨X, 1, none⟩) rfl (.slice sa' (j + 1) sc')) (own_off ho' (by omega))
            rw [← Ar.pcs_append, ← hrow.out] at hown2
            have hnew := hid (And.intro hset (And.intro hown2 hTn))
            clear hset hown2 hTn hxa hxw ho' hg' hownp y0 y1 y2
            refine hid ?_
            go_wp2_with fail
            go_roundw
            case rel => exact ⟨j + 1, by omega, by go_num, sa', sc', by simpa using hnew.out.1, hnew.out.2.1, hnew.out.2.2⟩
            case measure => simp [intOf]; omega
        · obtain rfl : j = vn := by omega
          have hrl : (reage a1 m.vs).length = j := by rw [reage_len]; exact hvn.out
          have hfull : wr.ownsRow w5.heap.size 41 2 (.slice sa j sc) (m.age a1).vs.length (Ar.pcs (m.age a1).vs) := by
            show wr.ownsRow w5.heap.size 41 2 (.slice sa j sc) (reage a1 m.vs).length (Ar.pcs (reage a1 m.vs))
            have h := hown
            rw [← hrl, List.take_length] at h
            rw [hrl] at h ⊢
            exact h
          have hmA : Mp wr (.slice sa j sc) (.slice ea en ec) (.slice la ln lc) (m.age a1) := ⟨pv_of hfull (fun p hp => by
            obtain ⟨q, hq, rfl⟩ := List.mem_map.1 hp
            have h1 := hnum.out q hq
            have h2 := hag.out
            split
            · show 0 ≤ a1 ∧ a1 < 4294967296; omega
            · exact h1), (hl.out.mp wr hbw.out).es, (hl.out.mp wr hbw.out).l⟩
          have hvA : (m.age a1).vs.length ≤ 1000 := by show (reage a1 m.vs).length ≤ 1000; omega
          have hgv := hid (giveM_ok (n := m.n) hmA hvA hsz.out.2.1 hsz.out.2.2)
          have y0 := cell_of hxb (j := 0) rfl
          have y1 := cell_of hxb (j := 1) rfl
          have y2 := cell_of hxb (j := 2) rfl
          have y3 := cell_of hxb (j := 3) rfl
          have hb4 := hid (hup4.out wr hturn)
          replace hvA := hid hvA
          clear hst hxb hown hturn hfull hmA d0 d2 d3 hrl
          go_wp2_with fail
          refine hgv.out.mono ?_
          rintro e w6 ⟨uv', ue', ul', rfl, hm6, b6⟩
          have b6' := hid (hbw.out.trans (b6.mono hbw.out.size))
          have hb46 := hid (hb4.out.trans (b6.mono hb4.out.size))
          have hrd2 := hid (hl.out.round (m' := m.age a1) ⟨hvA.out, hsz.out.2.1, hsz.out.2.2⟩ w6 b6'.out hm6)
          clear b6 hm6 hgv hb4 hbw y0 y1 y2 y3
          go_wp2_with fail
          refine hrd2.out.mono ?_
          rintro e w7 ⟨b7, ⟨_, rb, rm, rd, rfl, hr2⟩ | ⟨hno, rfl⟩⟩
          · have b7' := hid (b6'.out.trans (b7.mono b6'.out.size))
            have hb47 := hb46.out.trans (b7.mono hb46.out.size)
            have hls := hid (lists_ok _ _ (rws m) w7 (hr.out.below hb47) (by have := hr2.rl; rw [age_rows] at this; exact this))
            clear b7 hr2 hrd2 b6' hb46 hb47
            go_wp2_with fail
            refine hls.out.mono ?_
            rintro e w8 ⟨rfl, q, rfl⟩
            have b8' := hid (belowN b7'.out q)
            go_wp2_with fail
            refine (hl.out.sure _ b8'.out).mono ?_
            rintro e w9 ⟨rfl, b9⟩
            have hb := hid (hl.out.bel.trans ((b8'.out.trans (b9.mono b8'.out.size)).mono hl.out.bel.size))
            clear b9
            go_wp2_with fail
            go_ret
            exact ⟨rfl, hb.out⟩
          · exact absurd (age_may hmay.out hag.out.1 hag.out.2) hno
    · have b4' := hid (b3'.out.trans (b4.mono b3'.out.size))
      clear b4 hrd b3'
      go_wp2_with fail
      refine (hl.out.num17 w4 b4'.out).mono ?_
      rintro e w5 ⟨rfl, b5⟩
      have b5' := hid (b4'.out.trans (b5.mono b4'.out.size))
      clear b5 b4'
      go_wp2_with fail
      refine (hl.out.sure w5 b5'.out).mono ?_
      rintro e w6 ⟨rfl, b6⟩
      have hb := hid (hl.out.bel.trans ((b5'.out.trans (b6.mono b5'.out.size)).mono hl.out.bel.size))
      clear b6
      go_wp2_with fail
      go_ret
      exact ⟨rfl, hb.out⟩

end Go.Proofs.YtboafgimjadboabGreatDoor
