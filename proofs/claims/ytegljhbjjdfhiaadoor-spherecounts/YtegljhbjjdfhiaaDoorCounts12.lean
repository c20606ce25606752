/- 'SphereCounts', walked. -/
import Derived.Test.YtegljhbjjdfhiaaDoorRFlat12
import Derived.Test.YtegljhbjjdfhiaaDoorLaws11
import Derived.Test.YtegljhbjjdfhiaaDoorRCheck12
import Derived.Test.YtegljhbjjdfhiaaDoorBcount
namespace Go.Proofs.YtegljhbjjdfhiaaDoor
open Go.RowKit
set_option linter.unusedVariables false

theorem IV.rn {w : World} {v : Value} {l : List Nat} (h : IV w v (l.map (fun x : Nat => (x : Int)))) : RN w v l := by
  obtain ⟨ad, n, cap, h1, h2⟩ := h
  refine ⟨ad, n, cap, h1, by have := h2.len; simpa using this, h2.big, fun j x hx => ?_⟩
  exact h2.cell j (x : Int) (by simp [hx])

theorem len100 {V : Nat} {R : Nat → List Nat} (h : Tn V 8 R) : ∀ u, u < V → (R u).length ≤ 100 := fun u hu => by
  have := h.len hu
  omega

/-- What is known of a list, at every world behind. -/
structure Lw (V : Nat) (R : Nat → List Nat) (tb : Nat) (rv lv : Value) (c : Int) (r : Value) (s : Bool) (a0 a1 a2 a3 : Int) (wx : World) : Prop where
  er : Er c r
  cnt : ∀ y, Below wx.heap.size wx y → Calls Tryd.prog 7 #[.pointer (some ⟨tb, 0, none⟩), lv] y fun e w' => e = .returned (.tuple #[.agg #[.int .i64 a0, .int .i64 a1, .int .i64 a2, .int .i64 a3], r]) ∧ Below y.heap.size y w'
  flat : ∀ y, Below wx.heap.size wx y → Calls Tryd.prog 9 #[.pointer (some ⟨tb, 0, none⟩), lv] y fun e w' => e = .returned (.tuple #[.bool s, r]) ∧ Below y.heap.size y w'
  chk : ∀ y, Below wx.heap.size wx y → Calls Tryd.prog 10 #[rv, lv] y fun e w' => e = .returned (.int .i64 c) ∧ Below y.heap.size y w'
  bad : c ≠ 0 → s = false ∧ a0 = 0 ∧ a1 = 0 ∧ a2 = 0 ∧ a3 = 0
  rcnt : c = 0 → ∀ y, Below wx.heap.size wx y → Calls Tryd.prog 11 #[rv, lv, .int .i64 (-1)] y fun e w' => e = .returned (.agg #[.int .i64 a0, .int .i64 a1, .int .i64 a2, .int .i64 a3]) ∧ Below y.heap.size y w'
  rflat : c = 0 → ∀ y, Below wx.heap.size wx y → Calls Tryd.prog 12 #[rv, lv] y fun e w' => e = .returned (.bool s) ∧ Below y.heap.size y w'

theorem lw_of {wx : World} {lo tb V : Nat} {R : Nat → List Nat} {rv lv : Value} {zs : List Int} (h : TA wx lo tb V 8 R) (hw : Tw V 8 R) (hr : RT wx rv 8 V R) (hL : IV wx lv zs) (hln : zs.length ≤ 1000) (hV1 : 1 ≤ V) (hV : V ≤ 1000) :
    ∃ c r s a0 a1 a2 a3, Lw V R tb rv lv c r s a0 a1 a2 a3 wx := by
  classical
  have ht := h.tn
  obtain ⟨c, hc⟩ := ck_total V R zs
  have hchk : ∀ y, Below wx.heap.size wx y → Calls Tryd.prog 10 #[rv, lv] y fun e w' => e = .returned (.int .i64 c) ∧ Below y.heap.size y w' := fun y hy => by
    refine (rcheck12_ok rv lv 8 V R zs y (hr.below hy) (hL.below hy) hln hV1 hV (len16 ht)).mono ?_
    rintro e w' ⟨d, rfl, hd, b⟩
    rw [ck_uniq hc hd]
    exact ⟨rfl, b⟩
  by_cases h0 : c = 0
  · subst h0
    obtain ⟨l, rfl, hl⟩ := ck_good hc
    have hln' : l.length ≤ 1000 := by simpa using hln
    obtain ⟨s, hs⟩ : ∃ s : Bool, s = true ↔ Xi V 8 R = 0 := ⟨decide (Xi V 8 R = 0), by simp⟩
    have e0 : k0 (fun _ => true) l = l.length := by unfold k0; simp
    have e1 := Vl.evl_all ht hw hl
    have e2 : (fcs V R (2 * 8)).countP (fun c => (fun _ => true) (og V R (c.headD 0))) = (fcs V R (2 * 8)).length := by simp
    refine ⟨0, .nilIface, s, _, _, _, _, ⟨.inl ⟨rfl, rfl⟩, fun y hy => scount_ok (h.more hy) hw (by decide) hV1 lv l (hL.rn.below hy) hln' hl, fun y hy => sflat_ok (h.more hy) hw (by decide) hV1 lv l (hL.rn.below hy) hln' hl s hs, hchk, fun q => absurd rfl q, fun _ y hy => ?_, fun _ y hy => ?_⟩⟩
    · have := rcount_ok rv lv 8 V R l (-1) (fun _ => true) y (hr.below hy) ht hw (hL.rn.below hy) hl.low hln' (fun v hv => by simp) (by decide) hV1 hV (len100 ht)
      rw [e0, e1, e2] at this
      exact this
    · exact rflat_ok rv lv 8 V R l s y (hr.below hy) ht hw (hL.rn.below hy) hl.low hln' (by rw [hs, Vl.flat ht hw hl]) (by decide) hV1 hV (len100 ht)
  · exact ⟨c, _, false, 0, 0, 0, 0, ⟨.inr ⟨h0, rfl⟩, fun y hy => scount_bad (h.more hy) hw (by decide) hV1 lv zs (hL.below hy) hln c h0 hc, fun y hy => sflat_bad (h.more hy) hw (by decide) hV1 lv zs (hL.below hy) hln c h0 hc, hchk, fun _ => ⟨rfl, rfl, rfl, rfl, rfl⟩, fun q => absurd q h0, fun q => absurd q h0⟩⟩

set_option maxRecDepth 100000 in
set_option maxHeartbeats 8000000 in
theorem counts_law (n : Int) (v : Value) (l : List Ac) (vv : Value) (zs : List Int) (w : World) (hg : Handle w) (hv : AV w v l) (hL : IV w vv zs) :
    Calls Tryd.prog 3 #[.int .i64 n, v, vv] w fun x w' => x = .returned (.bool true) ∧ Below w.heap.size w w' := by
  obtain ⟨j0, hjf, hy0, hy1, hy2⟩ := info_parts infoInt
  have hm := hid (made_ok n v l w hg hv)
  have hsu := hid (fun y => sure_ok y)
  have hn0 : Hid (∀ y, Calls Tryd.prog 7 #[.pointer none, vv] y fun e w' => e = .returned (.tuple #[.agg #[.int .i64 0, .int .i64 0, .int .i64 0, .int .i64 0], .iface 66 (.int .i64 1)]) ∧ Below y.heap.size y w') := hid (fun y => scount_nil vv y)
  have hg0 := hid hg
  have hIV := hid hL
  obtain ⟨lad, N, lcap, rfl, hsl⟩ := hL
  have hlen := hid hsl.len
  have hbig := hsl.big
  clear hg hv hsl
  go_enter Tryd.func3, Tryd.ntmps3
  go_wp2_with fail
  refine hm.out.mono ?_
  rintro x w1 ⟨tb, V, R, ad, cap, rfl, hV1, hV6, hbo, b1⟩
  have hls := hid (Md.ls hbo b1)
  clear hbo b1 hm
  obtain ⟨w2, hw2⟩ : ∃ w2, w1.alloc (.cells #[.int .i64 8, .slice ad V cap] 27) = w2 := ⟨_, rfl⟩
  rw [hw2] at hls
  replace hw2 := hid hw2
  go_upto_region 2 with fail
  try rw [hw2.out]
  clear hw2
  by_cases hN : 50 < N
  · have t1 : decide ((N : Int) > 50) = true := decide_eq_true (by omega)
    have t1' : decide ((50 : Int) < (N : Int)) = true := decide_eq_true (by omega)
    have t1'' : decide (50 < N) = true := decide_eq_true (by omega)
    have hbl := hid hls.out.bel
    go_wp2_with fail
    refine (hsu.out w2).mono ?_
    rintro x w3 ⟨rfl, b3⟩
    have b3' := hid (hbl.out.trans (b3.mono hbl.out.size))
    clear b3
    go_wp2_with fail
    go_ret
    exact ⟨rfl, b3'.out⟩
  · have t1 : decide ((N : Int) > 50) = false := decide_eq_false (by omega)
    have t1' : decide ((50 : Int) < (N : Int)) = false := decide_eq_false (by omega)
    have t1'' : decide (50 < N) = false := decide_eq_false (by omega)
    go_wp2_with fail
    refine (hn0.out w2).mono ?_
    rintro x w3 ⟨rfl, b3⟩
    have hls3 := hid (hls.out.more b3)
    clear b3 hls hn0
    obtain ⟨w4, hw4⟩ : ∃ w4, w3.alloc (.cells #[.int .i64 0, .int .i64 0, .int .i64 0, .int .i64 0] 32) = w4 := ⟨_, rfl⟩
    have hls4 := hid (hls3.out.more (balloc w3 (.cells #[.int .i64 0, .int .i64 0, .int .i64 0, .int .i64 0] 32)))
    rw [hw4] at hls4
    replace hw4 := hid hw4
    clear hls3
    go_upto_region 5 with fail
    rw [hw4.out]
    clear hw4
    have hgh : Hid (∀ y, Below w.heap.size w y → Handle y) := hid (fun y hy => hg0.out.below hy)
    go_wp2_with fail
    refine (num_err 1 _ (hgh.out _ hls4.out.bel)).mono ?_
    rintro x w5 ⟨rfl, b5⟩
    have hls5 := hid (hls4.out.more b5)
    clear b5 hls4
    go_wp2_with fail
    go_loopw [12, 13, 14, 15, 16, 17, 18, 19, 20] (fun u _ _ _ _ _ _ _ _ wr => ∃ k : Nat, k ≤ 2 ∧ u = .int .i64 (k : Int) ∧ Hid (Ls w tb w1.heap.size V 8 8 R wr)) (fun u _ _ _ _ _ _ _ _ _ => 2 - (intOf u).toNat)
    case atStart => exact ⟨0, by omega, by go_num, hls5⟩
    case round =>
      obtain ⟨k, hk, rfl, hls⟩ := hrel
      clear hls5
      obtain ⟨ad', cap', hrt, c0, c1⟩ := hls.out.rt
      have hF := hid (two_at c0 c1)
      rcases Nat.lt_or_ge k 2 with hk2 | hk2
      · have v1 : decide ((k : Int) < 2) = true := decide_eq_true (by omega)
        have v1' : decide (k < 2) = true := decide_eq_true (by omega)
        obtain ⟨wo, hwo⟩ : ∃ wo, wr = wo := ⟨_, rfl⟩
        rw [hwo] at hls hF hrt c0 c1 ⊢
        have hblo := hid hls.out.bel
        go_upto_if 53 with fail
        go_cut [13, 14] from 53 to 64 (fun s13 _ wx => ∃ ys, Hid (IV wx s13 ys) ∧ Hid (ys.length ≤ 50) ∧ Hid (Below wo.heap.size wo wx))
        case first =>
          by_cases hk1 : k = 1
          · have t2 : ((k : Int) == 1) = true := by rw [hk1]; rfl
            have t3 : (k : Int) = 1 := by omega
            replace t3 := hid t3
            clear hk1
            rw [t2]
            go_wp2_with fail
            go_loopw [13, 14] (fun s13 s14 wx => ∃ j : Nat, j ≤ V ∧ s14 = .int .i64 (j : Int) ∧ Hid (wx.ownsRow wo.heap.size 3 1 s13 j (ncs (List.range j)) ∧ Below wo.heap.size wo wx)) (fun _ s14 _ => V - (intOf s14).toNat)
            case atStart => exact ⟨0, by omega, by go_num, hid ⟨World.ownsRow_nil _ _ _ _, Below.refl _ _⟩⟩
            case round =>
              obtain ⟨j, hj, rfl, hst⟩ := hrel
              obtain ⟨x0, x1⟩ := hF.out _ hst.out.2
              rcases Nat.lt_or_ge j V with hjl | hjg
              · have v2 : decide ((j : Int) < (V : Int)) = true := decide_eq_true (by omega)
                have v2' : decide (j < V) = true := decide_eq_true (by omega)
                have hown := hst.out.1
                have hbw := hst.out.2
                have hsz := hbw.size
                clear hst
                go_wp2_with (at_builtin; refine wpList_append_own _ rfl (.tmp 61) (.tmp 63) 23 rfl wo.heap.size 3 j0 _ 1 8 Tryd.underlying23 hjf hy0 hy1 hy2 rfl (by decide) _ _ _ rfl (hown.alloc _) ⟨wr.heap.size, 0, none⟩ 1 1 [.int .i64 (j : Int)] rfl rfl (one_new wr _ _) (by simp [Value.oneCell']) (by unfold maxLen; omega) (by omega) (by simp; omega) ?_; intro v' w' ho' hg' _)
                have hnew : Hid (w'.ownsRow wo.heap.size 3 1 v' (j + 1) (ncs (List.range (j + 1))) ∧ Below wo.heap.size wo w') :=
                  hid ⟨by rw [List.range_succ, ncs_append]; exact ho', below_row (hbw.alloc hsz _) (Nat.le_refl _) (hown.alloc _) (Nat.le_refl _) hg'⟩
                clear ho' hg' hown hbw x0 x1
                go_wp2_with fail
                go_roundw
                case rel => exact ⟨j + 1, by omega, by go_num, hnew⟩
                case measure => simp [intOf]; omega
              · obtain rfl : j = V := by omega
                have v2 : decide ((j : Int) < (j : Int)) = false := decide_eq_false (by omega)
                have hiv : Hid (IV wr u13 ((List.range j).map (fun x : Nat => (x : Int)))) := hid (RN.iv (NL.rn (nl_of (l := List.range j) (base := wo.heap.size) (by simpa using hst.out.1))))
                have hbw := hid hst.out.2
                clear hst
                go_wp2_with fail
                go_meet
                case rel => exact ⟨_, hiv, hid (by simp; omega), hbw⟩
          · have t2 : ((k : Int) == 1) = false := by simp; omega
            have hiv : Hid (IV wo (.slice lad N lcap) zs) := hid (hIV.out.below hblo.out)
            rw [t2]
            go_wp2_with fail
            go_meet
            case rel => exact ⟨zs, hiv, hid (by rw [hlen.out]; omega), hid (Below.refl _ _)⟩
        case rest =>
          obtain ⟨ys, hiv, hyl, hbx⟩ := hcut
          have hlsx := hid (hls.out.more hbx.out)
          obtain ⟨rad, rcap, hrt', d0, d1⟩ := hlsx.out.rt
          have hGx := hid (two_at d0 d1)
          obtain ⟨c, r, s, a0, a1, a2, a3, hlw⟩ := lw_of hlsx.out.ta hlsx.out.tw hrt' hiv.out (by have := hyl.out; omega) hV1 (by omega)
          replace hlw := hid hlw
          obtain ⟨lad2, N2, lcap2, hu13, _⟩ := hiv.out
          have hgx : Hid (∀ y, Below wc.heap.size wc y → Handle y) := hid (fun y hy => hgh.out y (hlsx.out.bel.trans (hy.mono hlsx.out.bel.size)))
          have hLs : Hid (∀ y, Below wc.heap.size wc y → Ls w tb w1.heap.size V 8 8 R y) := hid (fun y hy => hlsx.out.more hy)
          subst hu13
          have hnum : Hid (∀ y, Below wc.heap.size wc y → Calls Tryd.prog 8 #[r] y fun e w' => e = .returned (.int .i64 c) ∧ Below y.heap.size y w') := hid (fun y hy => by
            rcases hlw.out.er with ⟨rfl, rfl⟩ | ⟨_, rfl⟩
            · exact num_nil y
            · exact num_err c y (hgx.out y hy))
          clear hls hrt hrt' c0 c1 d0 d1 hF hiv hyl hbx hlsx hblo
          go_wp2_with fail
          refine (hlw.out.cnt _ (Below.refl _ _)).mono ?_
          rintro x w6 ⟨rfl, b6⟩
          obtain ⟨w7, hw7⟩ : ∃ w7, w6.alloc (.cells #[.int .i64 a0, .int .i64 a1, .int .i64 a2, .int .i64 a3] 32) = w7 := ⟨_, rfl⟩
          have k7 : w7.heap[w6.heap.size]? = some (.cells #[.int .i64 a0, .int .i64 a1, .int .i64 a2, .int .i64 a3] 32 (0, 0)) := by rw [← hw7]; exact (MapKept.heap_alloc w6 _).1
          have b7 : Below w6.heap.size w6 w7 := by rw [← hw7]; exact balloc w6 _
          have c7 := hid (b6.trans (b7.mono b6.size))
          have hA : Hid (∀ y, Below w7.heap.size w7 y → y.heap[w6.heap.size]? = some (.cells #[.int .i64 a0, .int .i64 a1, .int .i64 a2, .int .i64 a3] 32 (0, 0))) := hid (fun y hy => (hy.block _ (Array.getElem?_eq_some_iff.1 k7).1).trans k7)
          have re7 : Hid (∀ y, Below w7.heap.size w7 y → Below wc.heap.size wc y) := hid (fun y hy => c7.out.trans (hy.mono c7.out.size))
          replace hw7 := hid hw7
          clear b6 b7 k7
          go_upto_region 18 with fail
          rw [hw7.out]
          clear hw7
          go_wp2_with fail
          refine (hlw.out.flat _ c7.out).mono ?_
          rintro x w8 ⟨rfl, b8⟩
          replace b8 := hid b8
          obtain ⟨g0, g1⟩ := hGx.out _ (re7.out _ b8.out)
          go_wp2_with fail
          refine (hlw.out.chk _ (re7.out _ b8.out)).mono ?_
          rintro x w9 ⟨rfl, b9⟩
          replace b9 := hid (b8.out.trans (b9.mono b8.out.size))
          clear g0 g1 b8
          go_wp2_with fail
          refine (hnum.out _ (re7.out _ b9.out)).mono ?_
          rintro x w10 ⟨rfl, b10⟩
          replace b10 := hid (b9.out.trans (b10.mono b9.out.size))
          clear b9
          go_wp2_with fail
          refine (hnum.out _ (re7.out _ b10.out)).mono ?_
          rintro x w11 ⟨rfl, b11⟩
          replace b11 := hid (b10.out.trans (b11.mono b10.out.size))
          clear b10
          obtain ⟨⟨z0, z1, z2, z3⟩, _⟩ := blk4 (hA.out _ b11.out)
          by_cases hc0 : c = 0
          · have hrc := hid (hlw.out.rcnt hc0)
            have hrf := hid (hlw.out.rflat hc0)
            subst hc0
            obtain ⟨g0, g1⟩ := hGx.out _ (re7.out _ b11.out)
            clear z0 z1 z2 z3
            go_wp2_with fail
            refine (hrc.out _ (re7.out _ b11.out)).mono ?_
            rintro x w12 ⟨rfl, b12⟩
            replace b12 := hid (b11.out.trans (b12.mono b11.out.size))
            obtain ⟨w13, hw13⟩ : ∃ w13, w12.alloc (.cells #[.int .i64 a0, .int .i64 a1, .int .i64 a2, .int .i64 a3] 41) = w13 := ⟨_, rfl⟩
            have k13 : w13.heap[w12.heap.size]? = some (.cells #[.int .i64 a0, .int .i64 a1, .int .i64 a2, .int .i64 a3] 41 (0, 0)) := by rw [← hw13]; exact (MapKept.heap_alloc w12 _).1
            have b13 : Below w12.heap.size w12 w13 := by rw [← hw13]; exact balloc w12 _
            replace b13 := hid (b12.out.trans (b13.mono b12.out.size))
            replace hw13 := hid hw13
            clear g0 g1 b11 b12
            go_upto_region 26 with fail
            rw [hw13.out]
            clear hw13
            obtain ⟨⟨z0, z1, z2, z3⟩, _⟩ := blk4 (hA.out _ b13.out)
            obtain ⟨⟨y0, y1, y2, y3⟩, _⟩ := blk4 k13
            obtain ⟨g0, g1⟩ := hGx.out _ (re7.out _ b13.out)
            clear k13
            go_wp2_with fail
            refine (hrf.out _ (re7.out _ b13.out)).mono ?_
            rintro x w14 ⟨rfl, b14⟩
            have hl14 := hid (hLs.out _ (re7.out _ (b13.out.trans (b14.mono b13.out.size))))
            clear z0 z1 z2 z3 y0 y1 y2 y3 g0 g1 b13 b14
            go_wp2_with fail
            go_roundw
            case rel => exact ⟨k + 1, by omega, by go_num, hl14⟩
            case measure => simp [intOf]; omega
          · obtain ⟨rfl, rfl, rfl, rfl, rfl⟩ := hlw.out.bad hc0
            have t4 : (c != 0) = true := by simp [hc0]
            have hl11 := hid (hLs.out _ (re7.out _ b11.out))
            replace hc0 := hid hc0
            go_wp2_with fail
            go_roundw
            case rel => exact ⟨k + 1, by omega, by go_num, hl11⟩
            case measure => simp [intOf]; omega
      · obtain rfl : k = 2 := by omega
        have hbl := hid hls.out.bel
        clear hrt c0 c1 hF hls
        go_wp2_with fail
        refine (hsu.out wr).mono ?_
        rintro x w3 ⟨rfl, b3⟩
        have b3' := hid (hbl.out.trans (b3.mono hbl.out.size))
        clear b3
        go_wp2_with fail
        go_ret
        exact ⟨rfl, b3'.out⟩
end Go.Proofs.YtegljhbjjdfhiaaDoor
