/- The law ModelBack, walked. -/
import Derived.Test.YtboafgimjadboaaGreatDoorBlaw
import Derived.Test.YtboafgimjadboaaGreatDoorWiBtake
namespace Go.Proofs.YtboafgimjadboaaGreatDoor
open Go.RowKit
set_option linter.unusedVariables false

theorem bytes_short {w : World} {ad : Option Addr} {cap : Nat} {l : List UInt8} (h : Wi.Bytes w ad cap l) (ha : ad ≠ none) (k : Nat) (hk : k ≤ l.length) : Wi.Bytes w ad k (l.take k) :=
  ⟨by rw [List.length_take]; omega, by have := h.bound; rw [List.length_take]; omega, fun e => absurd e ha, fun a e j u hu => h.cell a e j u (by
    rw [List.map_take, List.getElem?_take] at hu
    split at hu
    · exact hu
    · cases hu)⟩

theorem one_byte (w : World) (z : Int) (t : TypeId) : ∃ u : UInt8, Wi.Bytes (w.alloc (.cells #[.int .u8 (IntKind.u8.wrap z)] t)) (some ⟨w.heap.size, 0, none⟩) 1 [u] := by
  refine ⟨UInt8.ofNat (z % 256).toNat, ⟨by simp, by simp, fun e => (by cases e), fun a e j u hu => ?_⟩⟩
  cases e
  match j, hu with
  | 0, hu =>
    simp only [List.map_cons, List.getElem?_cons_zero, Option.some.injEq] at hu
    subst hu
    rw [add_plain]
    refine (cell_of (new_of w _ _) (j := 0) rfl).trans ?_
    unfold Wi.bc
    rw [IntKind.wrap_u8]
    simp
    omega

theorem Lw.chk {W w1 : World} {A : Nat} {vv ev lv uv ue ul : Value} {m : Mo} (h : Lw W w1 A vv ev lv m) (hh : ¬ Hg m) (y : World) (hy : Below w1.heap.size w1 y) (hm : Mp y uv ue ul m) :
    Calls Tryz.prog 15 #[.agg #[.int .i64 m.n, uv, ue, ul]] y fun e w' => Below y.heap.size y w' ∧ ((May m ∧ e = .returned .nilIface) ∨ (¬ May m ∧ e = .returned (.iface 67 (.int .i64 17)))) := by
  unfold Hg at hh
  exact check17_ok hm rfl (h.tab y hy) (h.two y hy) (by omega) (by omega) (by omega)

set_option maxRecDepth 100000 in
set_option maxHeartbeats 4000000 in
theorem back_law {W : World} {vv ev lv : Value} {m : Mo} (hm : Mp W vv ev lv m) {ab : Option Addr} {nb cb : Nat} {b : List UInt8} (hb0 : Wi.Bytes W ab cb b) (hnb : nb = b.length) (a2 : Int) (hg : Handle W) (hT : Ar.Tab W) (h2 : 2 ≤ W.heap.size) :
    Calls Tryz.prog 6 #[.agg #[.int .i64 m.n, vv, ev, lv], .slice ab nb cb, .int .i64 a2] W fun e W' => e = .returned (.bool true) ∧ Below W.heap.size W W' := by
  obtain ⟨i0, hif, hz0, hz1, hz2⟩ := info_parts infoU8
  obtain ⟨va, vn, vc, ea, en, ec, la, ln, lc, rfl, rfl, rfl⟩ := mp_slices hm
  have hl := Lw.new hm hg hT h2
  have hen := hid hm.en
  obtain ⟨w1, hw1⟩ : ∃ w1, W.alloc (.cells #[.int .i64 m.n, .slice va vn vc, .slice ea en ec, .slice la ln lc] 25) = w1 := ⟨_, rfl⟩
  rw [hw1] at hl
  have hb := hid (fun (z : World) (hz : Below w1.heap.size w1 z) => hb0.below (hl.bel.trans (hz.mono hl.bel.size)))
  replace hl := hid hl
  replace hnb := hid hnb
  clear hm hg hT h2 hb0
  go_enter Tryz.func6, Tryz.ntmps6
  go_upto_region 1 with fail
  try rw [hw1]
  clear hw1
  obtain ⟨c0, c1, c2, c3⟩ := hl.out.box w1 (Below.refl _ _)
  by_cases h15 : 1500 < nb
  · have t1 : decide ((1500 : Int) < (nb : Int)) = true := decide_eq_true (by omega)
    have t2 : decide (1500 < nb) = true := decide_eq_true h15
    go_wp2_with fail
    refine (hl.out.sure w1 (Below.refl _ _)).mono ?_
    rintro e w3 ⟨rfl, b3⟩
    have hbb := hid (hl.out.bel.trans (b3.mono hl.out.bel.size))
    clear b3
    go_wp2_with fail
    go_ret
    exact ⟨rfl, hbb.out⟩
  · have t1 : decide ((1500 : Int) < (nb : Int)) = false := decide_eq_false (by omega)
    have t2 : decide (1500 < nb) = false := decide_eq_false h15
    by_cases hh : Hg m
    · have hq := hid (hl.out.huge hh w1 (Below.refl _ _))
      clear hh
      go_wp2_with fail
      refine hq.out.mono ?_
      rintro e w2 ⟨rfl, b2⟩
      replace b2 := hid b2
      clear hq
      go_wp2_with fail
      refine (hl.out.sure w2 b2.out).mono ?_
      rintro e w3 ⟨rfl, b3⟩
      have hbb := hid (hl.out.bel.trans ((b2.out.trans (b3.mono b2.out.size)).mono hl.out.bel.size))
      clear b3
      go_wp2_with fail
      go_ret
      exact ⟨rfl, hbb.out⟩
    · have hq := hid (hl.out.small hh w1 (Below.refl _ _))
      replace hh := hid hh
      go_wp2_with fail
      refine hq.out.mono ?_
      rintro e w2 ⟨rfl, b2⟩
      have hdc := hid (hl.out.dec w2 b2 (hb.out w2 b2) hnb.out.symm (by have := hnb.out; omega))
      replace b2 := hid b2
      clear hq c0 c1 c2 c3
      go_wp2_with fail
      refine hdc.out.mono ?_
      clear hdc
      rintro e w3 ⟨b3, hout⟩
      have b23 := b2.out.trans (b3.mono b2.out.size)
      rcases hout with h1 | h1
      all_goals
        (first
          | (obtain ⟨m', va', vn', vc', ea', en', ec', la', ln', lc', his, rfl, hm3, v3, e3, l3⟩ := h1
             obtain ⟨N, hN⟩ : ∃ N, m'.n = N := ⟨_, rfl⟩
             rw [hN]
             have n4 := new_of w3 #[.int .i64 N, .slice va' vn' vc', .slice ea' en' ec', .slice la' ln' lc'] 36
             have b34 := balloc w3 (.cells #[.int .i64 N, .slice va' vn' vc', .slice ea' en' ec', .slice la' ln' lc'] 36)
             have b4 := hid (b23.trans (b34.mono b23.size))
             go_upto_region 4 with fail
             obtain ⟨w4, hw4⟩ : ∃ w4, w3.alloc (.cells #[.int .i64 N, .slice va' vn' vc', .slice ea' en' ec', .slice la' ln' lc'] 36) = w4 := ⟨_, rfl⟩
             rw [hw4] at n4 b34 b4 ⊢
             have hen4 := hid (encode_ok (hm3.below b34) hN (hl.out.tab w4 b4.out) (hl.out.two w4 b4.out) v3 e3 l3)
             obtain ⟨q0, q1, q2, q3⟩ : (w4.cell? ⟨w3.heap.size, 0, none⟩ = some (.int .i64 N) ∧ w4.cell? ⟨w3.heap.size, 1, none⟩ = some (.slice va' vn' vc') ∧ w4.cell? ⟨w3.heap.size, 2, none⟩ = some (.slice ea' en' ec') ∧ w4.cell? ⟨w3.heap.size, 3, none⟩ = some (.slice la' ln' lc')) :=
               ⟨cell_of n4 rfl, cell_of n4 rfl, cell_of n4 rfl, cell_of n4 rfl⟩
             replace his := hid his
             clear hw4 n4 b34 hm3 v3 e3 l3 hN b3 b23 b2
             go_wp2_with fail
             refine hen4.out.mono ?_
             rintro e w5 ⟨b5, ⟨hm', u, rfl, hu⟩ | ⟨hno, rfl⟩⟩
             rotate_left
             · exact absurd his.out.2.1 hno
             have hlb : b.length = nb := hnb.out.symm
             have hu2 : Bw w4.heap.size w5 u b := by rw [← his.out.2.2]; exact hu
             obtain ⟨ad5, cap5, rfl, hby5⟩ := hu2.bytes (by omega)
             rw [hlb]
             have b5' := hid (b4.out.trans (b5.mono b4.out.size))
             have k1 := string_at hby5 hnb.out
             have k2 := string_at (hb.out w5 b5'.out) hnb.out
             clear hu hu2 hm' b5 q0 q1 q2 q3 hby5 hlb hen4 b4 his
             go_upto_region 8 with fail
             clear k1 k2)
          | (obtain ⟨hno, rfl⟩ := h1
             have b34 := balloc w3 (.cells #[.int .i64 0, .slice none 0 0, .slice none 0 0, .slice none 0 0] 36)
             have b5' := hid (b23.trans (b34.mono b23.size))
             clear b34 b23 b3 b2 hno
             go_upto_region 8 with fail
             obtain ⟨w5, hw5⟩ : ∃ w5, w3.alloc (.cells #[.int .i64 0, .slice none 0 0, .slice none 0 0, .slice none 0 0] 36) = w5 := ⟨_, rfl⟩
             rw [hw5] at b5' ⊢
             clear hw5))
        obtain ⟨d0, d1, d2, d3⟩ := hl.out.box w5 b5'.out
        go_wp2_with fail
        refine (hl.out.give hh.out w5 b5'.out).mono ?_
        rintro e w6 ⟨uv, ue, ul, rfl, hm6, b6⟩
        have b6' := hid (b5'.out.trans (b6.mono b5'.out.size))
        replace hm6 := hid hm6
        clear b6 d0 d1 d2 d3 b5'
        go_wp2_with fail
        refine (hl.out.enc hh.out w6 b6'.out hm6.out).mono ?_
        rintro e w7 ⟨b7, ⟨hmay, u, rfl, hu⟩ | ⟨hno, rfl⟩⟩
        · have hlen := Lw.len hh.out
          have his := hid (hmay.is hen.out)
          obtain ⟨L, hL⟩ : ∃ L, (enc m).length = L := ⟨_, rfl⟩
          obtain ⟨ad, cap, rfl, hby⟩ := hu.bytes (by omega)
          rw [hL] at hlen ⊢
          obtain ⟨k, hk1, hk2, hk3⟩ := mod17 a2 L (by omega) (by omega)
          have u1 := wu64 L (by omega)
          have u2 : ¬ (L = 0) := by omega
          have u3 : ¬ ((L : Int) = 0) := by omega
          have t4 : decide ((L : Int) < 12) = false := decide_eq_false (by omega)
          have t5 : decide (L < 12) = false := decide_eq_false (by omega)
          have b7' := hid (b6'.out.trans (b7.mono b6'.out.size))
          have hdc := hid (hl.out.dec w7 b7'.out hby hL (by omega))
          replace hby := hid (fun (z : World) (hz : Below w7.heap.size w7 z) => hby.below hz)
          replace hL := hid hL
          clear hu b7 hm6 b6' hmay
          go_wp2_with fail
          refine hdc.out.mono ?_
          rintro e w8 ⟨b8, ⟨m', va', vn', vc', ea', en', ec', la', ln', lc', his', rfl, hm8, _, _, _⟩ | ⟨hno, rfl⟩⟩
          · obtain rfl := his.out.one his'
            have n9 := new_of w8 #[.int .i64 m.n, .slice va' vn' vc', .slice ea' en' ec', .slice la' ln' lc'] 36
            have b89 := balloc w8 (.cells #[.int .i64 m.n, .slice va' vn' vc', .slice ea' en' ec', .slice la' ln' lc'] 36)
            have b79 := b8.trans (b89.mono b8.size)
            have b9 := hid (b7'.out.trans (b79.mono b7'.out.size))
            go_upto_region 12 with fail
            obtain ⟨w9, hw9⟩ : ∃ w9, w8.alloc (.cells #[.int .i64 m.n, .slice va' vn' vc', .slice ea' en' ec', .slice la' ln' lc'] 36) = w9 := ⟨_, rfl⟩
            rw [hw9] at n9 b89 b79 b9 ⊢
            obtain ⟨q0, q1, q2, q3⟩ : (w9.cell? ⟨w8.heap.size, 0, none⟩ = some (.int .i64 m.n) ∧ w9.cell? ⟨w8.heap.size, 1, none⟩ = some (.slice va' vn' vc') ∧ w9.cell? ⟨w8.heap.size, 2, none⟩ = some (.slice ea' en' ec') ∧ w9.cell? ⟨w8.heap.size, 3, none⟩ = some (.slice la' ln' lc')) :=
              ⟨cell_of n9 rfl, cell_of n9 rfl, cell_of n9 rfl, cell_of n9 rfl⟩
            obtain ⟨d0, d1, d2, d3⟩ := hl.out.box w9 b9.out
            have hsm := hid (sameM_ok (hm8.below b89) rfl (hl.out.mp w9 b9.out) rfl true ⟨fun _ => rfl, fun _ => rfl⟩)
            replace b79 := hid b79
            clear hw9 n9 b89 hm8 b8 hdc his'
            go_wp2_with fail
            refine hsm.out.mono ?_
            rintro e w10 ⟨rfl, b10⟩
            have b10' := hid (b9.out.trans (b10.mono b9.out.size))
            have b710 := hid (b79.out.trans (b10.mono b79.out.size))
            clear b10 hsm q0 q1 q2 q3 d0 d1 d2 d3 b9 b79
            go_upto_region 16 with fail
            have had : Hid (ad ≠ none ∧ L ≤ cap) := by
              have h0 := hby.out w7 (Below.refl _ _)
              refine ⟨fun e => ?_, ?_⟩
              · have := h0.nil e; have := h0.le; have := hL.out; omega
              · have := h0.le; have := hL.out; omega
            have hbx := hid (hby.out w10 b710.out)
            go_wp2_with (first
              | (at_builtin; refine Wi.wpList_append_bytes _ rfl (.tmp 91) (.tmp 92) 43 rfl w10.heap.size 5 i0 Tryz.underlying43 hif hz0 hz1 hz2 _ [] 0 rfl (World.ownsRow_nil _ _ _ _) _ _ _ (enc m) rfl hL.out.symm hbx.out (by omega) (Nat.le_refl _) ?_; intro v11 w11 ho11 hg11; rw [Nat.zero_add, List.nil_append] at ho11; obtain ⟨ux, hux⟩ := one_byte w11 a2 5; have hg11' : w10.grownBy w11 none := hg11; have b11 := (Below.refl w10.heap.size w10).grown hg11' (Nat.le_refl _) (fun i hi => by cases hi); clear hg11 hg11')
              | (at_builtin; refine Wi.wpList_append_bytes _ rfl (.tmp 93) (.tmp 96) 43 rfl w10.heap.size 5 i0 Tryz.underlying43 hif hz0 hz1 hz2 _ (enc m) L rfl (ho11.alloc _) _ _ _ [ux] rfl rfl hux (by omega) (by have := b11.size; simp; omega) ?_; intro v12 w12 ho12 hg12; refine Hid.out ?_))
            have b12 := (b11.alloc b11.size _).grown hg12 (by have := b11.size; simp; omega) (Wi.own_from ho11)
            have b112 := hid (b10'.out.trans (b12.mono b10'.out.size))
            obtain ⟨ad12, cap12, rfl, hby12⟩ := Wi.Bytes.ofOwns ho12 (by simp; omega)
            have hd1 := hid (hl.out.dec (n := k) w12 b112.out (bytes_short ((hby.out w10 b710.out).below b12) had.out.1 k (by have := hL.out; omega)) (by rw [List.length_take]; have := hL.out; omega) (by rw [List.length_take]; have := hL.out; omega))
            have hl12 : Hid ((enc m ++ [ux]).length = L + 1) := by
              show _ = _
              rw [List.length_append, hL.out]; rfl
            replace hby12 := hid (fun (z : World) (hz : Below w12.heap.size w12 z) => hby12.below hz)
            have hcl := hid (his.out.cut (k := k) (by rw [hL.out]; exact hk2))
            have hml := hid (his.out.more ux)
            have j1 : (0 : Int) ≤ (k : Int) := by omega
            have j2 : (k : Int) ≤ (cap : Int) := by have := had.out.2; omega
            clear b11 b12 ho11 ho12 hg12 hux hbx b10'
            refine hid ?_
            go_wp2_with fail
            refine hd1.out.mono ?_
            rintro e w13 ⟨b13, ⟨m', _, _, _, _, _, _, _, _, _, hx, _⟩ | ⟨_, rfl⟩⟩
            · exact absurd hx (hcl.out _)
            · have b34 := balloc w13 (.cells #[.int .i64 0, .slice none 0 0, .slice none 0 0, .slice none 0 0] 36)
              have b14 := hid (b112.out.trans ((b13.trans (b34.mono b13.size)).mono b112.out.size))
              have hbz := hid (b13.trans (b34.mono b13.size))
              clear b34 b13 hd1
              go_upto_region 18 with fail
              obtain ⟨w14, hw14⟩ : ∃ w14, w13.alloc (.cells #[.int .i64 0, .slice none 0 0, .slice none 0 0, .slice none 0 0] 36) = w14 := ⟨_, rfl⟩
              rw [hw14] at b14 hbz ⊢
              clear hw14
              have hd2 := hid (hl.out.dec (n := L + 1) w14 b14.out (hby12.out w14 hbz.out) (by rw [hl12.out]) (by rw [hl12.out]; omega))
              go_wp2_with fail
              refine hd2.out.mono ?_
              rintro e w15 ⟨b15, ⟨m', _, _, _, _, _, _, _, _, _, hx, _⟩ | ⟨_, rfl⟩⟩
              · exact absurd hx (hml.out _)
              · have b35 := balloc w15 (.cells #[.int .i64 0, .slice none 0 0, .slice none 0 0, .slice none 0 0] 36)
                have b16 := hid (b14.out.trans ((b15.trans (b35.mono b15.size)).mono b14.out.size))
                clear b35 b15 hd2 b14
                go_upto_region 19 with fail
                obtain ⟨w16, hw16⟩ : ∃ w16, w15.alloc (.cells #[.int .i64 0, .slice none 0 0, .slice none 0 0, .slice none 0 0] 36) = w16 := ⟨_, rfl⟩
                rw [hw16] at b16 ⊢
                clear hw16
                go_wp2_with fail
                refine (hl.out.num17 w16 b16.out).mono ?_
                rintro e w17 ⟨rfl, b17⟩
                replace b17 := hid (b16.out.trans (b17.mono b16.out.size))
                clear b16
                go_wp2_with fail
                refine (hl.out.num17 w17 b17.out).mono ?_
                rintro e w18 ⟨rfl, b18⟩
                replace b18 := hid (b17.out.trans (b18.mono b17.out.size))
                clear b17
                go_wp2_with fail
                refine (hl.out.sure w18 b18.out).mono ?_
                rintro e w19 ⟨rfl, b19⟩
                have hbb := hid (hl.out.bel.trans ((b18.out.trans (b19.mono b18.out.size)).mono hl.out.bel.size))
                clear b19
                go_wp2_with fail
                go_ret
                exact ⟨rfl, hbb.out⟩
          · exact absurd his.out (hno _)
        · have b7' := hid (b6'.out.trans (b7.mono b6'.out.size))
          obtain ⟨d0, d1, d2, d3⟩ := hl.out.box w7 b7'.out
          replace hno := hid hno
          clear b7 hm6 b6'
          go_wp2_with fail
          refine (hl.out.give hh.out w7 b7'.out).mono ?_
          rintro e w8 ⟨uv', ue', ul', rfl, hm8, b8⟩
          have b8' := hid (b7'.out.trans (b8.mono b7'.out.size))
          have hck := hid (hl.out.chk hh.out w8 b8'.out hm8)
          clear b8 hm8 d0 d1 d2 d3 b7'
          go_wp2_with fail
          refine hck.out.mono ?_
          rintro e w9 ⟨b9, ⟨hq, rfl⟩ | ⟨_, rfl⟩⟩
          · exact absurd hq hno.out
          · have b9' := hid (b8'.out.trans (b9.mono b8'.out.size))
            clear b9 hck b8'
            go_wp2_with fail
            refine (hl.out.num17 w9 b9'.out).mono ?_
            rintro e w10 ⟨rfl, b10⟩
            have b10' := hid (b9'.out.trans (b10.mono b9'.out.size))
            clear b10 b9'
            go_wp2_with fail
            refine (hl.out.sure w10 b10'.out).mono ?_
            rintro e w11 ⟨rfl, b11⟩
            have hbb := hid (hl.out.bel.trans ((b10'.out.trans (b11.mono b10'.out.size)).mono hl.out.bel.size))
            clear b11
            go_wp2_with fail
            go_ret
            exact ⟨rfl, hbb.out⟩

end Go.Proofs.YtboafgimjadboaaGreatDoor
