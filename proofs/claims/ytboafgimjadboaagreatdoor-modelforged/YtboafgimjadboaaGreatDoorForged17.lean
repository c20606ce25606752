/- The law ModelForged, walked. -/
import Derived.Test.YtboafgimjadboaaGreatDoorBlaw
import Derived.Test.YtboafgimjadboaaGreatDoorWiBtake
namespace Go.Proofs.YtboafgimjadboaaGreatDoor
open Go.RowKit
set_option linter.unusedVariables false

/-- A byte and something on top of it. -/
theorem byte_add (x : UInt8) (a : Int) (h8 : 0 ≤ a ∧ a ≤ 255) (h0 : a ≠ 0) : ∃ y : UInt8, IntKind.u8.wrap ((x.toNat : Int) + a) = (y.toNat : Int) ∧ y ≠ x := by
  have hx := x.toNat_lt
  refine ⟨UInt8.ofNat ((x.toNat + a.toNat) % 256), ?_, fun e => ?_⟩
  · rw [IntKind.wrap_u8]
    simp
    omega
  · have := congrArg UInt8.toNat e
    simp at this
    omega

theorem set_ne {l : List UInt8} {k : Nat} {x y : UInt8} (h : l[k]? = some x) (hy : y ≠ x) : l.set k y ≠ l := fun e => by
  have h1 : (l.set k y)[k]? = some y := by
    rw [List.getElem?_set, if_pos rfl, if_pos (List.getElem?_eq_some_iff.1 h).1]
  rw [e, h] at h1
  exact hy (Option.some.inj h1).symm

set_option maxRecDepth 100000 in
set_option maxHeartbeats 4000000 in
theorem forged_law {W : World} {vv ev lv : Value} {m : Mo} (hm : Mp W vv ev lv m) (a1 a2 : Int) (h8 : 0 ≤ a2 ∧ a2 ≤ 255) (hg : Handle W) (hT : Ar.Tab W) (h2 : 2 ≤ W.heap.size) :
    Calls Tryz.prog 8 #[.agg #[.int .i64 m.n, vv, ev, lv], .int .i64 a1, .int .u8 a2] W fun e W' => e = .returned (.bool true) ∧ Below W.heap.size W W' := by
  obtain ⟨i0, hif, hz0, hz1, hz2⟩ := info_parts infoU8
  obtain ⟨va, vn, vc, ea, en, ec, la, ln, lc, rfl, rfl, rfl⟩ := mp_slices hm
  have hl := Lw.new hm hg hT h2
  have hen := hid hm.en
  obtain ⟨w1, hw1⟩ : ∃ w1, W.alloc (.cells #[.int .i64 m.n, .slice va vn vc, .slice ea en ec, .slice la ln lc] 25) = w1 := ⟨_, rfl⟩
  rw [hw1] at hl
  replace hl := hid hl
  clear hm hg hT h2
  go_enter Tryz.func8, Tryz.ntmps8
  go_upto_region 1 with fail
  try rw [hw1]
  clear hw1
  obtain ⟨c0, c1, c2, c3⟩ := hl.out.box w1 (Below.refl _ _)
  by_cases hh : Hg m
  · have hq := hid (hl.out.huge hh w1 (Below.refl _ _))
    clear hh
    go_wp2_with fail
    refine hq.out.mono ?_
    rintro e w2 ⟨rfl, b2⟩
    replace b2 := hid b2
    clear hq
    go_wp2_with fail
    refine (hl.out.sure w2 b2.out).mono ?_
    rintro e w3 ⟨rfl, b3⟩
    have hb := hid ((hl.out.bel.trans (b2.out.mono hl.out.bel.size)).trans (b3.mono (hl.out.bel.trans (b2.out.mono hl.out.bel.size)).size))
    clear b3
    go_wp2_with fail
    go_ret
    exact ⟨rfl, hb.out⟩
  · have hq := hid (hl.out.small hh w1 (Below.refl _ _))
    replace hh := hid hh
    go_wp2_with fail
    refine hq.out.mono ?_
    rintro e w2 ⟨rfl, b2⟩
    obtain ⟨d0, d1, d2, d3⟩ := hl.out.box w2 b2
    replace b2 := hid b2
    clear hq c0 c1 c2 c3
    go_wp2_with fail
    refine (hl.out.give hh.out w2 b2.out).mono ?_
    rintro e w3 ⟨uv, ue, ul, rfl, hm3, b3⟩
    have b3' := hid (b2.out.trans (b3.mono b2.out.size))
    replace hm3 := hid hm3
    clear b3 d0 d1 d2 d3 b2
    go_wp2_with fail
    refine (hl.out.enc hh.out w3 b3'.out hm3.out).mono ?_
    rintro e w4 ⟨b4, ⟨hmay, u, rfl, hu⟩ | ⟨hno, rfl⟩⟩
    · have hlen := Lw.len hh.out
      have hrn := hid hmay
      obtain ⟨L, hL⟩ : ∃ L, (enc m).length = L := ⟨_, rfl⟩
      obtain ⟨ad, cap, rfl, hby⟩ := hu.bytes (by omega)
      rw [hL] at hlen ⊢
      obtain ⟨k, hk1, hk2, hk3⟩ := mod17 a1 L (by omega) (by omega)
      have u1 := wu64 L (by omega)
      have t1 : ((L : Int) == 0) = false := by simp; omega
      have u2 : ¬ (L = 0) := by omega
      have u3 : ¬ ((L : Int) = 0) := by omega
      have b4' := hid (b3'.out.trans (b4.mono b3'.out.size))
      replace hby := hid hby
      replace hL := hid hL
      clear hu b4 hm3 b3' hmay
      by_cases z0 : a2 = 0
      · subst z0
        go_wp2_with fail
        refine (hl.out.sure w4 b4'.out).mono ?_
        rintro e w5 ⟨rfl, b5⟩
        have hb := hid (hl.out.bel.trans ((b4'.out.trans (b5.mono b4'.out.size)).mono hl.out.bel.size))
        clear b5
        go_wp2_with fail
        go_ret
        exact ⟨rfl, hb.out⟩
      · have z1 : (a2 == 0) = false := by simpa using z0
        by_cases c3 : k < 3
        · have z2 : decide ((k : Int) < 3) = true := decide_eq_true (by omega)
          have z3 : decide (k < 3) = true := decide_eq_true c3
          clear z0
          go_wp2_with fail
          refine (hl.out.sure w4 b4'.out).mono ?_
          rintro e w5 ⟨rfl, b5⟩
          have hb := hid (hl.out.bel.trans ((b4'.out.trans (b5.mono b4'.out.size)).mono hl.out.bel.size))
          clear b5
          go_wp2_with fail
          go_ret
          exact ⟨rfl, hb.out⟩
        · have z2 : decide ((k : Int) < 3) = false := decide_eq_false (by omega)
          have z3 : decide (k < 3) = false := decide_eq_false c3
          obtain ⟨x, hx⟩ : ∃ x, (enc m)[k]? = some x := ⟨_, List.getElem?_eq_getElem (by rw [hL.out]; exact hk2)⟩
          obtain ⟨y, hy1, hy2⟩ := byte_add x a2 h8 z0
          have hne := hid (set_ne hx hy2)
          replace hx := hid hx
          clear z0 c3
          go_upto_region 10 with fail
          go_wp2_with (at_builtin; refine Wi.wpList_append_bytes _ rfl (.tmp 51) (.tmp 52) 43 rfl w4.heap.size 5 i0 Tryz.underlying43 hif hz0 hz1 hz2 _ [] 0 rfl (World.ownsRow_nil _ _ _ _) _ _ _ (enc m) rfl hL.out.symm hby.out (by omega) (Nat.le_refl _) ?_; intro v5 w5 ho5 hg5; refine Hid.out ?_)
          rw [Nat.zero_add, List.nil_append] at ho5
          obtain ⟨g, cg, rfl, hgl, hgs⟩ := World.ownsRow.form ho5 (by omega)
          have hg5' : w4.grownBy w5 none := hg5
          have b45 := (Below.refl w4.heap.size w4).grown hg5' (Nat.le_refl _) (fun i hi => by cases hi)
          have b5 := hid (b4'.out.trans (b45.mono b4'.out.size))
          have ck : w5.cell? ⟨g, k, none⟩ = some (.int .u8 (x.toNat : Int)) := by
            rw [ho5.cellAt k (by omega), List.getElem?_map, hx.out]; rfl
          have fk := ho5.frozenAt k
          have j1 : (0 : Int) ≤ (k : Int) := by omega
          have j2 : (k : Int) < (L : Int) := by omega
          have hst := ho5.stored k (.int .u8 (y.toNat : Int))
          rw [show (Value.int .u8 (y.toNat : Int)) = Wi.bc y from rfl, ← List.map_set] at hst
          have b6 := hid (b4'.out.trans ((b45.grown hst.2 b45.size (fun i hi => by cases hi; exact hgl)).mono b4'.out.size))
          have hd := hid hst
          clear ho5 hg5 hg5' hst b45 b5
          refine hid ?_
          go_upto_region 12 with fail
          obtain ⟨w6, hw6⟩ : ∃ w6, w5.setCell ⟨g, k, none⟩ (.int .u8 (y.toNat : Int)) = w6 := ⟨_, rfl⟩
          rw [show Wi.bc y = Value.int .u8 (y.toNat : Int) from rfl, hw6] at hd b6
          rw [hw6]
          clear hw6 ck fk
          have hl6 : ((enc m).set k y).length = L := by rw [List.length_set]; exact hL.out
          obtain ⟨ad6, cap6, he6, hb6⟩ := Wi.Bytes.ofOwns hd.out.1 (by omega)
          cases he6
          replace hb6 := hid hb6
          have hdc := hid (hl.out.dec w6 b6.out hb6.out hl6 (by omega))
          replace hl6 := hid hl6
          clear hd
          go_wp2_with fail
          refine hdc.out.mono ?_
          rintro e w7 ⟨b7, ⟨m', va', vn', vc', ea', en', ec', la', ln', lc', his, rfl, hm7, v7, e7, l7⟩ | ⟨hno, rfl⟩⟩
          · have b67 := b6.out.trans (b7.mono b6.out.size)
            obtain ⟨N, hN⟩ : ∃ N, m'.n = N := ⟨_, rfl⟩
            rw [hN]
            have n8 := new_of w7 #[.int .i64 N, .slice va' vn' vc', .slice ea' en' ec', .slice la' ln' lc'] 36
            have b78 := balloc w7 (.cells #[.int .i64 N, .slice va' vn' vc', .slice ea' en' ec', .slice la' ln' lc'] 36)
            obtain ⟨w8, hw8⟩ : ∃ w8, w7.alloc (.cells #[.int .i64 N, .slice va' vn' vc', .slice ea' en' ec', .slice la' ln' lc'] 36) = w8 := ⟨_, rfl⟩
            obtain ⟨B, hB⟩ : ∃ B, w7.heap.size = B := ⟨_, rfl⟩
            rw [hw8, hB] at n8
            rw [hw8] at b78
            have b8 := hid (b67.trans (b78.mono b67.size))
            have hm8 := hid (hm7.below b78)
            have hb8 := hid ((hb6.out.below b7).below b78)
            have hck := hid (encode_ok hm8.out hN (hl.out.tab w8 b8.out) (hl.out.two w8 b8.out) v7 e7 l7)
            replace his := hid his
            replace hw8 := hid hw8
            replace hN := hid hN
            replace hB := hid hB
            have b8o := hid (fun (z : World) (hz : Below w8.heap.size w8 z) => (hz.block B (Array.getElem?_eq_some_iff.1 n8).1).trans n8)
            clear hm7 b67 b78 b7 v7 e7 l7 n8 hdc b6
            go_upto_region 13 with fail
            rw [hw8.out, hB.out]
            obtain ⟨q0, q1, q2, q3⟩ : (w8.cell? ⟨B, 0, none⟩ = some (.int .i64 N) ∧ w8.cell? ⟨B, 1, none⟩ = some (.slice va' vn' vc') ∧ w8.cell? ⟨B, 2, none⟩ = some (.slice ea' en' ec') ∧ w8.cell? ⟨B, 3, none⟩ = some (.slice la' ln' lc')) := by
              have h0 := b8o.out w8 (Below.refl _ _)
              exact ⟨cell_of h0 rfl, cell_of h0 rfl, cell_of h0 rfl, cell_of h0 rfl⟩
            go_wp2_with fail
            refine hck.out.mono ?_
            rintro e w9 ⟨b9, ⟨hm', u, rfl, hu⟩ | ⟨hno, rfl⟩⟩
            · obtain ⟨ad9, cap9, rfl, hby9⟩ := hu.bytes (by rw [his.out.2.2, hl6.out]; omega)
              have b9' := hid (b8.out.trans (b9.mono b8.out.size))
              obtain ⟨r0, r1, r2, r3⟩ : (w9.cell? ⟨B, 0, none⟩ = some (.int .i64 N) ∧ w9.cell? ⟨B, 1, none⟩ = some (.slice va' vn' vc') ∧ w9.cell? ⟨B, 2, none⟩ = some (.slice ea' en' ec') ∧ w9.cell? ⟨B, 3, none⟩ = some (.slice la' ln' lc')) := by
                have h0 := b8o.out w9 b9
                exact ⟨cell_of h0 rfl, cell_of h0 rfl, cell_of h0 rfl, cell_of h0 rfl⟩
              obtain ⟨s0, s1, s2, s3⟩ := hl.out.box w9 b9'.out
              rw [his.out.2.2] at hby9 ⊢
              rw [hl6.out]
              have k1 := string_at hby9 hl6.out.symm
              have k2 := string_at (hb8.out.below b9) hl6.out.symm
              have hsm := hid (fun (z : World) (hz : Below w9.heap.size w9 z) => sameM_ok ((hm8.out.below b9).below hz) hN.out (hl.out.mp z (b9'.out.trans (hz.mono b9'.out.size))) rfl false ⟨fun q => (by cases q), fun q => absurd (his.out.2.2.symm.trans (by rw [q])) hne.out⟩)
              clear hu hm' b9 q0 q1 q2 q3 hby9
              go_wp2_with fail
              refine (hsm.out w9 (Below.refl _ _)).mono ?_
              rintro e w10 ⟨rfl, b10⟩
              have b10' := hid (b9'.out.trans (b10.mono b9'.out.size))
              clear b10 hsm k1 k2 r0 r1 r2 r3 s0 s1 s2 s3
              go_wp2_with fail
              refine (hl.out.sure w10 b10'.out).mono ?_
              rintro e w11 ⟨rfl, b11⟩
              have hb := hid (hl.out.bel.trans ((b10'.out.trans (b11.mono b10'.out.size)).mono hl.out.bel.size))
              clear b11
              go_wp2_with fail
              go_ret
              exact ⟨rfl, hb.out⟩
            · exact absurd his.out.2.1 hno
          · have b67 := b6.out.trans (b7.mono b6.out.size)
            have b78 := balloc w7 (.cells #[.int .i64 0, .slice none 0 0, .slice none 0 0, .slice none 0 0] 36)
            have b8 := hid (b67.trans (b78.mono b67.size))
            clear b67 b78 b7 hdc b6
            go_upto_region 13 with fail
            obtain ⟨w8, hw8⟩ : ∃ w8, w7.alloc (.cells #[.int .i64 0, .slice none 0 0, .slice none 0 0, .slice none 0 0] 36) = w8 := ⟨_, rfl⟩
            rw [hw8] at b8 ⊢
            clear hw8
            go_wp2_with fail
            refine (hl.out.num17 w8 b8.out).mono ?_
            rintro e w9 ⟨rfl, b9⟩
            have b9' := hid (b8.out.trans (b9.mono b8.out.size))
            clear b9 b8
            go_wp2_with fail
            refine (hl.out.sure w9 b9'.out).mono ?_
            rintro e w10 ⟨rfl, b10⟩
            have hb := hid (hl.out.bel.trans ((b9'.out.trans (b10.mono b9'.out.size)).mono hl.out.bel.size))
            clear b10
            go_wp2_with fail
            go_ret
            exact ⟨rfl, hb.out⟩
    · have b4' := hid (b3'.out.trans (b4.mono b3'.out.size))
      clear b4 hm3 b3'
      go_wp2_with fail
      refine (hl.out.num17 w4 b4'.out).mono ?_
      rintro e w5 ⟨rfl, b5⟩
      have b5' := hid (b4'.out.trans (b5.mono b4'.out.size))
      clear b5 b4'
      go_wp2_with fail
      refine (hl.out.sure w5 b5'.out).mono ?_
      rintro e w6 ⟨rfl, b6⟩
      have hb := hid (hl.out.bel.trans ((b5'.out.trans (b6.mono b5'.out.size)).mono hl.out.bel.size))
      clear b6
      go_wp2_with fail
      go_ret
      exact ⟨rfl, hb.out⟩

end Go.Proofs.YtboafgimjadboaaGreatDoor
