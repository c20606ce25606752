/- The law CmdSizes, walked. -/
import Derived.Test.YtmmpkhoejcfdmaaDoorSame19
namespace Go.Proofs.YtmmpkhoejcfdmaaDoor
open Go.RowKit
set_option linter.unusedVariables false

theorem enc_le {c : Cm} (hc : chk c = 0) (hd : c.d.length ≤ 5000) : 1 ≤ (enc c).length ∧ (enc c).length ≤ 5023 := by
  obtain ⟨p, hp, _⟩ := chk_zero.1 hc
  have h1 := encp_len (c := c) (pt_is hp).1
  have h2 := szp_le (pt_is hp).1
  unfold enc
  rw [hp]
  dsimp only
  omega

theorem erv_zero : erv 0 = .nilIface := rfl
theorem erv_ne {z : Int} (h : ¬ z = 0) : erv z = .iface 62 (.int .i64 z) := if_neg h

set_option maxRecDepth 100000 in
set_option maxHeartbeats 600000 in
theorem sizes_law {W : World} (c : Cm) (ad : Option Addr) (n cap : Nat) (hn : c.d.length = n) (hw : Wf c) (hby : n ≤ 5000 → Bytes W ad cap c.d) (hg : Handle W) :
    Calls Tryd.prog 6 #[cv c (.slice ad n cap)] W fun e W' => e = .returned (.bool true) ∧ Below W.heap.size W W' := by
  have hB1 := RB.mk (new_of W (ccs c (.slice ad n cap)) 29)
  have b1 := balloc W (.cells (ccs c (.slice ad n cap)) 29)
  obtain ⟨B, hB⟩ : ∃ B, W.heap.size = B := ⟨_, rfl⟩
  rw [hB] at hB1
  replace hn := hid hn
  replace hw := hid hw
  replace hg := hid hg
  replace hby := hid hby
  go_enter Tryd.func6, Tryd.ntmps6
  go_upto_region 1 with fail
  obtain ⟨w1, hw1⟩ : ∃ w1, W.alloc (.cells (ccs c (.slice ad n cap)) 29) = w1 := ⟨_, rfl⟩
  rw [hw1] at hB1 b1 ⊢
  clear hw1
  try rw [hB]
  obtain ⟨c0, c1, c2, c3, c4, c5, c6, c7, c8⟩ := hB1.cells
  replace hB := hid hB
  replace b1 := hid b1
  rcases Nat.lt_or_ge 5000 n with hlt | hle
  · have hlt' : (5000 : Int) < (n : Int) := by omega
    replace hB1 := hid hB1
    have hs := hid (sure_any w1)
    clear hlt
    go_wp2_with fail
    refine hs.out.mono ?_
    rintro e w2 ⟨rfl, b2⟩
    have hbz := hid (b1.out.trans (b2.mono b1.out.size))
    clear b2 c0 c1 c2 c3 c4 c5 c6 c7 c8
    go_wp2_with fail
    go_ret
    exact ⟨rfl, hbz.out⟩
  · have hle' : ¬ (5000 : Int) < (n : Int) := by omega
    have hbW := hby.out hle
    have hgv := hid (give_ok c ad n cap w1)
    go_wp2_with fail
    refine hgv.out.mono ?_
    rintro e w2 ⟨rfl, b2⟩
    have bz2 := hid (b1.out.trans (b2.mono b1.out.size))
    have hB2 := hid (hB1.more b2)
    have hen := hid (encode_any c ad n cap hn.out hw.out w2 (hbW.below bz2.out) (by omega))
    replace hbW := hid hbW
    clear b2 c0 c1 c2 c3 c4 c5 c6 c7 c8 hgv hB1 hby hle'
    go_wp2_with fail
    refine hen.out.mono ?_
    rintro e w3 ⟨ad', m, cap', rfl, b3, ⟨hc, hm, hbE⟩ | ⟨hc, hm⟩⟩
    · -- ok
      have hel := enc_le hc (by rw [hn.out]; exact hle)
      have hsz := sizes hc (by rw [hn.out]; exact hle) 7
      obtain ⟨L, hL⟩ : ∃ L, enc c = L := ⟨_, rfl⟩
      rw [hL] at hel hsz hm hbE
      rw [← hm] at hel hsz
      have hLm : Hid (L.length = m) := hm.symm
      obtain ⟨m1, hm1⟩ : ∃ m1, m - 1 = m1 := ⟨_, rfl⟩
      rw [hm1] at hsz
      rw [hc, erv_zero]
      have bz3 := hid (bz2.out.trans (b3.mono bz2.out.size))
      have hB3 := hid (hB2.out.more b3)
      obtain ⟨i0, hif, hz0, hz1, hz2⟩ := info_parts infoU8
      have hown0 : w3.ownsRow w3.heap.size 5 1 (.slice none 0 0) 0 (([] : List UInt8).map bc) := ⟨rfl, .inl ⟨rfl, rfl⟩⟩
      have hmz : ¬ (m : Int) = 0 := by omega
      have hm6 : m ≤ 5023 := hel.2
      have k1 : (m : Int) - 1 = (m1 : Int) := by omega
      have k2 : IntKind.i64.wrap (m1 : Int) = (m1 : Int) := by rw [IntKind.wrap_i64]; omega
      have k3 : (m1 : Int) ≤ (cap' : Int) := by have := hbE.le; omega
      have k4 : (0 : Int) ≤ (m1 : Int) := by omega
      replace hsz := hid hsz
      replace hbE := hid hbE
      replace hm1 := hid hm1
      replace hle := hid hle
      clear hen b3 hL hm hc hel hB2 bz2
      go_wp2_with (at_builtin; refine wpList_append_bytes _ rfl (.tmp 38) (.tmp 39) 27 rfl w3.heap.size 5 i0 Tryd.underlying27 hif hz0 hz1 hz2 (.slice none 0 0) [] 0 rfl hown0 _ m _ L rfl hLm.out.symm hbE.out (by omega) (Nat.le_refl _) ?_; intro v4 w4 ho4 hg4; refine Hid.out ?_)
      have b4 := (Below.refl w3.heap.size w3).grown hg4 (Nat.le_refl _) (by simp [Value.ownBlock])
      rw [Nat.zero_add, List.nil_append] at ho4
      have b5 := b4.trans ((balloc w4 (.cells #[.int .u8 7] 5)).mono b4.size)
      have hn5 := new_of w4 #[.int .u8 7] 5
      have hby5 : Bytes (w4.alloc (.cells #[.int .u8 7] 5)) (some ⟨w4.heap.size, 0, none⟩) 1 [7] := Bytes.ofBlock (cs := [.int .u8 7]) hn5 rfl (by decide) (by decide)
      have ho5 := ho4.alloc (.cells #[.int .u8 7] 5)
      clear ho4 hg4 hown0 hn5 b4
      refine hid ?_
      go_wp2_with (at_builtin; refine wpList_append_bytes _ rfl (.tmp 40) (.tmp 41) 27 rfl w3.heap.size 5 i0 Tryd.underlying27 hif hz0 hz1 hz2 v4 L m rfl ho5 _ 1 1 [7] rfl rfl hby5 (by omega) b5.size ?_; intro v6 w6 ho6 hg6; refine Hid.out ?_)
      have b6 := b5.grown hg6 b5.size (own_from ho5)
      obtain ⟨ad2, cap2, rfl, hb6⟩ := Bytes.ofOwns ho6 (by omega)
      replace hb6 := hid hb6
      have bz6 := hid (bz3.out.trans (b6.mono bz3.out.size))
      have hbE6 := hid (hbE.out.below b6)
      have hB6 := hid (hB3.out.more b6)
      clear b5 b6 ho5 hg6 ho6 hby5 bz3 hbE hB3 hif hz0 hz1 hz2
      refine hid ?_
      by_cases h15 : c.code = 15
      · have hq := hsz.out.1 h15
        have hq1 := hid hq.1
        by_cases hone : m = 1
        · have hone' : Hid ((m : Int) = 1) := by show _ = _; omega
          clear hq hsz hone
          have hd1 : Hid (Calls Tryd.prog 16 #[.slice ad2 (m + 1) cap2] w6 fun e w' => ∃ ad3 cap3, e = .returned (.tuple #[cv (dC (L ++ [7])) (.slice ad3 (dC (L ++ [7])).d.length cap3), .nilIface]) ∧ Bytes w' ad3 cap3 (dC (L ++ [7])).d ∧ Below w6.heap.size w6 w') := by
            have q := decode_any hb6.out (n := m + 1) (by rw [List.length_append, hLm.out]; rfl) (by omega)
            rw [hq1.out, erv_zero] at q
            exact q
          go_wp2_with fail
          refine hd1.out.mono ?_
          rintro e w7 ⟨ad3, cap3, rfl, _, b7⟩
          obtain ⟨d1, hd1e⟩ : ∃ d1, dC (L ++ [7]) = d1 := ⟨_, rfl⟩
          obtain ⟨N1, hN1⟩ : ∃ N1, d1.d.length = N1 := ⟨_, rfl⟩
          rw [hd1e]
          rw [hN1]
          clear hd1e hN1 hd1
          have b78 := b7.trans ((balloc w7 (.cells (ccs d1 (.slice ad3 N1 cap3)) 34)).mono b7.size)
          have bz8 := hid (bz6.out.trans (b78.mono bz6.out.size))
          have hbE8 := hid (hbE6.out.below b78)
          have hB8 := hid (hB6.out.more b78)
          clear b7 b78
          go_upto_region 9 with fail
          obtain ⟨w8, hw8⟩ : ∃ w8, w7.alloc (.cells (ccs d1 (.slice ad3 N1 cap3)) 34) = w8 := ⟨_, rfl⟩
          rw [hw8] at bz8 hbE8 hB8 ⊢
          clear hw8
          have hd2 : Hid (Calls Tryd.prog 16 #[.slice ad' m1 cap'] w8 fun e w' => ∃ ad3 cap3, e = .returned (.tuple #[cv (dC (L.take m1)) (.slice ad3 (dC (L.take m1)).d.length cap3), erv (dE (L.take m1))]) ∧ Bytes w' ad3 cap3 (dC (L.take m1)).d ∧ Below w8.heap.size w8 w') := by
            have q := decode_any (hbE8.out.take m1) (n := m1) (by rw [List.length_take, hLm.out]; omega) (by omega)
            skip
            exact q
          go_wp2_with fail
          refine hd2.out.mono ?_
          rintro e w9 ⟨ad4, cap4, rfl, _, b9⟩
          obtain ⟨d2, hd2e⟩ : ∃ d2, dC (L.take m1) = d2 := ⟨_, rfl⟩
          obtain ⟨N2, hN2⟩ : ∃ N2, d2.d.length = N2 := ⟨_, rfl⟩
          rw [hd2e]
          rw [hN2]
          clear hd2e hN2 hd2
          have b90 := b9.trans ((balloc w9 (.cells (ccs d2 (.slice ad4 N2 cap4)) 34)).mono b9.size)
          have bz9 := hid (bz8.out.trans (b90.mono bz8.out.size))
          have hB9 := hB8.out.more b90
          clear b9 b90 hbE8 hB8 bz8
          go_upto_region 10 with fail
          obtain ⟨wa, hwa⟩ : ∃ wa, w9.alloc (.cells (ccs d2 (.slice ad4 N2 cap4)) 34) = wa := ⟨_, rfl⟩
          rw [hwa] at bz9 hB9 ⊢
          clear hwa
          have c0 := hB9.cells.1
          replace hB9 := hid hB9
          have hone2 := hone'.out
          have hs := hid (sure_any wa)
          go_wp2_with fail
          refine hs.out.mono ?_
          rintro e wz ⟨rfl, bz⟩
          have hbz := hid (bz9.out.trans (bz.mono bz9.out.size))
          clear bz hs
          go_wp2_with fail
          go_ret
          exact ⟨rfl, hbz.out⟩
        · have hone' : Hid (¬ (m : Int) = 1) := by show ¬ _; omega
          have hq2 : Hid (dE (L.take m1) = 0) := by rcases hq.2 with h | h; exact absurd h hone; exact h
          clear hq hsz hone
          have hd1 : Hid (Calls Tryd.prog 16 #[.slice ad2 (m + 1) cap2] w6 fun e w' => ∃ ad3 cap3, e = .returned (.tuple #[cv (dC (L ++ [7])) (.slice ad3 (dC (L ++ [7])).d.length cap3), .nilIface]) ∧ Bytes w' ad3 cap3 (dC (L ++ [7])).d ∧ Below w6.heap.size w6 w') := by
            have q := decode_any hb6.out (n := m + 1) (by rw [List.length_append, hLm.out]; rfl) (by omega)
            rw [hq1.out, erv_zero] at q
            exact q
          go_wp2_with fail
          refine hd1.out.mono ?_
          rintro e w7 ⟨ad3, cap3, rfl, _, b7⟩
          obtain ⟨d1, hd1e⟩ : ∃ d1, dC (L ++ [7]) = d1 := ⟨_, rfl⟩
          obtain ⟨N1, hN1⟩ : ∃ N1, d1.d.length = N1 := ⟨_, rfl⟩
          rw [hd1e]
          rw [hN1]
          clear hd1e hN1 hd1
          have b78 := b7.trans ((balloc w7 (.cells (ccs d1 (.slice ad3 N1 cap3)) 34)).mono b7.size)
          have bz8 := hid (bz6.out.trans (b78.mono bz6.out.size))
          have hbE8 := hid (hbE6.out.below b78)
          have hB8 := hid (hB6.out.more b78)
          clear b7 b78
          go_upto_region 9 with fail
          obtain ⟨w8, hw8⟩ : ∃ w8, w7.alloc (.cells (ccs d1 (.slice ad3 N1 cap3)) 34) = w8 := ⟨_, rfl⟩
          rw [hw8] at bz8 hbE8 hB8 ⊢
          clear hw8
          have hd2 : Hid (Calls Tryd.prog 16 #[.slice ad' m1 cap'] w8 fun e w' => ∃ ad3 cap3, e = .returned (.tuple #[cv (dC (L.take m1)) (.slice ad3 (dC (L.take m1)).d.length cap3), .nilIface]) ∧ Bytes w' ad3 cap3 (dC (L.take m1)).d ∧ Below w8.heap.size w8 w') := by
            have q := decode_any (hbE8.out.take m1) (n := m1) (by rw [List.length_take, hLm.out]; omega) (by omega)
            rw [hq2.out, erv_zero] at q
            exact q
          go_wp2_with fail
          refine hd2.out.mono ?_
          rintro e w9 ⟨ad4, cap4, rfl, _, b9⟩
          obtain ⟨d2, hd2e⟩ : ∃ d2, dC (L.take m1) = d2 := ⟨_, rfl⟩
          obtain ⟨N2, hN2⟩ : ∃ N2, d2.d.length = N2 := ⟨_, rfl⟩
          rw [hd2e]
          rw [hN2]
          clear hd2e hN2 hd2
          have b90 := b9.trans ((balloc w9 (.cells (ccs d2 (.slice ad4 N2 cap4)) 34)).mono b9.size)
          have bz9 := hid (bz8.out.trans (b90.mono bz8.out.size))
          have hB9 := hB8.out.more b90
          clear b9 b90 hbE8 hB8 bz8
          go_upto_region 10 with fail
          obtain ⟨wa, hwa⟩ : ∃ wa, w9.alloc (.cells (ccs d2 (.slice ad4 N2 cap4)) 34) = wa := ⟨_, rfl⟩
          rw [hwa] at bz9 hB9 ⊢
          clear hwa
          have c0 := hB9.cells.1
          replace hB9 := hid hB9
          have hone2 := hone'.out
          have hs := hid (sure_any wa)
          go_wp2_with fail
          refine hs.out.mono ?_
          rintro e wz ⟨rfl, bz⟩
          have hbz := hid (bz9.out.trans (bz.mono bz9.out.size))
          clear bz hs
          go_wp2_with fail
          go_ret
          exact ⟨rfl, hbz.out⟩
      · have hq := hsz.out.2 h15
        have hq1 := hid hq.1
        have e11 : Hid (erv 11 = .iface 62 (.int .i64 11)) := hid rfl
        have e10 : Hid (erv 10 = .iface 62 (.int .i64 10)) := hid rfl
        rcases hq.2 with hq2 | ⟨hone, hq2⟩
        · replace hq2 := hid hq2
          clear hq hsz
          have hd1 : Hid (Calls Tryd.prog 16 #[.slice ad2 (m + 1) cap2] w6 fun e w' => ∃ ad3 cap3, e = .returned (.tuple #[cv (dC (L ++ [7])) (.slice ad3 (dC (L ++ [7])).d.length cap3), .iface 62 (.int .i64 11)]) ∧ Bytes w' ad3 cap3 (dC (L ++ [7])).d ∧ Below w6.heap.size w6 w') := by
            have q := decode_any hb6.out (n := m + 1) (by rw [List.length_append, hLm.out]; rfl) (by omega)
            rw [hq1.out, e11.out] at q
            exact q
          go_wp2_with fail
          refine hd1.out.mono ?_
          rintro e w7 ⟨ad3, cap3, rfl, _, b7⟩
          obtain ⟨d1, hd1e⟩ : ∃ d1, dC (L ++ [7]) = d1 := ⟨_, rfl⟩
          obtain ⟨N1, hN1⟩ : ∃ N1, d1.d.length = N1 := ⟨_, rfl⟩
          rw [hd1e]
          rw [hN1]
          clear hd1e hN1 hd1
          have b78 := b7.trans ((balloc w7 (.cells (ccs d1 (.slice ad3 N1 cap3)) 34)).mono b7.size)
          have bz8 := hid (bz6.out.trans (b78.mono bz6.out.size))
          have hbE8 := hid (hbE6.out.below b78)
          have hB8 := hid (hB6.out.more b78)
          clear b7 b78
          go_upto_region 9 with fail
          obtain ⟨w8, hw8⟩ : ∃ w8, w7.alloc (.cells (ccs d1 (.slice ad3 N1 cap3)) 34) = w8 := ⟨_, rfl⟩
          rw [hw8] at bz8 hbE8 hB8 ⊢
          clear hw8
          have hd2 : Hid (Calls Tryd.prog 16 #[.slice ad' m1 cap'] w8 fun e w' => ∃ ad3 cap3, e = .returned (.tuple #[cv (dC (L.take m1)) (.slice ad3 (dC (L.take m1)).d.length cap3), .iface 62 (.int .i64 11)]) ∧ Bytes w' ad3 cap3 (dC (L.take m1)).d ∧ Below w8.heap.size w8 w') := by
            have q := decode_any (hbE8.out.take m1) (n := m1) (by rw [List.length_take, hLm.out]; omega) (by omega)
            rw [hq2.out, e11.out] at q
            exact q
          go_wp2_with fail
          refine hd2.out.mono ?_
          rintro e w9 ⟨ad4, cap4, rfl, _, b9⟩
          obtain ⟨d2, hd2e⟩ : ∃ d2, dC (L.take m1) = d2 := ⟨_, rfl⟩
          obtain ⟨N2, hN2⟩ : ∃ N2, d2.d.length = N2 := ⟨_, rfl⟩
          rw [hd2e]
          rw [hN2]
          clear hd2e hN2 hd2
          have b90 := b9.trans ((balloc w9 (.cells (ccs d2 (.slice ad4 N2 cap4)) 34)).mono b9.size)
          have bz9 := hid (bz8.out.trans (b90.mono bz8.out.size))
          have hB9 := hB8.out.more b90
          clear b9 b90 hbE8 hB8 bz8
          go_upto_region 10 with fail
          obtain ⟨wa, hwa⟩ : ∃ wa, w9.alloc (.cells (ccs d2 (.slice ad4 N2 cap4)) 34) = wa := ⟨_, rfl⟩
          rw [hwa] at bz9 hB9 ⊢
          clear hwa
          have c0 := hB9.cells.1
          replace hB9 := hid hB9
          have hnm := hid (num_err 11 wa (hg.out.below bz9.out))
          go_wp2_with fail
          refine hnm.out.mono ?_
          rintro e wb ⟨rfl, bn⟩
          have bzb := hid (bz9.out.trans (bn.mono bz9.out.size))
          clear bn hnm
          have hnm := hid (num_err 11 wb (hg.out.below bzb.out))
          go_wp2_with fail
          refine hnm.out.mono ?_
          rintro e wc ⟨rfl, bn⟩
          have bzc := hid (bzb.out.trans (bn.mono bzb.out.size))
          clear bn hnm
          have hs := hid (sure_any wc)
          go_wp2_with fail
          refine hs.out.mono ?_
          rintro e wz ⟨rfl, bz⟩
          have hbz := hid (bzc.out.trans (bz.mono bzc.out.size))
          clear bz hs
          go_wp2_with fail
          go_ret
          exact ⟨rfl, hbz.out⟩
        · have hone' : Hid ((m : Int) = 1) := by show _ = _; omega
          replace hq2 := hid hq2
          clear hq hsz hone
          have hd1 : Hid (Calls Tryd.prog 16 #[.slice ad2 (m + 1) cap2] w6 fun e w' => ∃ ad3 cap3, e = .returned (.tuple #[cv (dC (L ++ [7])) (.slice ad3 (dC (L ++ [7])).d.length cap3), .iface 62 (.int .i64 11)]) ∧ Bytes w' ad3 cap3 (dC (L ++ [7])).d ∧ Below w6.heap.size w6 w') := by
            have q := decode_any hb6.out (n := m + 1) (by rw [List.length_append, hLm.out]; rfl) (by omega)
            rw [hq1.out, e11.out] at q
            exact q
          go_wp2_with fail
          refine hd1.out.mono ?_
          rintro e w7 ⟨ad3, cap3, rfl, _, b7⟩
          obtain ⟨d1, hd1e⟩ : ∃ d1, dC (L ++ [7]) = d1 := ⟨_, rfl⟩
          obtain ⟨N1, hN1⟩ : ∃ N1, d1.d.length = N1 := ⟨_, rfl⟩
          rw [hd1e]
          rw [hN1]
          clear hd1e hN1 hd1
          have b78 := b7.trans ((balloc w7 (.cells (ccs d1 (.slice ad3 N1 cap3)) 34)).mono b7.size)
          have bz8 := hid (bz6.out.trans (b78.mono bz6.out.size))
          have hbE8 := hid (hbE6.out.below b78)
          have hB8 := hid (hB6.out.more b78)
          clear b7 b78
          go_upto_region 9 with fail
          obtain ⟨w8, hw8⟩ : ∃ w8, w7.alloc (.cells (ccs d1 (.slice ad3 N1 cap3)) 34) = w8 := ⟨_, rfl⟩
          rw [hw8] at bz8 hbE8 hB8 ⊢
          clear hw8
          have hd2 : Hid (Calls Tryd.prog 16 #[.slice ad' m1 cap'] w8 fun e w' => ∃ ad3 cap3, e = .returned (.tuple #[cv (dC (L.take m1)) (.slice ad3 (dC (L.take m1)).d.length cap3), .iface 62 (.int .i64 10)]) ∧ Bytes w' ad3 cap3 (dC (L.take m1)).d ∧ Below w8.heap.size w8 w') := by
            have q := decode_any (hbE8.out.take m1) (n := m1) (by rw [List.length_take, hLm.out]; omega) (by omega)
            rw [hq2.out, e10.out] at q
            exact q
          go_wp2_with fail
          refine hd2.out.mono ?_
          rintro e w9 ⟨ad4, cap4, rfl, _, b9⟩
          obtain ⟨d2, hd2e⟩ : ∃ d2, dC (L.take m1) = d2 := ⟨_, rfl⟩
          obtain ⟨N2, hN2⟩ : ∃ N2, d2.d.length = N2 := ⟨_, rfl⟩
          rw [hd2e]
          rw [hN2]
          clear hd2e hN2 hd2
          have b90 := b9.trans ((balloc w9 (.cells (ccs d2 (.slice ad4 N2 cap4)) 34)).mono b9.size)
          have bz9 := hid (bz8.out.trans (b90.mono bz8.out.size))
          have hB9 := hB8.out.more b90
          clear b9 b90 hbE8 hB8 bz8
          go_upto_region 10 with fail
          obtain ⟨wa, hwa⟩ : ∃ wa, w9.alloc (.cells (ccs d2 (.slice ad4 N2 cap4)) 34) = wa := ⟨_, rfl⟩
          rw [hwa] at bz9 hB9 ⊢
          clear hwa
          have c0 := hB9.cells.1
          replace hB9 := hid hB9
          have hnm := hid (num_err 11 wa (hg.out.below bz9.out))
          go_wp2_with fail
          refine hnm.out.mono ?_
          rintro e wb ⟨rfl, bn⟩
          have bzb := hid (bz9.out.trans (bn.mono bz9.out.size))
          clear bn hnm
          have hnm := hid (num_err 10 wb (hg.out.below bzb.out))
          go_wp2_with fail
          refine hnm.out.mono ?_
          rintro e wc ⟨rfl, bn⟩
          have bzc := hid (bzb.out.trans (bn.mono bzb.out.size))
          clear bn hnm
          have hone2 := hone'.out
          have hnm := hid (num_err 10 wc (hg.out.below bzc.out))
          go_wp2_with fail
          refine hnm.out.mono ?_
          rintro e wd ⟨rfl, bn⟩
          have bzd := hid (bzc.out.trans (bn.mono bzc.out.size))
          clear bn hnm
          have hs := hid (sure_any wd)
          go_wp2_with fail
          refine hs.out.mono ?_
          rintro e wz ⟨rfl, bz⟩
          have hbz := hid (bzd.out.trans (bz.mono bzd.out.size))
          clear bz hs
          go_wp2_with fail
          go_ret
          exact ⟨rfl, hbz.out⟩
    · subst hm
      rw [erv_ne hc]
      have bz3 := hid (bz2.out.trans (b3.mono bz2.out.size))
      have hs := hid (sure_any w3)
      clear b3 hen hc
      go_wp2_with fail
      refine hs.out.mono ?_
      rintro e w4 ⟨rfl, b4⟩
      have hbz := hid (bz3.out.trans (b4.mono bz3.out.size))
      clear b4
      go_wp2_with fail
      go_ret
      exact ⟨rfl, hbz.out⟩

end Go.Proofs.YtmmpkhoejcfdmaaDoor
