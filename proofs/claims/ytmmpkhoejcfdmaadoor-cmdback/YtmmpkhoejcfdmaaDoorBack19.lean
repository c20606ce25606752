/- The law CmdBack, walked. -/
import Derived.Test.YtmmpkhoejcfdmaaDoorSizes19
namespace Go.Proofs.YtmmpkhoejcfdmaaDoor
open Go.RowKit
set_option linter.unusedVariables false

set_option maxRecDepth 100000 in
set_option maxHeartbeats 4000000 in
theorem back_law {W : World} (c : Cm) (ad : Option Addr) (n cap : Nat) (hn : c.d.length = n) (hw : Wf c) (hby : n ≤ 5000 → Bytes W ad cap c.d) (adb : Option Addr) (m capb : Nat) (lb : List UInt8) (hml : m = lb.length) (hbb : Bytes W adb capb lb) (hg : Handle W) :
    Calls Tryd.prog 5 #[cv c (.slice ad n cap), .slice adb m capb] W fun e W' => e = .returned (.bool true) ∧ Below W.heap.size W W' := by
  have hB1 := RB.mk (new_of W (ccs c (.slice ad n cap)) 29)
  have b1 := balloc W (.cells (ccs c (.slice ad n cap)) 29)
  obtain ⟨B, hB⟩ : ∃ B, W.heap.size = B := ⟨_, rfl⟩
  rw [hB] at hB1
  replace hml := hid hml.symm
  replace hn := hid hn
  replace hw := hid hw
  replace hg := hid hg
  replace hby := hid hby
  replace hbb := hid hbb
  go_enter Tryd.func5, Tryd.ntmps5
  go_upto_region 1 with fail
  obtain ⟨w1, hw1⟩ : ∃ w1, W.alloc (.cells (ccs c (.slice ad n cap)) 29) = w1 := ⟨_, rfl⟩
  rw [hw1] at hB1 b1 ⊢
  clear hw1
  try rw [hB]
  obtain ⟨c0, c1, c2, c3, c4, c5, c6, c7, c8⟩ := hB1.cells
  replace hB := hid hB
  replace b1 := hid b1
  by_cases hbig : 5000 < n ∨ 5000 < m
  · replace hB1 := hid hB1
    rcases Nat.lt_or_ge 5000 n with hlt | hle
    · have hlt' : (5000 : Int) < (n : Int) := by omega
      clear hlt hbig
      have hs := hid (sure_any w1)
      go_wp2_with fail
      refine hs.out.mono ?_
      rintro e wz ⟨rfl, bz⟩
      have hbz := hid (b1.out.trans (bz.mono b1.out.size))
      clear bz hs
      go_wp2_with fail
      go_ret
      exact ⟨rfl, hbz.out⟩
    · have hle' : ¬ (5000 : Int) < (n : Int) := by omega
      have hlt' : (5000 : Int) < (m : Int) := by omega
      clear hle hbig
      have hs := hid (sure_any w1)
      go_wp2_with fail
      refine hs.out.mono ?_
      rintro e wz ⟨rfl, bz⟩
      have hbz := hid (b1.out.trans (bz.mono b1.out.size))
      clear bz hs
      go_wp2_with fail
      go_ret
      exact ⟨rfl, hbz.out⟩
  · have hle' : ¬ (5000 : Int) < (n : Int) := by omega
    have hlm' : ¬ (5000 : Int) < (m : Int) := by omega
    have hle : n ≤ 5000 := by omega
    have hlm : m ≤ 5000 := by omega
    have hbW := hby.out hle
    have hgv := hid (give_ok c ad n cap w1)
    clear hbig
    go_wp2_with fail
    refine hgv.out.mono ?_
    rintro e w2 ⟨rfl, b2⟩
    have bz2 := hid (b1.out.trans (b2.mono b1.out.size))
    have hB2 := hid (hB1.more b2)
    have hen := hid (encode_any c ad n cap hn.out hw.out w2 (hbW.below bz2.out) (by omega))
    replace hbW := hid hbW
    clear b2 c0 c1 c2 c3 c4 c5 c6 c7 c8 hgv hB1 hby hle' hlm'
    have e11 : Hid (erv 11 = .iface 62 (.int .i64 11)) := hid rfl
    have e10 : Hid (erv 10 = .iface 62 (.int .i64 10)) := hid rfl
    have e3 : Hid (erv 3 = .iface 62 (.int .i64 3)) := hid rfl
    go_wp2_with fail
    refine hen.out.mono ?_
    rintro e w3 ⟨ad', m', cap', rfl, b3, ⟨hc, hm, hbE⟩ | ⟨hc, hm⟩⟩
    · have hel := enc_le hc (by rw [hn.out]; exact hle)
      have hde := hid (dec_enc hw.out hc)
      rw [hc, erv_zero]
      rw [← hm] at hel
      have hm6 : m' ≤ 5023 := hel.2
      have bz3 := hid (bz2.out.trans (b3.mono bz2.out.size))
      have hB3 := hid (hB2.out.more b3)
      have hd1 : Hid (Calls Tryd.prog 16 #[.slice ad' m' cap'] w3 fun e w' => ∃ ad3 cap3, e = .returned (.tuple #[cv c (.slice ad3 n cap3), .nilIface]) ∧ Bytes w' ad3 cap3 c.d ∧ Below w3.heap.size w3 w') := by
        have q := decode_any hbE (n := m') hm.symm (by omega)
        rw [hde.out.1, hde.out.2, erv_zero, hn.out] at q
        exact q
      clear hen b3 hm hc hel hB2 bz2 hbE hde
      go_wp2_with fail
      refine hd1.out.mono ?_
      rintro e w4 ⟨ad3, cap3, rfl, hb4, b4⟩
      have ba := balloc w4 (.cells (ccs c (.slice ad3 n cap3)) 34)
      have b45 := b4.trans (ba.mono b4.size)
      have bz5 := hid (bz3.out.trans (b45.mono bz3.out.size))
      have hb5 := hb4.below ba
      have hE := CB.mk (new_of w4 (ccs c (.slice ad3 n cap3)) 34)
      have hB5 := hB3.out.more b45
      have hsm := hid (same_ok c ad3 ad n n cap3 cap _ hb5 (hbW.out.below bz5.out) hn.out.symm hn.out.symm)
      clear hd1 b4 b45 hb4 hb5 ba hB3 bz3
      go_upto_region 6 with fail
      obtain ⟨w5, hw5⟩ : ∃ w5, w4.alloc (.cells (ccs c (.slice ad3 n cap3)) 34) = w5 := ⟨_, rfl⟩
      obtain ⟨E, hEe⟩ : ∃ E, w4.heap.size = E := ⟨_, rfl⟩
      rw [hw5] at bz5 hE hB5 hsm ⊢
      rw [hEe] at hE ⊢
      clear hw5 hEe
      obtain ⟨c0, c1, c2, c3, c4, c5, c6, c7, c8⟩ := hB5.cells
      obtain ⟨y0, y1, y2, y3, y4, y5, y6, y7, y8⟩ := hE.cells
      replace hB5 := hid hB5
      replace hE := hid hE
      go_wp2_with fail
      refine hsm.out.mono ?_
      rintro e w6 ⟨rfl, b6⟩
      have bz6 := hid (bz5.out.trans (b6.mono bz5.out.size))
      clear b6 c0 c1 c2 c3 c4 c5 c6 c7 c8 y0 y1 y2 y3 y4 y5 y6 y7 y8 hsm bz5 hB5 hE
      rcases dE_is lb with hz | ⟨hz, _⟩
      · have hzh := hid hz
        have hen2 := hid (enc_dec hz)
        clear hz
        have hd2 : Hid (Calls Tryd.prog 16 #[.slice adb m capb] w6 fun e w' => ∃ ad3 cap3, e = .returned (.tuple #[cv (dC lb) (.slice ad3 (dC lb).d.length cap3), .nilIface]) ∧ Bytes w' ad3 cap3 (dC lb).d ∧ Below w6.heap.size w6 w') := by
          have q := decode_any (hbb.out.below bz6.out) (n := m) hml.out (by omega)
          rw [hzh.out, erv_zero] at q
          exact q
        go_wp2_with fail
        refine hd2.out.mono ?_
        rintro e w7 ⟨ad3, cap3, rfl, hbd, b7⟩
        obtain ⟨d1, hd1e⟩ : ∃ d1, dC lb = d1 := ⟨_, rfl⟩
        rw [hd1e] at hbd
        rw [hd1e]
        obtain ⟨N1, hN1⟩ : ∃ N1, d1.d.length = N1 := ⟨_, rfl⟩
        rw [hN1]
        replace hd1e := hid hd1e
        replace hN1 := hid hN1
        clear hd2
        have ba := balloc w7 (.cells (ccs d1 (.slice ad3 N1 cap3)) 34)
        have b78 := b7.trans (ba.mono b7.size)
        have bz9 := hid (bz6.out.trans (b78.mono bz6.out.size))
        have hbd8 := hid (hbd.below ba)
        have hD := CB.mk (new_of w7 (ccs d1 (.slice ad3 N1 cap3)) 34)
        clear b7 b78 hbd ba
        go_upto_region 9 with fail
        obtain ⟨w8, hw8⟩ : ∃ w8, w7.alloc (.cells (ccs d1 (.slice ad3 N1 cap3)) 34) = w8 := ⟨_, rfl⟩
        obtain ⟨D, hDe⟩ : ∃ D, w7.heap.size = D := ⟨_, rfl⟩
        rw [hw8] at bz9 hD hbd8 ⊢
        rw [hDe] at hD ⊢
        clear hw8 hDe
        obtain ⟨y0, y1, y2, y3, y4, y5, y6, y7, y8⟩ := hD.cells
        have hdl : Hid (N1 ≤ 6000) := by
          have h1 := hen2.out
          rw [hd1e.out] at h1
          obtain ⟨p, hp, _⟩ := chk_zero.1 h1.1
          have h2 := encp_len (c := d1) (pt_is hp).1
          have h3 := h1.2.1
          unfold enc at h3
          rw [hp] at h3
          dsimp only at h3
          rw [h3, hml.out, hN1.out] at h2
          show _ ≤ _
          omega
        have hen : Hid (Calls Tryd.prog 10 #[cv d1 (.slice ad3 N1 cap3)] w8 fun e w' => ∃ ad4 cap4, e = .returned (.tuple #[.slice ad4 m cap4, .nilIface]) ∧ Bytes w' ad4 cap4 lb ∧ Below w8.heap.size w8 w') := by
          have h1 := hen2.out
          rw [hd1e.out] at h1
          have q := encode_ok d1 ad3 N1 cap3 hN1.out h1.1 h1.2.2 w8 hbd8.out hdl.out
          rw [h1.2.1, hml.out] at q
          exact q
        replace hD := hid hD
        go_wp2_with fail
        refine hen.out.mono ?_
        rintro e w9 ⟨ad4, cap4, rfl, hby4, b9⟩
        have bza := hid (bz9.out.trans (b9.mono bz9.out.size))
        have hs1 := string_at hby4 hml.out.symm
        have hs2 := string_at (hbb.out.below bza.out) hml.out.symm
        clear hen b9 y0 y1 y2 y3 y4 y5 y6 y7 y8 hby4
        have hs := hid (sure_any w9)
        go_wp2_with fail
        refine hs.out.mono ?_
        rintro e wz ⟨rfl, bz⟩
        have hbz := hid (bza.out.trans (bz.mono bza.out.size))
        clear bz hs
        go_wp2_with fail
        go_ret
        exact ⟨rfl, hbz.out⟩
      · rcases hz with hz | hz | hz
        · have hzh := hid hz
          clear hz
          have hd2 : Hid (Calls Tryd.prog 16 #[.slice adb m capb] w6 fun e w' => ∃ ad3 cap3, e = .returned (.tuple #[cv (dC lb) (.slice ad3 (dC lb).d.length cap3), .iface 62 (.int .i64 10)]) ∧ Bytes w' ad3 cap3 (dC lb).d ∧ Below w6.heap.size w6 w') := by
            have q := decode_any (hbb.out.below bz6.out) (n := m) hml.out (by omega)
            rw [hzh.out, e10.out] at q
            exact q
          go_wp2_with fail
          refine hd2.out.mono ?_
          rintro e w7 ⟨ad3, cap3, rfl, hbd, b7⟩
          obtain ⟨d1, hd1e⟩ : ∃ d1, dC lb = d1 := ⟨_, rfl⟩
          rw [hd1e] at hbd
          rw [hd1e]
          obtain ⟨N1, hN1⟩ : ∃ N1, d1.d.length = N1 := ⟨_, rfl⟩
          rw [hN1]
          replace hd1e := hid hd1e
          replace hN1 := hid hN1
          clear hd2
          have ba := balloc w7 (.cells (ccs d1 (.slice ad3 N1 cap3)) 34)
          have b78 := b7.trans (ba.mono b7.size)
          have bz9 := hid (bz6.out.trans (b78.mono bz6.out.size))
          have hbd8 := hid (hbd.below ba)
          have hD := CB.mk (new_of w7 (ccs d1 (.slice ad3 N1 cap3)) 34)
          clear b7 b78 hbd ba
          go_upto_region 9 with fail
          obtain ⟨w8, hw8⟩ : ∃ w8, w7.alloc (.cells (ccs d1 (.slice ad3 N1 cap3)) 34) = w8 := ⟨_, rfl⟩
          obtain ⟨D, hDe⟩ : ∃ D, w7.heap.size = D := ⟨_, rfl⟩
          rw [hw8] at bz9 hD hbd8 ⊢
          rw [hDe] at hD ⊢
          clear hw8 hDe
          have hnm := hid (num_err 10 w8 (hg.out.below bz9.out))
          go_wp2_with fail
          refine hnm.out.mono ?_
          rintro e w9 ⟨rfl, bn⟩
          have bza := hid (bz9.out.trans (bn.mono bz9.out.size))
          clear bn hnm
          have hs := hid (sure_any w9)
          go_wp2_with fail
          refine hs.out.mono ?_
          rintro e wz ⟨rfl, bz⟩
          have hbz := hid (bza.out.trans (bz.mono bza.out.size))
          clear bz hs
          go_wp2_with fail
          go_ret
          exact ⟨rfl, hbz.out⟩
        · have hzh := hid hz
          clear hz
          have hd2 : Hid (Calls Tryd.prog 16 #[.slice adb m capb] w6 fun e w' => ∃ ad3 cap3, e = .returned (.tuple #[cv (dC lb) (.slice ad3 (dC lb).d.length cap3), .iface 62 (.int .i64 11)]) ∧ Bytes w' ad3 cap3 (dC lb).d ∧ Below w6.heap.size w6 w') := by
            have q := decode_any (hbb.out.below bz6.out) (n := m) hml.out (by omega)
            rw [hzh.out, e11.out] at q
            exact q
          go_wp2_with fail
          refine hd2.out.mono ?_
          rintro e w7 ⟨ad3, cap3, rfl, hbd, b7⟩
          obtain ⟨d1, hd1e⟩ : ∃ d1, dC lb = d1 := ⟨_, rfl⟩
          rw [hd1e] at hbd
          rw [hd1e]
          obtain ⟨N1, hN1⟩ : ∃ N1, d1.d.length = N1 := ⟨_, rfl⟩
          rw [hN1]
          replace hd1e := hid hd1e
          replace hN1 := hid hN1
          clear hd2
          have ba := balloc w7 (.cells (ccs d1 (.slice ad3 N1 cap3)) 34)
          have b78 := b7.trans (ba.mono b7.size)
          have bz9 := hid (bz6.out.trans (b78.mono bz6.out.size))
          have hbd8 := hid (hbd.below ba)
          have hD := CB.mk (new_of w7 (ccs d1 (.slice ad3 N1 cap3)) 34)
          clear b7 b78 hbd ba
          go_upto_region 9 with fail
          obtain ⟨w8, hw8⟩ : ∃ w8, w7.alloc (.cells (ccs d1 (.slice ad3 N1 cap3)) 34) = w8 := ⟨_, rfl⟩
          obtain ⟨D, hDe⟩ : ∃ D, w7.heap.size = D := ⟨_, rfl⟩
          rw [hw8] at bz9 hD hbd8 ⊢
          rw [hDe] at hD ⊢
          clear hw8 hDe
          have hnm := hid (num_err 11 w8 (hg.out.below bz9.out))
          go_wp2_with fail
          refine hnm.out.mono ?_
          rintro e w9 ⟨rfl, bn⟩
          have bza := hid (bz9.out.trans (bn.mono bz9.out.size))
          clear bn hnm
          have hnm := hid (num_err 11 w9 (hg.out.below bza.out))
          go_wp2_with fail
          refine hnm.out.mono ?_
          rintro e wa ⟨rfl, bn⟩
          have bzb := hid (bza.out.trans (bn.mono bza.out.size))
          clear bn hnm
          have hs := hid (sure_any wa)
          go_wp2_with fail
          refine hs.out.mono ?_
          rintro e wz ⟨rfl, bz⟩
          have hbz := hid (bzb.out.trans (bz.mono bzb.out.size))
          clear bz hs
          go_wp2_with fail
          go_ret
          exact ⟨rfl, hbz.out⟩
        · have hzh := hid hz
          clear hz
          have hd2 : Hid (Calls Tryd.prog 16 #[.slice adb m capb] w6 fun e w' => ∃ ad3 cap3, e = .returned (.tuple #[cv (dC lb) (.slice ad3 (dC lb).d.length cap3), .iface 62 (.int .i64 3)]) ∧ Bytes w' ad3 cap3 (dC lb).d ∧ Below w6.heap.size w6 w') := by
            have q := decode_any (hbb.out.below bz6.out) (n := m) hml.out (by omega)
            rw [hzh.out, e3.out] at q
            exact q
          go_wp2_with fail
          refine hd2.out.mono ?_
          rintro e w7 ⟨ad3, cap3, rfl, hbd, b7⟩
          obtain ⟨d1, hd1e⟩ : ∃ d1, dC lb = d1 := ⟨_, rfl⟩
          rw [hd1e] at hbd
          rw [hd1e]
          obtain ⟨N1, hN1⟩ : ∃ N1, d1.d.length = N1 := ⟨_, rfl⟩
          rw [hN1]
          replace hd1e := hid hd1e
          replace hN1 := hid hN1
          clear hd2
          have ba := balloc w7 (.cells (ccs d1 (.slice ad3 N1 cap3)) 34)
          have b78 := b7.trans (ba.mono b7.size)
          have bz9 := hid (bz6.out.trans (b78.mono bz6.out.size))
          have hbd8 := hid (hbd.below ba)
          have hD := CB.mk (new_of w7 (ccs d1 (.slice ad3 N1 cap3)) 34)
          clear b7 b78 hbd ba
          go_upto_region 9 with fail
          obtain ⟨w8, hw8⟩ : ∃ w8, w7.alloc (.cells (ccs d1 (.slice ad3 N1 cap3)) 34) = w8 := ⟨_, rfl⟩
          obtain ⟨D, hDe⟩ : ∃ D, w7.heap.size = D := ⟨_, rfl⟩
          rw [hw8] at bz9 hD hbd8 ⊢
          rw [hDe] at hD ⊢
          clear hw8 hDe
          have hnm := hid (num_err 3 w8 (hg.out.below bz9.out))
          go_wp2_with fail
          refine hnm.out.mono ?_
          rintro e w9 ⟨rfl, bn⟩
          have bza := hid (bz9.out.trans (bn.mono bz9.out.size))
          clear bn hnm
          have hnm := hid (num_err 3 w9 (hg.out.below bza.out))
          go_wp2_with fail
          refine hnm.out.mono ?_
          rintro e wa ⟨rfl, bn⟩
          have bzb := hid (bza.out.trans (bn.mono bza.out.size))
          clear bn hnm
          have hnm := hid (num_err 3 wa (hg.out.below bzb.out))
          go_wp2_with fail
          refine hnm.out.mono ?_
          rintro e wb ⟨rfl, bn⟩
          have bzc := hid (bzb.out.trans (bn.mono bzb.out.size))
          clear bn hnm
          have hs := hid (sure_any wb)
          go_wp2_with fail
          refine hs.out.mono ?_
          rintro e wz ⟨rfl, bz⟩
          have hbz := hid (bzc.out.trans (bz.mono bzc.out.size))
          clear bz hs
          go_wp2_with fail
          go_ret
          exact ⟨rfl, hbz.out⟩
    · rw [erv_ne hc]
      have bz6 := hid (bz2.out.trans (b3.mono bz2.out.size))
      clear b3 hen hc hB2 bz2
      rcases dE_is lb with hz | ⟨hz, _⟩
      · have hzh := hid hz
        have hen2 := hid (enc_dec hz)
        clear hz
        have hd2 : Hid (Calls Tryd.prog 16 #[.slice adb m capb] w3 fun e w' => ∃ ad3 cap3, e = .returned (.tuple #[cv (dC lb) (.slice ad3 (dC lb).d.length cap3), .nilIface]) ∧ Bytes w' ad3 cap3 (dC lb).d ∧ Below w3.heap.size w3 w') := by
          have q := decode_any (hbb.out.below bz6.out) (n := m) hml.out (by omega)
          rw [hzh.out, erv_zero] at q
          exact q
        go_wp2_with fail
        refine hd2.out.mono ?_
        rintro e w7 ⟨ad3, cap3, rfl, hbd, b7⟩
        obtain ⟨d1, hd1e⟩ : ∃ d1, dC lb = d1 := ⟨_, rfl⟩
        rw [hd1e] at hbd
        rw [hd1e]
        obtain ⟨N1, hN1⟩ : ∃ N1, d1.d.length = N1 := ⟨_, rfl⟩
        rw [hN1]
        replace hd1e := hid hd1e
        replace hN1 := hid hN1
        clear hd2
        have ba := balloc w7 (.cells (ccs d1 (.slice ad3 N1 cap3)) 34)
        have b78 := b7.trans (ba.mono b7.size)
        have bz9 := hid (bz6.out.trans (b78.mono bz6.out.size))
        have hbd8 := hid (hbd.below ba)
        have hD := CB.mk (new_of w7 (ccs d1 (.slice ad3 N1 cap3)) 34)
        clear b7 b78 hbd ba
        go_upto_region 9 with fail
        obtain ⟨w8, hw8⟩ : ∃ w8, w7.alloc (.cells (ccs d1 (.slice ad3 N1 cap3)) 34) = w8 := ⟨_, rfl⟩
        obtain ⟨D, hDe⟩ : ∃ D, w7.heap.size = D := ⟨_, rfl⟩
        rw [hw8] at bz9 hD hbd8 ⊢
        rw [hDe] at hD ⊢
        clear hw8 hDe
        obtain ⟨y0, y1, y2, y3, y4, y5, y6, y7, y8⟩ := hD.cells
        have hdl : Hid (N1 ≤ 6000) := by
          have h1 := hen2.out
          rw [hd1e.out] at h1
          obtain ⟨p, hp, _⟩ := chk_zero.1 h1.1
          have h2 := encp_len (c := d1) (pt_is hp).1
          have h3 := h1.2.1
          unfold enc at h3
          rw [hp] at h3
          dsimp only at h3
          rw [h3, hml.out, hN1.out] at h2
          show _ ≤ _
          omega
        have hen : Hid (Calls Tryd.prog 10 #[cv d1 (.slice ad3 N1 cap3)] w8 fun e w' => ∃ ad4 cap4, e = .returned (.tuple #[.slice ad4 m cap4, .nilIface]) ∧ Bytes w' ad4 cap4 lb ∧ Below w8.heap.size w8 w') := by
          have h1 := hen2.out
          rw [hd1e.out] at h1
          have q := encode_ok d1 ad3 N1 cap3 hN1.out h1.1 h1.2.2 w8 hbd8.out hdl.out
          rw [h1.2.1, hml.out] at q
          exact q
        replace hD := hid hD
        go_wp2_with fail
        refine hen.out.mono ?_
        rintro e w9 ⟨ad4, cap4, rfl, hby4, b9⟩
        have bza := hid (bz9.out.trans (b9.mono bz9.out.size))
        have hs1 := string_at hby4 hml.out.symm
        have hs2 := string_at (hbb.out.below bza.out) hml.out.symm
        clear hen b9 y0 y1 y2 y3 y4 y5 y6 y7 y8 hby4
        have hs := hid (sure_any w9)
        go_wp2_with fail
        refine hs.out.mono ?_
        rintro e wz ⟨rfl, bz⟩
        have hbz := hid (bza.out.trans (bz.mono bza.out.size))
        clear bz hs
        go_wp2_with fail
        go_ret
        exact ⟨rfl, hbz.out⟩
      · rcases hz with hz | hz | hz
        · have hzh := hid hz
          clear hz
          have hd2 : Hid (Calls Tryd.prog 16 #[.slice adb m capb] w3 fun e w' => ∃ ad3 cap3, e = .returned (.tuple #[cv (dC lb) (.slice ad3 (dC lb).d.length cap3), .iface 62 (.int .i64 10)]) ∧ Bytes w' ad3 cap3 (dC lb).d ∧ Below w3.heap.size w3 w') := by
            have q := decode_any (hbb.out.below bz6.out) (n := m) hml.out (by omega)
            rw [hzh.out, e10.out] at q
            exact q
          go_wp2_with fail
          refine hd2.out.mono ?_
          rintro e w7 ⟨ad3, cap3, rfl, hbd, b7⟩
          obtain ⟨d1, hd1e⟩ : ∃ d1, dC lb = d1 := ⟨_, rfl⟩
          rw [hd1e] at hbd
          rw [hd1e]
          obtain ⟨N1, hN1⟩ : ∃ N1, d1.d.length = N1 := ⟨_, rfl⟩
          rw [hN1]
          replace hd1e := hid hd1e
          replace hN1 := hid hN1
          clear hd2
          have ba := balloc w7 (.cells (ccs d1 (.slice ad3 N1 cap3)) 34)
          have b78 := b7.trans (ba.mono b7.size)
          have bz9 := hid (bz6.out.trans (b78.mono bz6.out.size))
          have hbd8 := hid (hbd.below ba)
          have hD := CB.mk (new_of w7 (ccs d1 (.slice ad3 N1 cap3)) 34)
          clear b7 b78 hbd ba
          go_upto_region 9 with fail
          obtain ⟨w8, hw8⟩ : ∃ w8, w7.alloc (.cells (ccs d1 (.slice ad3 N1 cap3)) 34) = w8 := ⟨_, rfl⟩
          obtain ⟨D, hDe⟩ : ∃ D, w7.heap.size = D := ⟨_, rfl⟩
          rw [hw8] at bz9 hD hbd8 ⊢
          rw [hDe] at hD ⊢
          clear hw8 hDe
          have hnm := hid (num_err 10 w8 (hg.out.below bz9.out))
          go_wp2_with fail
          refine hnm.out.mono ?_
          rintro e w9 ⟨rfl, bn⟩
          have bza := hid (bz9.out.trans (bn.mono bz9.out.size))
          clear bn hnm
          have hs := hid (sure_any w9)
          go_wp2_with fail
          refine hs.out.mono ?_
          rintro e wz ⟨rfl, bz⟩
          have hbz := hid (bza.out.trans (bz.mono bza.out.size))
          clear bz hs
          go_wp2_with fail
          go_ret
          exact ⟨rfl, hbz.out⟩
        · have hzh := hid hz
          clear hz
          have hd2 : Hid (Calls Tryd.prog 16 #[.slice adb m capb] w3 fun e w' => ∃ ad3 cap3, e = .returned (.tuple #[cv (dC lb) (.slice ad3 (dC lb).d.length cap3), .iface 62 (.int .i64 11)]) ∧ Bytes w' ad3 cap3 (dC lb).d ∧ Below w3.heap.size w3 w') := by
            have q := decode_any (hbb.out.below bz6.out) (n := m) hml.out (by omega)
            rw [hzh.out, e11.out] at q
            exact q
          go_wp2_with fail
          refine hd2.out.mono ?_
          rintro e w7 ⟨ad3, cap3, rfl, hbd, b7⟩
          obtain ⟨d1, hd1e⟩ : ∃ d1, dC lb = d1 := ⟨_, rfl⟩
          rw [hd1e] at hbd
          rw [hd1e]
          obtain ⟨N1, hN1⟩ : ∃ N1, d1.d.length = N1 := ⟨_, rfl⟩
          rw [hN1]
          replace hd1e := hid hd1e
          replace hN1 := hid hN1
          clear hd2
          have ba := balloc w7 (.cells (ccs d1 (.slice ad3 N1 cap3)) 34)
          have b78 := b7.trans (ba.mono b7.size)
          have bz9 := hid (bz6.out.trans (b78.mono bz6.out.size))
          have hbd8 := hid (hbd.below ba)
          have hD := CB.mk (new_of w7 (ccs d1 (.slice ad3 N1 cap3)) 34)
          clear b7 b78 hbd ba
          go_upto_region 9 with fail
          obtain ⟨w8, hw8⟩ : ∃ w8, w7.alloc (.cells (ccs d1 (.slice ad3 N1 cap3)) 34) = w8 := ⟨_, rfl⟩
          obtain ⟨D, hDe⟩ : ∃ D, w7.heap.size = D := ⟨_, rfl⟩
          rw [hw8] at bz9 hD hbd8 ⊢
          rw [hDe] at hD ⊢
          clear hw8 hDe
          have hnm := hid (num_err 11 w8 (hg.out.below bz9.out))
          go_wp2_with fail
          refine hnm.out.mono ?_
          rintro e w9 ⟨rfl, bn⟩
          have bza := hid (bz9.out.trans (bn.mono bz9.out.size))
          clear bn hnm
          have hnm := hid (num_err 11 w9 (hg.out.below bza.out))
          go_wp2_with fail
          refine hnm.out.mono ?_
          rintro e wa ⟨rfl, bn⟩
          have bzb := hid (bza.out.trans (bn.mono bza.out.size))
          clear bn hnm
          have hs := hid (sure_any wa)
          go_wp2_with fail
          refine hs.out.mono ?_
          rintro e wz ⟨rfl, bz⟩
          have hbz := hid (bzb.out.trans (bz.mono bzb.out.size))
          clear bz hs
          go_wp2_with fail
          go_ret
          exact ⟨rfl, hbz.out⟩
        · have hzh := hid hz
          clear hz
          have hd2 : Hid (Calls Tryd.prog 16 #[.slice adb m capb] w3 fun e w' => ∃ ad3 cap3, e = .returned (.tuple #[cv (dC lb) (.slice ad3 (dC lb).d.length cap3), .iface 62 (.int .i64 3)]) ∧ Bytes w' ad3 cap3 (dC lb).d ∧ Below w3.heap.size w3 w') := by
            have q := decode_any (hbb.out.below bz6.out) (n := m) hml.out (by omega)
            rw [hzh.out, e3.out] at q
            exact q
          go_wp2_with fail
          refine hd2.out.mono ?_
          rintro e w7 ⟨ad3, cap3, rfl, hbd, b7⟩
          obtain ⟨d1, hd1e⟩ : ∃ d1, dC lb = d1 := ⟨_, rfl⟩
          rw [hd1e] at hbd
          rw [hd1e]
          obtain ⟨N1, hN1⟩ : ∃ N1, d1.d.length = N1 := ⟨_, rfl⟩
          rw [hN1]
          replace hd1e := hid hd1e
          replace hN1 := hid hN1
          clear hd2
          have ba := balloc w7 (.cells (ccs d1 (.slice ad3 N1 cap3)) 34)
          have b78 := b7.trans (ba.mono b7.size)
          have bz9 := hid (bz6.out.trans (b78.mono bz6.out.size))
          have hbd8 := hid (hbd.below ba)
          have hD := CB.mk (new_of w7 (ccs d1 (.slice ad3 N1 cap3)) 34)
          clear b7 b78 hbd ba
          go_upto_region 9 with fail
          obtain ⟨w8, hw8⟩ : ∃ w8, w7.alloc (.cells (ccs d1 (.slice ad3 N1 cap3)) 34) = w8 := ⟨_, rfl⟩
          obtain ⟨D, hDe⟩ : ∃ D, w7.heap.size = D := ⟨_, rfl⟩
          rw [hw8] at bz9 hD hbd8 ⊢
          rw [hDe] at hD ⊢
          clear hw8 hDe
          have hnm := hid (num_err 3 w8 (hg.out.below bz9.out))
          go_wp2_with fail
          refine hnm.out.mono ?_
          rintro e w9 ⟨rfl, bn⟩
          have bza := hid (bz9.out.trans (bn.mono bz9.out.size))
          clear bn hnm
          have hnm := hid (num_err 3 w9 (hg.out.below bza.out))
          go_wp2_with fail
          refine hnm.out.mono ?_
          rintro e wa ⟨rfl, bn⟩
          have bzb := hid (bza.out.trans (bn.mono bza.out.size))
          clear bn hnm
          have hnm := hid (num_err 3 wa (hg.out.below bzb.out))
          go_wp2_with fail
          refine hnm.out.mono ?_
          rintro e wb ⟨rfl, bn⟩
          have bzc := hid (bzb.out.trans (bn.mono bzb.out.size))
          clear bn hnm
          have hs := hid (sure_any wb)
          go_wp2_with fail
          refine hs.out.mono ?_
          rintro e wz ⟨rfl, bz⟩
          have hbz := hid (bzc.out.trans (bz.mono bzc.out.size))
          clear bz hs
          go_wp2_with fail
          go_ret
          exact ⟨rfl, hbz.out⟩

end Go.Proofs.YtmmpkhoejcfdmaaDoor
