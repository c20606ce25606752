/- The law CmdCodes, walked. -/
import Derived.Test.YtmmpkhoejcfdmaaDoorSizes19
import Derived.Test.YtmmpkhoejcfdmaaDoorOpened
namespace Go.Proofs.YtmmpkhoejcfdmaaDoor
open Go.ChangeShapes Go.WideShapes Go.ChangeAt Go.RowKit
set_option linter.unusedVariables false

/-- Bytes of one's own, the first of them another one. -/
theorem own_set0 {w : World} {base m : Nat} {v : Value} {k : UInt8} {r : List UInt8} {e : TypeId} (h : w.ownsRow base e 1 v m ((k :: r).map bc)) (hl : m ≤ 1000000) (x : UInt8) : ∃ g cap, v = .slice (some ⟨g, 0, none⟩) m cap ∧ base ≤ g ∧ m ≤ cap ∧ w.cell? ⟨g, 0, none⟩ = some (bc k) ∧ w.frozen? ⟨g, 0, none⟩ = false ∧ Bytes (w.setCell ⟨g, 0, none⟩ (bc x)) (some ⟨g, 0, none⟩) cap (x :: r) := by
  have hm := h.1
  simp at hm
  rcases h.2 with ⟨_, h0⟩ | ⟨g, cap, cur, rfl, hg, hh, hle, hmx, hsz, htk⟩
  · omega
  · simp only [Nat.mul_one] at htk hsz
    have hcs : cur.toList.take (r.length + 1) = (k :: r).map bc := by rw [show r.length + 1 = m by omega]; exact htk
    have h0 : cur[0]? = some (bc k) := by
      have := congrArg (fun l => l[0]?) hcs
      simpa using this
    refine ⟨g, cap, rfl, hg, hle, cell_of hh h0, frozen_of hh, ?_⟩
    have hs := set_block (k := 0) hh (bc x)
    refine ⟨by simp; omega, by simp; omega, by simp, ?_⟩
    intro a ha j u hu
    cases ha
    have hp : (⟨g, 0, none⟩ : Addr).add j = ⟨g, j, none⟩ := by unfold Addr.add; split <;> simp_all
    rw [hp]
    refine cell_of hs ?_
    have hj : j < r.length + 1 := by
      have := (List.getElem?_eq_some_iff.1 hu).1
      simpa using this
    rw [Array.getElem?_setIfInBounds]
    cases j with
    | zero =>
      have hcz := (Array.getElem?_eq_some_iff.1 h0).1
      simp at hu
      simp [hcz, hu]
    | succ j =>
      rw [if_neg (by omega)]
      have := congrArg (fun l => l[j + 1]?) hcs
      simp only [List.getElem?_take, if_pos hj, Array.getElem?_toList] at this
      rw [this]
      simpa using hu

set_option maxRecDepth 100000 in
set_option maxHeartbeats 4000000 in
theorem codes_law {W : World} (c : Cm) (ad : Option Addr) (n cap : Nat) (hn : c.d.length = n) (hw : Wf c) (hby : n ≤ 5000 → Bytes W ad cap c.d) (hg : Handle W) (x : UInt8) :
    Calls Tryd.prog 7 #[cv c (.slice ad n cap), .int .u8 (x.toNat : Int)] W fun e W' => e = .returned (.bool true) ∧ Below W.heap.size W W' := by
  have hB1 := RB.mk (new_of W (ccs c (.slice ad n cap)) 29)
  have b1 := balloc W (.cells (ccs c (.slice ad n cap)) 29)
  obtain ⟨B, hB⟩ : ∃ B, W.heap.size = B := ⟨_, rfl⟩
  rw [hB] at hB1
  replace hn := hid hn
  replace hw := hid hw
  replace hg := hid hg
  replace hby := hid hby
  obtain ⟨X, hX⟩ : ∃ X, x.toNat = X := ⟨_, rfl⟩
  rw [hX]
  replace hX := hid hX
  go_enter Tryd.func7, Tryd.ntmps7
  go_upto_region 1 with fail
  obtain ⟨w1, hw1⟩ : ∃ w1, W.alloc (.cells (ccs c (.slice ad n cap)) 29) = w1 := ⟨_, rfl⟩
  rw [hw1] at hB1 b1 ⊢
  clear hw1
  try rw [hB]
  obtain ⟨c0, c1, c2, c3, c4, c5, c6, c7, c8⟩ := hB1.cells
  replace hB := hid hB
  replace b1 := hid b1
  rcases Nat.lt_or_ge 5000 n with hlt | hle
  · have hlt' : (5000 : Int) < (n : Int) := by omega
    replace hB1 := hid hB1
    have hs := hid (sure_any w1)
    clear hlt
    go_wp2_with fail
    refine hs.out.mono ?_
    rintro e w2 ⟨rfl, b2⟩
    have hbz := hid (b1.out.trans (b2.mono b1.out.size))
    clear b2 c0 c1 c2 c3 c4 c5 c6 c7 c8
    go_wp2_with fail
    go_ret
    exact ⟨rfl, hbz.out⟩
  · have hle' : ¬ (5000 : Int) < (n : Int) := by omega
    have hbW := hby.out hle
    have hgv := hid (give_ok c ad n cap w1)
    go_wp2_with fail
    refine hgv.out.mono ?_
    rintro e w2 ⟨rfl, b2⟩
    have bz2 := hid (b1.out.trans (b2.mono b1.out.size))
    have hB2 := hid (hB1.more b2)
    have hen := hid (encode_any c ad n cap hn.out hw.out w2 (hbW.below bz2.out) (by omega))
    replace hbW := hid hbW
    clear b2 c0 c1 c2 c3 c4 c5 c6 c7 c8 hgv hB1 hby hle'
    go_wp2_with fail
    refine hen.out.mono ?_
    rintro e w3 ⟨ad', m, cap', rfl, b3, ⟨hc, hm, hbE⟩ | ⟨hc, hm⟩⟩
    · -- ok
      have hel := enc_le hc (by rw [hn.out]; exact hle)
      obtain ⟨p, hp, _⟩ := chk_zero.1 hc
      obtain ⟨k0, hk0, hen0⟩ := encp_cons (p := p) (c := c) (pt_lt hp).1 (pt_lt hp).2
      have hL : enc c = k0 :: (encH p c ++ (encW p c ++ c.d)) := by rw [← hen0]; unfold enc; rw [hp]
      obtain ⟨r, hr⟩ : ∃ r, encH p c ++ (encW p c ++ c.d) = r := ⟨_, rfl⟩
      rw [hr] at hL
      rw [hL] at hel hm hbE
      rw [← hm] at hel
      have hLm : Hid ((k0 :: r).length = m) := hm.symm
      have hLm2 : Hid ((x :: r).length = m) := hm.symm
      rw [hc, erv_zero]
      have bz3 := hid (bz2.out.trans (b3.mono bz2.out.size))
      have hB3 := hB2.out.more b3
      obtain ⟨ba, off, rfl, hcl⟩ := hbE.opened (by simp)
      have l0 := hcl 0 (by simp)
      simp only [Nat.add_zero, List.getElem_cons_zero, hk0] at l0
      have hwc : IntKind.i64.wrap c.code = c.code := by have := pt_lt hp; rw [IntKind.wrap_i64]; omega
      obtain ⟨i0, hif, hz0, hz1, hz2⟩ := info_parts infoU8
      have hmz : ¬ (m : Int) = 0 := by omega
      have hmp : (0 : Int) < (m : Int) := by omega
      have hm6 : m ≤ 5023 := hel.2
      have c0 := hB3.cells.1
      have hXl : X < 256 := by have := x.toNat_lt; have := hX.out; omega
      have hwX : IntKind.i64.wrap (X : Int) = (X : Int) := by rw [IntKind.wrap_i64]; omega
      replace hbE := hid hbE
      replace hle := hid hle
      clear hen b3 hL hm hc hel hB2 bz2 hcl hp hk0 hen0 hr hB3
      go_wp2_with fail
      go_quiet (fail)
      have bqn := below_drewN (Below.refl w3.heap.size w3) nq
      generalize w3.drewN nq = w4 at bqn ⊢
      have bz4 := hid (bz3.out.trans (bqn.mono bz3.out.size))
      have hbE4 := hid (hbE.out.below bqn)
      clear bqn l0 c0 bz3 hbE
      have hown0 : w4.ownsRow w4.heap.size 5 1 (.slice none 0 0) 0 (([] : List UInt8).map bc) := ⟨rfl, .inl ⟨rfl, rfl⟩⟩
      go_wp2_with (at_builtin; refine wpList_append_bytes _ rfl (.tmp 45) (.tmp 46) 27 rfl w4.heap.size 5 i0 Tryd.underlying27 hif hz0 hz1 hz2 (.slice none 0 0) [] 0 rfl hown0 _ m _ (k0 :: r) rfl hLm.out.symm hbE4.out (by omega) (Nat.le_refl _) ?_; intro v5 w5 ho5 hg5; refine Hid.out ?_)
      have b5 := (Below.refl w4.heap.size w4).grown hg5 (Nat.le_refl _) (by simp [Value.ownBlock])
      rw [Nat.zero_add, List.nil_append] at ho5
      obtain ⟨g, cap2, rfl, hgb, hmc, t0, f0, hb6⟩ := own_set0 ho5 (by omega) x
      have b6 := b5.setCell (p := ⟨g, 0, none⟩) hgb (bc x)
      have bz6 := hid (bz4.out.trans (b6.mono bz4.out.size))
      unfold bc at t0
      have hbx : bc x = .int .u8 (X : Int) := by unfold bc; rw [hX.out]
      rw [hbx] at hb6 bz6 b6
      have hcp : (0 : Int) < (cap2 : Int) := by omega
      replace hb6 := hid hb6
      clear b5 ho5 hg5 hown0 hif hz0 hz1 hz2 hgb hmc hbx bz4 hbE4 b6
      refine hid ?_
      go_upto_region 11 with fail
      obtain ⟨w6, hw6⟩ : ∃ w6, w5.setCell ⟨g, 0, none⟩ (.int .u8 (X : Int)) = w6 := ⟨_, rfl⟩
      rw [hw6] at hb6 bz6 ⊢
      clear hw6 t0 f0
      have e11 : Hid (erv 11 = .iface 62 (.int .i64 11)) := hid rfl
      have e10 : Hid (erv 10 = .iface 62 (.int .i64 10)) := hid rfl
      have e3 : Hid (erv 3 = .iface 62 (.int .i64 3)) := hid rfl
      rcases dE_is (x :: r) with hz | ⟨hz, hzc⟩
      · have hzh := hid hz
        clear hz
        have hd1 : Hid (Calls Tryd.prog 16 #[.slice (some ⟨g, 0, none⟩) m cap2] w6 fun e w' => ∃ ad3 cap3, e = .returned (.tuple #[cv (dC (x :: r)) (.slice ad3 (dC (x :: r)).d.length cap3), .nilIface]) ∧ Bytes w' ad3 cap3 (dC (x :: r)).d ∧ Below w6.heap.size w6 w') := by
          have q := decode_any hb6.out (n := m) hLm2.out (by omega)
          rw [hzh.out, erv_zero] at q
          exact q
        go_wp2_with fail
        refine hd1.out.mono ?_
        rintro e w7 ⟨ad3, cap3, rfl, _, b7⟩
        obtain ⟨d1, hd1e⟩ : ∃ d1, dC (x :: r) = d1 := ⟨_, rfl⟩
        obtain ⟨N1, hN1⟩ : ∃ N1, d1.d.length = N1 := ⟨_, rfl⟩
        rw [hd1e]
        rw [hN1]
        have hdc : Hid (d1.code = (X : Int)) := by
          show _ = _
          rw [← hd1e]
          rw [codes_ok hzh.out, hX.out]
        clear hd1e hN1 hd1
        have b78 := b7.trans ((balloc w7 (.cells (ccs d1 (.slice ad3 N1 cap3)) 34)).mono b7.size)
        have bz9 := hid (bz6.out.trans (b78.mono bz6.out.size))
        have hD := CB.mk (new_of w7 (ccs d1 (.slice ad3 N1 cap3)) 34)
        clear b7 b78
        go_upto_region 12 with fail
        obtain ⟨w8, hw8⟩ : ∃ w8, w7.alloc (.cells (ccs d1 (.slice ad3 N1 cap3)) 34) = w8 := ⟨_, rfl⟩
        obtain ⟨D, hDe⟩ : ∃ D, w7.heap.size = D := ⟨_, rfl⟩
        rw [hw8] at bz9 hD ⊢
        rw [hDe] at hD ⊢
        clear hw8 hDe
        have d0 := hD.cells.1
        rw [hdc.out] at d0
        have hD9 := hid hD
        clear hD
        have hs := hid (sure_any w8)
        go_wp2_with fail
        refine hs.out.mono ?_
        rintro e wz ⟨rfl, bz⟩
        have hbz := hid (bz9.out.trans (bz.mono bz9.out.size))
        clear bz hs
        go_wp2_with fail
        go_ret
        exact ⟨rfl, hbz.out⟩
      · have hcd := (codes_err (k := x) (r := r) (by rcases hz with h | h | h <;> omega)).1
        rw [hX.out] at hcd
        have hcd2 := hid hcd
        have hzc2 := hid hzc
        clear hcd hzc
        rcases hz with hz | hz | hz
        · have hzh := hid hz
          have hXX := hcd2.out.1 hz
          clear hz hcd2
          rcases hXX with hXX | hXX
          · have hx1 : (X : Int) < 1 := by omega
            have hd1 : Hid (Calls Tryd.prog 16 #[.slice (some ⟨g, 0, none⟩) m cap2] w6 fun e w' => ∃ ad3 cap3, e = .returned (.tuple #[cv (dC (x :: r)) (.slice ad3 (dC (x :: r)).d.length cap3), .iface 62 (.int .i64 10)]) ∧ Bytes w' ad3 cap3 (dC (x :: r)).d ∧ Below w6.heap.size w6 w') := by
              have q := decode_any hb6.out (n := m) hLm2.out (by omega)
              rw [hzh.out, e10.out] at q
              exact q
            go_wp2_with fail
            refine hd1.out.mono ?_
            rintro e w7 ⟨ad3, cap3, rfl, _, b7⟩
            obtain ⟨d1, hd1e⟩ : ∃ d1, dC (x :: r) = d1 := ⟨_, rfl⟩
            obtain ⟨N1, hN1⟩ : ∃ N1, d1.d.length = N1 := ⟨_, rfl⟩
            rw [hd1e]
            rw [hN1]
            have hdc : Hid (d1.code = 0) := by
              show _ = _
              rw [← hd1e]
              rw [hzc2.out]
              rfl
            clear hd1e hN1 hd1
            have b78 := b7.trans ((balloc w7 (.cells (ccs d1 (.slice ad3 N1 cap3)) 34)).mono b7.size)
            have bz9 := hid (bz6.out.trans (b78.mono bz6.out.size))
            have hD := CB.mk (new_of w7 (ccs d1 (.slice ad3 N1 cap3)) 34)
            clear b7 b78
            go_upto_region 12 with fail
            obtain ⟨w8, hw8⟩ : ∃ w8, w7.alloc (.cells (ccs d1 (.slice ad3 N1 cap3)) 34) = w8 := ⟨_, rfl⟩
            obtain ⟨D, hDe⟩ : ∃ D, w7.heap.size = D := ⟨_, rfl⟩
            rw [hw8] at bz9 hD ⊢
            rw [hDe] at hD ⊢
            clear hw8 hDe
            have d0 := hD.cells.1
            rw [hdc.out] at d0
            have hD9 := hid hD
            clear hD
            have hnm := hid (num_err 10 w8 (hg.out.below bz9.out))
            go_wp2_with fail
            refine hnm.out.mono ?_
            rintro e w9 ⟨rfl, bn⟩
            have bza := hid (bz9.out.trans (bn.mono bz9.out.size))
            have d0 := (hD9.out.more bn).cells.1
            rw [hdc.out] at d0
            clear bn hnm
            have hs := hid (sure_any w9)
            go_wp2_with fail
            refine hs.out.mono ?_
            rintro e wz ⟨rfl, bz⟩
            have hbz := hid (bza.out.trans (bz.mono bza.out.size))
            clear bz hs
            go_wp2_with fail
            go_ret
            exact ⟨rfl, hbz.out⟩
          · have hx1 : ¬ (X : Int) < 1 := by omega
            have hx2 : (17 : Int) < (X : Int) := by omega
            have hd1 : Hid (Calls Tryd.prog 16 #[.slice (some ⟨g, 0, none⟩) m cap2] w6 fun e w' => ∃ ad3 cap3, e = .returned (.tuple #[cv (dC (x :: r)) (.slice ad3 (dC (x :: r)).d.length cap3), .iface 62 (.int .i64 10)]) ∧ Bytes w' ad3 cap3 (dC (x :: r)).d ∧ Below w6.heap.size w6 w') := by
              have q := decode_any hb6.out (n := m) hLm2.out (by omega)
              rw [hzh.out, e10.out] at q
              exact q
            go_wp2_with fail
            refine hd1.out.mono ?_
            rintro e w7 ⟨ad3, cap3, rfl, _, b7⟩
            obtain ⟨d1, hd1e⟩ : ∃ d1, dC (x :: r) = d1 := ⟨_, rfl⟩
            obtain ⟨N1, hN1⟩ : ∃ N1, d1.d.length = N1 := ⟨_, rfl⟩
            rw [hd1e]
            rw [hN1]
            have hdc : Hid (d1.code = 0) := by
              show _ = _
              rw [← hd1e]
              rw [hzc2.out]
              rfl
            clear hd1e hN1 hd1
            have b78 := b7.trans ((balloc w7 (.cells (ccs d1 (.slice ad3 N1 cap3)) 34)).mono b7.size)
            have bz9 := hid (bz6.out.trans (b78.mono bz6.out.size))
            have hD := CB.mk (new_of w7 (ccs d1 (.slice ad3 N1 cap3)) 34)
            clear b7 b78
            go_upto_region 12 with fail
            obtain ⟨w8, hw8⟩ : ∃ w8, w7.alloc (.cells (ccs d1 (.slice ad3 N1 cap3)) 34) = w8 := ⟨_, rfl⟩
            obtain ⟨D, hDe⟩ : ∃ D, w7.heap.size = D := ⟨_, rfl⟩
            rw [hw8] at bz9 hD ⊢
            rw [hDe] at hD ⊢
            clear hw8 hDe
            have d0 := hD.cells.1
            rw [hdc.out] at d0
            have hD9 := hid hD
            clear hD
            have hnm := hid (num_err 10 w8 (hg.out.below bz9.out))
            go_wp2_with fail
            refine hnm.out.mono ?_
            rintro e w9 ⟨rfl, bn⟩
            have bza := hid (bz9.out.trans (bn.mono bz9.out.size))
            have d0 := (hD9.out.more bn).cells.1
            rw [hdc.out] at d0
            clear bn hnm
            have hs := hid (sure_any w9)
            go_wp2_with fail
            refine hs.out.mono ?_
            rintro e wz ⟨rfl, bz⟩
            have hbz := hid (bza.out.trans (bz.mono bza.out.size))
            clear bz hs
            go_wp2_with fail
            go_ret
            exact ⟨rfl, hbz.out⟩
        · have hzh := hid hz
          have hXX : ¬ (X < 1 ∨ 17 < X) := fun q => by have := hcd2.out.2 q; omega
          have hx1 : ¬ (X : Int) < 1 := by omega
          have hx2 : ¬ (17 : Int) < (X : Int) := by omega
          clear hz hcd2 hXX
          have hd1 : Hid (Calls Tryd.prog 16 #[.slice (some ⟨g, 0, none⟩) m cap2] w6 fun e w' => ∃ ad3 cap3, e = .returned (.tuple #[cv (dC (x :: r)) (.slice ad3 (dC (x :: r)).d.length cap3), .iface 62 (.int .i64 11)]) ∧ Bytes w' ad3 cap3 (dC (x :: r)).d ∧ Below w6.heap.size w6 w') := by
            have q := decode_any hb6.out (n := m) hLm2.out (by omega)
            rw [hzh.out, e11.out] at q
            exact q
          go_wp2_with fail
          refine hd1.out.mono ?_
          rintro e w7 ⟨ad3, cap3, rfl, _, b7⟩
          obtain ⟨d1, hd1e⟩ : ∃ d1, dC (x :: r) = d1 := ⟨_, rfl⟩
          obtain ⟨N1, hN1⟩ : ∃ N1, d1.d.length = N1 := ⟨_, rfl⟩
          rw [hd1e]
          rw [hN1]
          have hdc : Hid (d1.code = 0) := by
            show _ = _
            rw [← hd1e]
            rw [hzc2.out]
            rfl
          clear hd1e hN1 hd1
          have b78 := b7.trans ((balloc w7 (.cells (ccs d1 (.slice ad3 N1 cap3)) 34)).mono b7.size)
          have bz9 := hid (bz6.out.trans (b78.mono bz6.out.size))
          have hD := CB.mk (new_of w7 (ccs d1 (.slice ad3 N1 cap3)) 34)
          clear b7 b78
          go_upto_region 12 with fail
          obtain ⟨w8, hw8⟩ : ∃ w8, w7.alloc (.cells (ccs d1 (.slice ad3 N1 cap3)) 34) = w8 := ⟨_, rfl⟩
          obtain ⟨D, hDe⟩ : ∃ D, w7.heap.size = D := ⟨_, rfl⟩
          rw [hw8] at bz9 hD ⊢
          rw [hDe] at hD ⊢
          clear hw8 hDe
          have d0 := hD.cells.1
          rw [hdc.out] at d0
          have hD9 := hid hD
          clear hD
          have hnm := hid (num_err 11 w8 (hg.out.below bz9.out))
          go_wp2_with fail
          refine hnm.out.mono ?_
          rintro e w9 ⟨rfl, bn⟩
          have bza := hid (bz9.out.trans (bn.mono bz9.out.size))
          have d0 := (hD9.out.more bn).cells.1
          rw [hdc.out] at d0
          clear bn hnm
          have hs := hid (sure_any w9)
          go_wp2_with fail
          refine hs.out.mono ?_
          rintro e wz ⟨rfl, bz⟩
          have hbz := hid (bza.out.trans (bz.mono bza.out.size))
          clear bz hs
          go_wp2_with fail
          go_ret
          refine ⟨?_, hbz.out⟩
          rw [decide_eq_false (Int.not_lt.2 hx1), decide_eq_false (Int.not_lt.2 hx2)]
          rfl
        · have hzh := hid hz
          have hXX : ¬ (X < 1 ∨ 17 < X) := fun q => by have := hcd2.out.2 q; omega
          have hx1 : ¬ (X : Int) < 1 := by omega
          have hx2 : ¬ (17 : Int) < (X : Int) := by omega
          clear hz hcd2 hXX
          have hd1 : Hid (Calls Tryd.prog 16 #[.slice (some ⟨g, 0, none⟩) m cap2] w6 fun e w' => ∃ ad3 cap3, e = .returned (.tuple #[cv (dC (x :: r)) (.slice ad3 (dC (x :: r)).d.length cap3), .iface 62 (.int .i64 3)]) ∧ Bytes w' ad3 cap3 (dC (x :: r)).d ∧ Below w6.heap.size w6 w') := by
            have q := decode_any hb6.out (n := m) hLm2.out (by omega)
            rw [hzh.out, e3.out] at q
            exact q
          go_wp2_with fail
          refine hd1.out.mono ?_
          rintro e w7 ⟨ad3, cap3, rfl, _, b7⟩
          obtain ⟨d1, hd1e⟩ : ∃ d1, dC (x :: r) = d1 := ⟨_, rfl⟩
          obtain ⟨N1, hN1⟩ : ∃ N1, d1.d.length = N1 := ⟨_, rfl⟩
          rw [hd1e]
          rw [hN1]
          have hdc : Hid (d1.code = 0) := by
            show _ = _
            rw [← hd1e]
            rw [hzc2.out]
            rfl
          clear hd1e hN1 hd1
          have b78 := b7.trans ((balloc w7 (.cells (ccs d1 (.slice ad3 N1 cap3)) 34)).mono b7.size)
          have bz9 := hid (bz6.out.trans (b78.mono bz6.out.size))
          have hD := CB.mk (new_of w7 (ccs d1 (.slice ad3 N1 cap3)) 34)
          clear b7 b78
          go_upto_region 12 with fail
          obtain ⟨w8, hw8⟩ : ∃ w8, w7.alloc (.cells (ccs d1 (.slice ad3 N1 cap3)) 34) = w8 := ⟨_, rfl⟩
          obtain ⟨D, hDe⟩ : ∃ D, w7.heap.size = D := ⟨_, rfl⟩
          rw [hw8] at bz9 hD ⊢
          rw [hDe] at hD ⊢
          clear hw8 hDe
          have d0 := hD.cells.1
          rw [hdc.out] at d0
          have hD9 := hid hD
          clear hD
          have hnm := hid (num_err 3 w8 (hg.out.below bz9.out))
          go_wp2_with fail
          refine hnm.out.mono ?_
          rintro e w9 ⟨rfl, bn⟩
          have bza := hid (bz9.out.trans (bn.mono bz9.out.size))
          have d0 := (hD9.out.more bn).cells.1
          rw [hdc.out] at d0
          clear bn hnm
          have hs := hid (sure_any w9)
          go_wp2_with fail
          refine hs.out.mono ?_
          rintro e wz ⟨rfl, bz⟩
          have hbz := hid (bza.out.trans (bz.mono bza.out.size))
          clear bz hs
          go_wp2_with fail
          go_ret
          refine ⟨?_, hbz.out⟩
          rw [decide_eq_false (Int.not_lt.2 hx1), decide_eq_false (Int.not_lt.2 hx2)]
          rfl
    · subst hm
      rw [erv_ne hc]
      have bz3 := hid (bz2.out.trans (b3.mono bz2.out.size))
      have hs := hid (sure_any w3)
      clear b3 hen hc
      go_wp2_with fail
      refine hs.out.mono ?_
      rintro e w4 ⟨rfl, b4⟩
      have hbz := hid (bz3.out.trans (b4.mono bz3.out.size))
      clear b4
      go_wp2_with fail
      go_ret
      exact ⟨rfl, hbz.out⟩

theorem codes_any {W : World} (c : Cm) (ad : Option Addr) (n cap : Nat) (hn : c.d.length = n) (hw : Wf c) (hby : n ≤ 5000 → Bytes W ad cap c.d) (hg : Handle W) (a : Int) (ha : (Lit.int .u8 a).wf = true) :
    Calls Tryd.prog 7 #[cv c (.slice ad n cap), .int .u8 a] W fun e W' => e = .returned (.bool true) ∧ Below W.heap.size W W' := by
  have q := codes_law c ad n cap hn hw hby hg (UInt8.ofNat a.toNat)
  rw [byte_of ha] at q
  exact q

end Go.Proofs.YtmmpkhoejcfdmaaDoor
