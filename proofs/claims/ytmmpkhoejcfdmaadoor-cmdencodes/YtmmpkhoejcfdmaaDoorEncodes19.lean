/- The law CmdEncodes, walked. -/
import Derived.Test.YtmmpkhoejcfdmaaDoorSizes19
import Derived.Test.YtmmpkhoejcfdmaaDoorRCheck19
import Derived.Test.YtmmpkhoejcfdmaaDoorREncode19
namespace Go.Proofs.YtmmpkhoejcfdmaaDoor
open Go.RowKit
set_option linter.unusedVariables false

set_option maxRecDepth 100000 in
set_option maxHeartbeats 1000000 in
theorem rcheck_none (c : Cm) (hp : pt c.code = none) (ad : Option Addr) (n cap : Nat) (w : World) :
    Calls Tryd.prog 11 #[cv c (.slice ad n cap)] w fun e w' => e = .returned (.int .i64 10) ∧ Below w.heap.size w w' := by
  have hk := pt_none.1 hp
  rcases Int.lt_or_le c.code 1 with k1 | k1
  · clear hk
    go_enter Tryd.func11, Tryd.ntmps11
    go_wp2_with fail
    go_ret
    exact ⟨rfl, balloc _ _⟩
  · have k1' : ¬ c.code < 1 := by omega
    have k2 : (17 : Int) < c.code := by omega
    clear hk k1
    go_enter Tryd.func11, Tryd.ntmps11
    go_wp2_with fail
    go_ret
    exact ⟨rfl, balloc _ _⟩

theorem rcheck_ok (c : Cm) (ad : Option Addr) (n cap : Nat) (hn : c.d.length = n) (w : World) :
    Calls Tryd.prog 11 #[cv c (.slice ad n cap)] w fun e w' => e = .returned (.int .i64 (chk c)) ∧ Below w.heap.size w w' := by
  cases hp : pt c.code with
  | none => rw [chk_none hp]; exact rcheck_none c hp ad n cap w
  | some p => exact rcheck_some c hp ad n cap hn w

set_option maxRecDepth 100000 in
set_option maxHeartbeats 4000000 in
theorem encodes_law {W : World} (c : Cm) (ad : Option Addr) (n cap : Nat) (hn : c.d.length = n) (hw : Wf c) (hby : n ≤ 5000 → Bytes W ad cap c.d) (hg : Handle W) :
    Calls Tryd.prog 3 #[cv c (.slice ad n cap)] W fun e W' => e = .returned (.bool true) ∧ Below W.heap.size W W' := by
  have hB1 := RB.mk (new_of W (ccs c (.slice ad n cap)) 29)
  have b1 := balloc W (.cells (ccs c (.slice ad n cap)) 29)
  obtain ⟨B, hB⟩ : ∃ B, W.heap.size = B := ⟨_, rfl⟩
  rw [hB] at hB1
  replace hn := hid hn
  replace hw := hid hw
  replace hg := hid hg
  replace hby := hid hby
  go_enter Tryd.func3, Tryd.ntmps3
  go_upto_region 1 with fail
  obtain ⟨w1, hw1⟩ : ∃ w1, W.alloc (.cells (ccs c (.slice ad n cap)) 29) = w1 := ⟨_, rfl⟩
  rw [hw1] at hB1 b1 ⊢
  clear hw1
  try rw [hB]
  obtain ⟨c0, c1, c2, c3, c4, c5, c6, c7, c8⟩ := hB1.cells
  replace hB := hid hB
  replace b1 := hid b1
  rcases Nat.lt_or_ge 5000 n with hlt | hle
  · have hlt' : (5000 : Int) < (n : Int) := by omega
    replace hB1 := hid hB1
    clear hlt
    have hs := hid (sure_any w1)
    go_wp2_with fail
    refine hs.out.mono ?_
    rintro e wz ⟨rfl, bz⟩
    have hbz := hid (b1.out.trans (bz.mono b1.out.size))
    clear bz hs
    go_wp2_with fail
    go_ret
    exact ⟨rfl, hbz.out⟩
  · have hle' : ¬ (5000 : Int) < (n : Int) := by omega
    have hbW := hby.out hle
    have hgv := hid (give_ok c ad n cap w1)
    go_wp2_with fail
    refine hgv.out.mono ?_
    rintro e w2 ⟨rfl, b2⟩
    have ba := balloc w2 (.cells (ccs c (.slice ad n cap)) 34)
    have b23 := b2.trans (ba.mono b2.size)
    have bz3 := hid (b1.out.trans (b23.mono b1.out.size))
    have hB3 := hB1.more b23
    have hE3 := CB.mk (new_of w2 (ccs c (.slice ad n cap)) 34)
    clear b2 b23 ba c0 c1 c2 c3 c4 c5 c6 c7 c8 hgv hB1 hby hle'
    go_upto_region 4 with fail
    obtain ⟨w3, hw3⟩ : ∃ w3, w2.alloc (.cells (ccs c (.slice ad n cap)) 34) = w3 := ⟨_, rfl⟩
    obtain ⟨E, hEe⟩ : ∃ E, w2.heap.size = E := ⟨_, rfl⟩
    rw [hw3] at bz3 hE3 hB3 ⊢
    rw [hEe] at hE3 ⊢
    clear hw3 hEe
    have hC := hid (fun (y : World) (hy : Below w3.heap.size w3 y) => And.intro (hB3.more hy).cells (hE3.more hy).cells)
    have hen := hid (encode_any c ad n cap hn.out hw.out w3 (hbW.below bz3.out) (by omega))
    replace hbW := hid hbW
    replace hB3 := hid hB3
    obtain ⟨y0, y1, y2, y3, y4, y5, y6, y7, y8⟩ := hE3.cells
    replace hE3 := hid hE3
    have hz : ∃ z, chk c = z := ⟨_, rfl⟩
    obtain ⟨z, hz⟩ := hz
    go_wp2_with fail
    refine hen.out.mono ?_
    rintro e w4 ⟨ad', m, cap', rfl, b4, hor⟩
    have bz4 := hid (bz3.out.trans (b4.mono bz3.out.size))
    have b34 := hid b4
    have hrc := hid (rcheck_ok c ad n cap hn.out w4)
    rw [hz] at hrc hor ⊢
    clear hen y0 y1 y2 y3 y4 y5 y6 y7 y8 b4
    obtain ⟨⟨c0, c1, c2, c3, c4, c5, c6, c7, c8⟩, _⟩ := hC.out w4 b34.out
    replace hor := hid hor
    go_wp2_with fail
    refine hrc.out.mono ?_
    rintro e w5 ⟨rfl, b5⟩
    have bz5 := hid (bz4.out.trans (b5.mono bz4.out.size))
    have b35 := hid (b34.out.trans (b5.mono b34.out.size))
    have b45 := hid b5
    clear hrc c0 c1 c2 c3 c4 c5 c6 c7 c8 b5 bz4
    have hn1 := hid (num_erv z w5 (hg.out.below bz5.out))
    go_wp2_with fail
    refine hn1.out.mono ?_
    rintro e w6 ⟨rfl, b6⟩
    have bz6 := hid (bz5.out.trans (b6.mono bz5.out.size))
    have b36 := hid (b35.out.trans (b6.mono b35.out.size))
    have b46 := hid (b45.out.trans (b6.mono b45.out.size))
    have hck := check_ok c ad n cap hn.out w6
    rw [hz] at hck
    replace hck := hid hck
    clear hn1 b6 bz5 b35 b45
    obtain ⟨_, ⟨y0, y1, y2, y3, y4, y5, y6, y7, y8⟩⟩ := hC.out w6 b36.out
    go_wp2_with fail
    refine hck.out.mono ?_
    rintro e w7 ⟨rfl, b7⟩
    have bz7 := hid (bz6.out.trans (b7.mono bz6.out.size))
    have b37 := hid (b36.out.trans (b7.mono b36.out.size))
    have b47 := hid (b46.out.trans (b7.mono b46.out.size))
    have hn2 := hid (num_erv z w7 (hg.out.below bz7.out))
    clear hck y0 y1 y2 y3 y4 y5 y6 y7 y8 b7 bz6 b36 b46
    go_wp2_with fail
    refine hn2.out.mono ?_
    rintro e w8 ⟨rfl, b8⟩
    have bz8 := hid (bz7.out.trans (b8.mono bz7.out.size))
    have b38 := hid (b37.out.trans (b8.mono b37.out.size))
    have b48 := hid (b47.out.trans (b8.mono b47.out.size))
    have hbw8 := hbW.out.below bz8.out
    have hsm := hid (same_ok c ad ad n n cap cap w8 hbw8 hbw8 hn.out.symm hn.out.symm)
    clear hn2 b8 bz7 b37 b47 hbw8
    obtain ⟨⟨c0, c1, c2, c3, c4, c5, c6, c7, c8⟩, ⟨y0, y1, y2, y3, y4, y5, y6, y7, y8⟩⟩ := hC.out w8 b38.out
    go_wp2_with fail
    refine hsm.out.mono ?_
    rintro e w9 ⟨rfl, b9⟩
    have bz9 := hid (bz8.out.trans (b9.mono bz8.out.size))
    have b39 := hid (b38.out.trans (b9.mono b38.out.size))
    have b49 := hid (b48.out.trans (b9.mono b48.out.size))
    clear hsm b9 bz8 b38 b48 c0 c1 c2 c3 c4 c5 c6 c7 c8 y0 y1 y2 y3 y4 y5 y6 y7 y8
    rcases hor.out with ⟨hc, hm, hbE⟩ | ⟨hc, hm⟩
    · have hchk : chk c = 0 := hz.trans hc
      have bdr : Below w9.heap.size w9 w9.drew := (Below.refl _ _).drew
      have hb9 := hbE.below b49.out
      have hren := hid (rencode_ok c ad n cap hn.out hchk hw.out w9.drew (hbW.out.below (bz9.out.trans (bdr.mono bz9.out.size))) (by omega))
      obtain ⟨L, hL⟩ : ∃ L, enc c = L := ⟨_, rfl⟩
      rw [hL] at hb9 hren hm
      have hS := hid (fun (y : World) (hy : Below w9.heap.size w9 y) => And.intro (hC.out y (b39.out.trans (hy.mono b39.out.size))).1 (string_at (hb9.below hy) hm))
      obtain ⟨⟨c0, c1, c2, c3, c4, c5, c6, c7, c8⟩, _⟩ := hC.out w9 b39.out
      rw [← hm] at hren
      have hmL := hid hm
      replace hb9 := hid hb9
      replace hz := hid hz
      clear hor bdr hbE hL hm
      go_upto_region 10 with fail
      obtain ⟨⟨y0, y1, y2, y3, y4, y5, y6, y7, y8⟩, hcv⟩ := hS.out w9.drew (Below.refl _ _).drew
      clear c0 c1 c2 c3 c4 c5 c6 c7 c8
      go_region_with (first
        | (go_at_call 8; refine hsu.out.mono ?_; rintro e2 y2 ⟨rfl, bs⟩; have bB : Below w9.heap.size w9 y2 := bA.trans (bs.mono bA.size); clear bs)
        | (go_at_call 15; refine hren.out.mono ?_; rintro e1 y1 ⟨ad2, cap2, rfl, hb2, be⟩; have bA : Below w9.heap.size w9 y1 := (Below.refl w9.heap.size w9).drew.trans be; have hs2 := string_at hb2 hmL.out; have hs3 := (hS.out y1 bA).2; have hsu := hid (sure_any y1); clear be hb2))
      all_goals
        have hbz := hid (bz9.out.trans (bB.mono bz9.out.size))
        clear hS hren bA bB
        go_wp2_with fail
        go_ret
        exact ⟨rfl, hbz.out⟩
    · subst hm
      replace hz := hid hz
      clear hor
      have hs := hid (sure_any w9)
      go_wp2_with fail
      refine hs.out.mono ?_
      rintro e wz ⟨rfl, bz⟩
      have hbz := hid (bz9.out.trans (bz.mono bz9.out.size))
      clear bz hs
      go_wp2_with fail
      go_ret
      exact ⟨rfl, hbz.out⟩

end Go.Proofs.YtmmpkhoejcfdmaaDoor
