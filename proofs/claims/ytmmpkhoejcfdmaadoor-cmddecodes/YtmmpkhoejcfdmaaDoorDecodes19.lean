/- The law CmdDecodes, walked. -/
import Derived.Test.YtmmpkhoejcfdmaaDoorSame19
import Derived.Test.YtmmpkhoejcfdmaaDoorRDecode19
namespace Go.Proofs.YtmmpkhoejcfdmaaDoor
open Go.RowKit
set_option linter.unusedVariables false

set_option maxRecDepth 100000 in
set_option maxHeartbeats 4000000 in
theorem decodes_law {W : World} (ad : Option Addr) (n cap : Nat) (b : List UInt8) (hn : n = b.length) (hb : Bytes W ad cap b) (hg : Handle W) :
    Calls Tryd.prog 4 #[.slice ad n cap] W fun e W' => e = .returned (.bool true) ∧ Below W.heap.size W W' := by
  rcases Nat.lt_or_ge 5000 n with hlt | hle
  · have hlt' : (5000 : Int) < (n : Int) := by omega
    have hs := hid (sure_any W)
    replace hb := hid hb
    clear hlt hn
    go_enter Tryd.func4, Tryd.ntmps4
    go_wp2_with fail
    refine hs.out.mono ?_
    rintro e w2 ⟨rfl, b2⟩
    go_wp2_with fail
    go_ret
    exact ⟨rfl, b2⟩
  · have hle' : ¬ (5000 : Int) < (n : Int) := by omega
    have hd := hid (decode_any hb hn.symm (by omega))
    obtain ⟨z, hz⟩ : ∃ z, dE b = z := ⟨_, rfl⟩
    obtain ⟨d, hde⟩ : ∃ d, dC b = d := ⟨_, rfl⟩
    obtain ⟨N, hN⟩ : ∃ N, d.d.length = N := ⟨_, rfl⟩
    rw [hz, hde, hN] at hd
    replace hN := hid hN
    replace hde := hid hde
    replace hz := hid hz
    replace hb := hid hb
    replace hn := hid hn
    replace hg := hid hg
    go_enter Tryd.func4, Tryd.ntmps4
    go_wp2_with fail
    refine hd.out.mono ?_
    rintro e w2 ⟨ad2, cap2, rfl, h2, b2⟩
    have ba := balloc w2 (.cells (ccs d (.slice ad2 N cap2)) 34)
    have bz3 := hid (b2.trans (ba.mono b2.size))
    have h3 := hid (h2.below ba)
    have hE3 := hid (CB.mk (new_of w2 (ccs d (.slice ad2 N cap2)) 34))
    clear h2 b2 ba hd
    go_upto_region 4 with fail
    obtain ⟨w3, hw3⟩ : ∃ w3, w2.alloc (.cells (ccs d (.slice ad2 N cap2)) 34) = w3 := ⟨_, rfl⟩
    obtain ⟨E, hEe⟩ : ∃ E, w2.heap.size = E := ⟨_, rfl⟩
    rw [hw3] at bz3 h3 hE3 ⊢
    rw [hEe] at hE3 ⊢
    clear hw3 hEe
    have hr := rdecode_any (hb.out.below bz3.out) hn.out.symm (by omega)
    rw [hz.out, hde.out, hN.out] at hr
    replace hr := hid hr
    go_wp2_with fail
    refine hr.out.mono ?_
    rintro e w4 ⟨ad4, cap4, rfl, h4, b4⟩
    have ba := balloc w4 (.cells (ccs d (.slice ad4 N cap4)) 29)
    have b34 := b4.trans (ba.mono b4.size)
    have bz5 := hid (bz3.out.trans (b34.mono bz3.out.size))
    have h45 := hid (h4.below ba)
    have h35 := hid (h3.out.below b34)
    have hE5 := hid (hE3.out.more b34)
    have hF5 := hid (RB.mk (new_of w4 (ccs d (.slice ad4 N cap4)) 29))
    clear h4 b4 b34 ba hr h3 hE3 bz3
    go_upto_region 5 with fail
    obtain ⟨w5, hw5⟩ : ∃ w5, w4.alloc (.cells (ccs d (.slice ad4 N cap4)) 29) = w5 := ⟨_, rfl⟩
    obtain ⟨F, hFe⟩ : ∃ F, w4.heap.size = F := ⟨_, rfl⟩
    rw [hw5] at bz5 h45 h35 hE5 hF5 ⊢
    rw [hFe] at hF5 ⊢
    clear hw5 hFe
    obtain ⟨c0, c1, c2, c3, c4, c5, c6, c7, c8⟩ := hE5.out.cells
    obtain ⟨y0, y1, y2, y3, y4, y5, y6, y7, y8⟩ := hF5.out.cells
    have hsm := hid (same_ok d ad2 ad4 N N cap2 cap4 w5 h35.out h45.out hN.out.symm hN.out.symm)
    go_wp2_with fail
    refine hsm.out.mono ?_
    rintro e w6 ⟨rfl, b6⟩
    have bz6 := hid (bz5.out.trans (b6.mono bz5.out.size))
    have hnm := hid (num_erv z w6 (hg.out.below bz6.out))
    clear hsm b6 bz5 c0 c1 c2 c3 c4 c5 c6 c7 c8 y0 y1 y2 y3 y4 y5 y6 y7 y8
    go_wp2_with fail
    refine hnm.out.mono ?_
    rintro e w7 ⟨rfl, b7⟩
    have bz7 := hid (bz6.out.trans (b7.mono bz6.out.size))
    have hs := hid (sure_any w7)
    clear hnm b7 bz6
    go_wp2_with fail
    refine hs.out.mono ?_
    rintro e w8 ⟨rfl, b8⟩
    have hbz := hid (bz7.out.trans (b8.mono bz7.out.size))
    clear hs b8
    go_wp2_with fail
    go_ret
    exact ⟨rfl, hbz.out⟩

end Go.Proofs.YtmmpkhoejcfdmaaDoor
