/- The law WebTies, walked: a tie links what is not linked, alone it is the weakest one; untied they are not linked. -/
import Derived.Test.YtdmkbcbgjdmgdaaGreatDoorBringb
import Derived.Test.YtdmkbcbgjdmgdaaGreatDoorBwn
import Derived.Test.YtdmkbcbgjdmgdaaGreatDoorLaws14
import Derived.Test.YtdmkbcbgjdmgdaaGreatDoorRoad14
namespace Go.Proofs.YtdmkbcbgjdmgdaaGreatDoor
open Go.RowKit
set_option linter.unusedVariables false

/-- What 'grown' left, with the argument that was boxed before. -/
structure GW (w wz : World) : Prop where
  b : Below w.heap.size w wz

theorem fin_of {w wz w' : World} {wb n m : Nat} {sq : Nat → List Nat} {tt : Nat → Option (Nat × Nat)} {ky : Nat → Int} (hb : Below w.heap.size w wz) (h : WQ wz.heap.size wz wb n m sq tt ky w') : Below w.heap.size w w' := hb.trans (h.below.mono hb.size)

/-- The last one that is not tied, so far. -/
def Lst (tt : Nat → Option (Nat × Nat)) (j : Nat) (Z : Int) : Prop := Z = -1 ∨ ∃ e : Nat, e < j ∧ Z = (e : Int) ∧ tt e = none

theorem Lst.up {tt : Nat → Option (Nat × Nat)} {j : Nat} {Z : Int} (h : Lst tt j Z) : Lst tt (j + 1) Z := by
  rcases h with h | ⟨e, h1, h2, h3⟩
  · exact .inl h
  · exact .inr ⟨e, by omega, h2, h3⟩

set_option maxRecDepth 100000 in
set_option maxHeartbeats 8000000 in
theorem ties_law (n : Int) (ad : Option Addr) (len cap : Nat) (l : List A5) (q : A5) (w : World) (hg : Handle w) (hv : AV5 w (.slice ad len cap) l) (hq : q.ok) :
    Calls Tryz.prog 6 #[.int .i64 n, .slice ad len cap, .agg #[.int .i64 q.k, .int .i64 q.a, .int .i64 q.b, .int .i64 q.e, .int .i64 q.v]] w fun e w' => e = .returned (.bool true) ∧ Below w.heap.size w w' := by
  obtain ⟨qk, qa, qb, qe, key⟩ := q
  obtain ⟨hk1, hk2⟩ := hq
  simp only [] at hk1 hk2 ⊢
  obtain ⟨K, hK, hK1, hK2⟩ := mod_up2 n 14 (by decide) (by decide)
  have hK15 : K ≤ 15 := by omega
  obtain ⟨wx, hwx⟩ : ∃ wx, w.alloc (.cells #[.int .i64 qk, .int .i64 qa, .int .i64 qb, .int .i64 qe, .int .i64 key] 37) = wx := ⟨_, rfl⟩
  have bx : Below w.heap.size w wx := by rw [← hwx]; exact (Below.refl _ _).alloc (Nat.le_refl _) _
  have hbn : wx.heap[w.heap.size]? = some (.cells #[.int .i64 qk, .int .i64 qa, .int .i64 qb, .int .i64 qe, .int .i64 key] 37 (0, 0)) := by rw [← hwx]; exact heap_alloc_new w _
  have hgx := hg.below bx
  have hgr := hid (grown_ok K ad len cap l wx hgx (hv.below bx) (by omega) (by omega))
  have hgx := hid hgx
  have bx := hid bx
  have hbn := hid hbn
  obtain ⟨ob, hob⟩ : ∃ ob, w.heap.size = ob := ⟨_, rfl⟩
  rw [hob] at hbn
  clear hg hv
  go_enter Tryz.func6, Tryz.ntmps6
  go_upto_region 1 with fail
  try rw [hwx]
  try rw [hob]
  clear hwx
  go_wp2_with fail
  try rw [hK]
  refine hgr.out.mono ?_
  rintro e w1 ⟨wz, wb, xv, sq, tt, ky, rfl, bz, h1, d1, bw⟩
  obtain ⟨fad, F, fcap, tad, T, tcap, hxv⟩ := d1.form
  subst hxv
  have hlab := hid (d1.lb h1.part)
  have hgz := hid (hgx.out.below bz)
  have hbz := hid (bx.out.trans (bz.mono bx.out.size))
  have hlt := (Array.getElem?_eq_some_iff.1 hbn.out).1
  have hof : Hid (∀ y, Below wz.heap.size wz y → y.heap[ob]? = some (.cells #[.int .i64 qk, .int .i64 qa, .int .i64 qb, .int .i64 qe, .int .i64 key] 37 (0, 0))) := hid fun y hy => (hy.block ob (by have := bz.size; omega)).trans ((bz.block ob hlt).trans hbn.out)
  have h1 := hid h1
  clear hgr hK bz d1 bw hlt hgx bx hbn
  go_upto_region 5 with fail
  have h2 := hid (h1.out.alloc (.cells #[.int .i64 (K : Int), .int .i64 8, .slice fad F fcap, .slice tad T tcap] 32))
  generalize w1.alloc (.cells #[.int .i64 (K : Int), .int .i64 8, .slice fad F fcap, .slice tad T tcap] 32) = w2 at h2 ⊢
  obtain ⟨f0, f1, f2, f3, f4⟩ := blk5 (hof.out w2 h2.out.below)
  obtain ⟨a, ha, haK⟩ := mod_inN qa K (by omega) (by omega)
  obtain ⟨b, hb, hbK⟩ := mod_inN qb K (by omega) (by omega)
  clear h1
  go_wp2_with fail
  go_region
  try rw [ha, hb]
  have h3 := hid (h2.out.drew)
  generalize w2.drew = w3 at h3 ⊢
  clear h2 f0 f1 f2 f3 f4 ha hb
  go_wp2_with fail
  go_loopw [12, 13] (fun s12 s13 wr => ∃ (j : Nat) (Z : Int), j ≤ 8 ∧ s12 = .int .i64 Z ∧ s13 = .int .i64 (j : Int) ∧ Hid (Lst tt j Z) ∧ Hid (WQ wz.heap.size wz wb K 8 sq tt ky wr)) (fun _ s13 _ => 8 - (intOf s13).toNat)
  case atStart => exact ⟨0, -1, by omega, rfl, by go_num, hid (.inl rfl), h3⟩
  case round =>
    obtain ⟨j, Z, hj, rfl, rfl, hZ, hst⟩ := hrel
    clear h3
    rcases Nat.lt_or_ge j 8 with hjl | hjg
    · have t1 : decide ((j : Int) < 8) = true := decide_eq_true (by omega)
      have htd := hid (hst.out.tied j)
      cases hc : tt j with
      | none =>
        rw [hc] at htd
        go_wp2_with fail
        refine htd.out.mono ?_
        rintro e w4 ⟨rfl, b4⟩
        have h4 := hid (hst.out.more b4)
        clear b4 hst
        go_wp2_with fail
        go_roundw
        case rel => exact ⟨j + 1, (j : Int), by omega, rfl, by go_num, hid (.inr ⟨j, by omega, rfl, hc⟩), h4⟩
        case measure => simp [intOf]; omega
      | some p =>
        rw [hc] at htd
        go_wp2_with fail
        refine htd.out.mono ?_
        rintro e w4 ⟨rfl, b4⟩
        have h4 := hid (hst.out.more b4)
        clear b4 hst
        go_wp2_with fail
        go_roundw
        case rel => exact ⟨j + 1, Z, by omega, rfl, by go_num, hid hZ.out.up, h4⟩
        case measure => simp [intOf]; omega
    · have t1 : decide ((j : Int) < 8) = false := decide_eq_false (by omega)
      have hj8 : j = 8 := by omega
      subst hj8
      obtain ⟨y0, y1, y2, y3, y4⟩ := blk5 (hof.out wr hst.out.below)
      obtain ⟨fi, hfi⟩ := hlab.out
      have hfi := hid hfi
      by_cases hl : Lkd K sq tt a b
      · have hlk := hid (hst.out.linked a b haK hbK true (by simp [hl]))
        clear y0 y1 y2 y3 y4
        go_upto_region 13 with fail
        refine hlk.out.mono ?_
        rintro e w4 ⟨rfl, h4, k4⟩
        obtain ⟨y0, y1, y2, y3, y4⟩ := blk5 (hof.out w4 h4.below)
        have h4 := hid h4
        clear hlk hst k4
        rcases hZ.out with rfl | ⟨e0, he0, rfl, hc⟩
        · clear hZ
          go_wp2_with fail
          refine (sure_ok _ (hgz.out.below h4.out.below)).mono ?_
          rintro e ws ⟨rfl, bs⟩
          have hs := hid (h4.out.more bs)
          clear bs
          go_wp2_with fail
          go_ret
          exact ⟨rfl, fin_of hbz.out hs.out⟩
        · have t2 : decide ((e0 : Int) < 0) = false := decide_eq_false (by omega)
          by_cases hk : key = 9223372036854775807
          · subst hk
            go_wp2_with fail
            refine (sure_ok _ (hgz.out.below h4.out.below)).mono ?_
            rintro e ws ⟨rfl, bs⟩
            have hs := hid (h4.out.more bs)
            clear bs
            go_wp2_with fail
            go_ret
            exact ⟨rfl, fin_of hbz.out hs.out⟩
          · have t3 : (key == 9223372036854775807) = false := by rw [beq_eq_false_iff_ne]; exact hk
            have htn := hid (h4.out.tieN (e0 : Int) (a : Int) (b : Int) key 20 (.inr ⟨⟨⟨by omega, by omega⟩, ⟨by omega, by omega⟩, by omega, by omega⟩, .inr ⟨hk, .inr (by simpa using hl), rfl⟩⟩))
            go_wp2_with fail
            refine htn.out.mono ?_
            rintro e w5 ⟨rfl, h5, k5⟩
            have h5 := hid h5
            clear h4 k5 htn y0 y1 y2 y3 y4
            go_wp2_with fail
            refine (num_err 20 _ (hgz.out.below h5.out.below)).mono ?_
            rintro e w6 ⟨rfl, b6⟩
            have h6 := hid (h5.out.more b6)
            clear h5 b6
            go_wp2_with fail
            refine (h6.out.tied e0).mono ?_
            rintro e w7 ⟨rfl, b7⟩
            have h7 := hid (h6.out.more b7)
            clear h6 b7
            rw [hc]
            go_wp2_with fail
            refine (sure_ok _ (hgz.out.below h7.out.below)).mono ?_
            rintro e ws ⟨rfl, bs⟩
            have hs := hid (h7.out.more bs)
            clear bs
            go_wp2_with fail
            go_ret
            exact ⟨rfl, fin_of hbz.out hs.out⟩
      · have hlk := hid (hst.out.linked a b haK hbK false (by simp [hl]))
        clear y0 y1 y2 y3 y4
        go_upto_region 13 with fail
        refine hlk.out.mono ?_
        rintro e w4 ⟨rfl, h4, k4⟩
        obtain ⟨y0, y1, y2, y3, y4⟩ := blk5 (hof.out w4 h4.below)
        have h4 := hid h4
        clear hlk hst k4
        rcases hZ.out with rfl | ⟨e0, he0, rfl, hc⟩
        · clear hZ
          go_wp2_with fail
          refine (sure_ok _ (hgz.out.below h4.out.below)).mono ?_
          rintro e ws ⟨rfl, bs⟩
          have hs := hid (h4.out.more bs)
          clear bs
          go_wp2_with fail
          go_ret
          exact ⟨rfl, fin_of hbz.out hs.out⟩
        · have t2 : decide ((e0 : Int) < 0) = false := decide_eq_false (by omega)
          by_cases hk : key = 9223372036854775807
          · subst hk
            go_wp2_with fail
            refine (sure_ok _ (hgz.out.below h4.out.below)).mono ?_
            rintro e ws ⟨rfl, bs⟩
            have hs := hid (h4.out.more bs)
            clear bs
            go_wp2_with fail
            go_ret
            exact ⟨rfl, fin_of hbz.out hs.out⟩
          · have t3 : (key == 9223372036854775807) = false := by rw [beq_eq_false_iff_ne]; exact hk
            have hti := hid (h4.out.tie e0 a b key he0 haK hbK hk1 (by omega) hc hl)
            go_wp2_with fail
            refine hti.out.mono ?_
            rintro e w5 ⟨rfl, h5, k5⟩
            have hc5 : updT tt e0 (some (a, b)) e0 = some (a, b) := updT_self _ _ _
            have hne := hid (h4.out.two hfi.out haK hbK hl)
            have h5 := hid h5
            clear h4 k5 hti y0 y1 y2 y3 y4
            go_wp2_with fail
            refine (h5.out.tied e0).mono ?_
            rintro e w6 ⟨rfl, b6⟩
            have h6 := hid (h5.out.more b6)
            clear h5 b6
            rw [hc5]
            have hl6 : Lkd K sq (updT tt e0 (some (a, b))) a b := tie_lkd hc5
            go_wp2_with fail
            refine (h6.out.weakY a b haK hbK hl6).mono ?_
            rintro e w7 ⟨z, hz, rfl, h7, k7⟩
            obtain rfl := h7.weak_one hfi.out hc5 hne.out hz
            have h7 := hid h7
            clear h6 k7 hz
            go_wp2_with fail
            refine (h7.out.linked b a hbK haK true (by simp [hl6.symm])).mono ?_
            rintro e w8 ⟨rfl, h8, k8⟩
            have h8 := hid h8
            clear h7 k8
            go_wp2_with fail
            refine (h8.out.untie e0 a b hc5).mono ?_
            rintro e w9 ⟨rfl, h9, k9⟩
            rw [updT_back _ hc] at h9
            have h9 := hid h9
            clear h8 k9
            go_wp2_with fail
            refine (h9.out.linked a b haK hbK false (by simp [hl])).mono ?_
            rintro e w10 ⟨rfl, h10, k10⟩
            have h10 := hid h10
            clear h9 k10
            go_wp2_with fail
            refine (h10.out.weakN a b haK hbK hl).mono ?_
            rintro e w11 ⟨rfl, h11, k11⟩
            have h11 := hid h11
            clear h10 k11
            go_wp2_with fail
            refine (num_err 21 _ (hgz.out.below h11.out.below)).mono ?_
            rintro e w12 ⟨rfl, b12⟩
            have h12 := hid (h11.out.more b12)
            clear h11 b12
            go_wp2_with fail
            refine (sure_ok _ (hgz.out.below h12.out.below)).mono ?_
            rintro e ws ⟨rfl, bs⟩
            have hs := hid (h12.out.more bs)
            clear bs
            go_wp2_with fail
            go_ret
            exact ⟨rfl, fin_of hbz.out hs.out⟩
end Go.Proofs.YtdmkbcbgjdmgdaaGreatDoor
