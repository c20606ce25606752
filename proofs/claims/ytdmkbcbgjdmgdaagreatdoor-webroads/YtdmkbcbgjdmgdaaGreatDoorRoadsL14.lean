/- The law WebRoads, walked: the weakest tie between two faces, untied, parts them; with it tied again all is linked as it was. -/
import Derived.Test.YtdmkbcbgjdmgdaaGreatDoorBringb
import Derived.Test.YtdmkbcbgjdmgdaaGreatDoorBwn
import Derived.Test.YtdmkbcbgjdmgdaaGreatDoorLaws14
import Derived.Test.YtdmkbcbgjdmgdaaGreatDoorRoad14
namespace Go.Proofs.YtdmkbcbgjdmgdaaGreatDoor
open Go.RowKit
set_option linter.unusedVariables false

theorem fin_ofR {w wz w' : World} {wb n m : Nat} {sq : Nat → List Nat} {tt : Nat → Option (Nat × Nat)} {ky : Nat → Int} (hb : Below w.heap.size w wz) (h : WQ wz.heap.size wz wb n m sq tt ky w') : Below w.heap.size w w' := hb.trans (h.below.mono hb.size)

/-- The document's Web in its block, with its ties. -/
structure DX (gx : Nat) (v0 v1 v2 tv : Value) (ts : List Wd.Ti) (wr : World) : Prop where
  blk : wr.heap[gx]? = some (.cells #[v0, v1, v2, tv] 32 (0, 0))
  tv : Wd.TV wr tv ts

theorem DX.keep {gx : Nat} {v0 v1 v2 tv : Value} {ts : List Wd.Ti} {wr w' : World} (h : DX gx v0 v1 v2 tv ts wr) (k : KeepW wr w') : DX gx v0 v1 v2 tv ts w' := ⟨k.web h.blk, tv_keepD h.tv (.ofW k)⟩
theorem DX.more {gx : Nat} {v0 v1 v2 tv : Value} {ts : List Wd.Ti} {wr w' : World} (h : DX gx v0 v1 v2 tv ts wr) (k : Below wr.heap.size wr w') : DX gx v0 v1 v2 tv ts w' := ⟨Below.web k h.blk, h.tv.below k⟩

theorem KeepW.tie {a b : World} (h : KeepW a b) {g : Nat} {cs : Array Value} {fr : Nat × Nat} (hg : a.heap[g]? = some (.cells cs 62 fr)) : b.heap[g]? = some (.cells cs 62 fr) := h g cs _ fr hg (by decide) (by decide) (by decide) (by decide) (by decide) (by decide)
theorem Below.tieB {a b : World} (h : Below a.heap.size a b) {g : Nat} {cs : Array Value} {fr : Nat × Nat} (hg : a.heap[g]? = some (.cells cs 62 fr)) : b.heap[g]? = some (.cells cs 62 fr) := (h.block g (Array.getElem?_eq_some_iff.1 hg).1).trans hg

set_option maxRecDepth 100000 in
set_option maxHeartbeats 8000000 in
theorem roads_law (n : Int) (ad : Option Addr) (len cap : Nat) (l : List A5) (o0 o1 : Int) (w : World) (hg : Handle w) (hv : AV5 w (.slice ad len cap) l) :
    Calls Tryz.prog 7 #[.int .i64 n, .slice ad len cap, .agg #[.int .i64 o0, .int .i64 o1]] w fun e w' => e = .returned (.bool true) ∧ Below w.heap.size w w' := by
  obtain ⟨K, hK, hK1, hK2⟩ := mod_up2 n 14 (by decide) (by decide)
  have hK15 : K ≤ 15 := by omega
  obtain ⟨wx, hwx⟩ : ∃ wx, w.alloc (.cells #[.int .i64 o0, .int .i64 o1] 56) = wx := ⟨_, rfl⟩
  have bx : Below w.heap.size w wx := by rw [← hwx]; exact (Below.refl _ _).alloc (Nat.le_refl _) _
  have hbn : wx.heap[w.heap.size]? = some (.cells #[.int .i64 o0, .int .i64 o1] 56 (0, 0)) := by rw [← hwx]; exact heap_alloc_new w _
  have hgx := hg.below bx
  have hgr := hid (grown_ok K ad len cap l wx hgx (hv.below bx) (by omega) (by omega))
  have hgx := hid hgx
  have bx := hid bx
  obtain ⟨ob, hob⟩ : ∃ ob, w.heap.size = ob := ⟨_, rfl⟩
  rw [hob] at hbn
  have hbn := hid hbn
  clear hg hv
  go_enter Tryz.func7, Tryz.ntmps7
  go_upto_region 1 with fail
  try rw [hwx]
  try rw [hob]
  clear hwx
  go_wp2_with fail
  try rw [hK]
  refine hgr.out.mono ?_
  rintro e w1 ⟨wz, wb, xv, sq, tt, ky, rfl, bz, h1, d1, bw⟩
  have hlab := hid (d1.lb h1.part)
  obtain ⟨fv, tv, ls, ts, hxv, hR, hTi, hT, hTs⟩ := d1
  obtain ⟨fb, fcap, _, _, hfe, _⟩ := hR
  obtain ⟨tad, tcap, hte⟩ := hT.form
  subst hxv
  subst hfe
  have hts8 := h1.few hTs
  obtain ⟨T, hTl⟩ : ∃ T, ts.length = T := ⟨_, rfl⟩
  rw [hTl] at hts8 hte
  subst hte
  replace hTl := hid hTl
  obtain ⟨F, hF⟩ : ∃ F, ls.length = F := ⟨_, rfl⟩
  rw [hF]
  have hgz := hid (hgx.out.below bz)
  have hbz := hid (bx.out.trans (bz.mono bx.out.size))
  have hlt := (Array.getElem?_eq_some_iff.1 hbn.out).1
  have hof : Hid (∀ y, Below wz.heap.size wz y → y.cell? ⟨ob, 0, none⟩ = some (.int .i64 o0) ∧ y.cell? ⟨ob, 1, none⟩ = some (.int .i64 o1)) := hid fun y hy => by
    have e := (hy.block ob (by have := bz.size; omega)).trans ((bz.block ob hlt).trans hbn.out)
    constructor <;> (unfold World.cell?; rw [e]; simp)
  have h1 := hid h1
  have hT := hid hT
  have hTs := hid hTs
  clear hgr hK bz bw hlt hgx bx hbn hTi hF
  go_upto_region 5 with fail
  have h2 := hid (h1.out.alloc (.cells #[.int .i64 (K : Int), .int .i64 8, .slice (some ⟨fb, 0, none⟩) F fcap, .slice tad T tcap] 32))
  have x2 : Hid (DX w1.heap.size (.int .i64 (K : Int)) (.int .i64 8) (.slice (some ⟨fb, 0, none⟩) F fcap) (.slice tad T tcap) ts (w1.alloc (.cells #[.int .i64 (K : Int), .int .i64 8, .slice (some ⟨fb, 0, none⟩) F fcap, .slice tad T tcap] 32))) := hid ⟨heap_alloc_new w1 _, hT.out.below ((Below.refl _ _).alloc (Nat.le_refl _) _)⟩
  generalize w1.alloc (.cells #[.int .i64 (K : Int), .int .i64 8, .slice (some ⟨fb, 0, none⟩) F fcap, .slice tad T tcap] 32) = w2 at h2 x2 ⊢
  generalize w1.heap.size = gx at x2 ⊢
  obtain ⟨f0, f1⟩ := hof.out w2 h2.out.below
  obtain ⟨a, ha, haK⟩ := mod_inN o0 K (by omega) (by omega)
  obtain ⟨b, hb, hbK⟩ := mod_inN o1 K (by omega) (by omega)
  clear h1 hT
  go_wp2_with fail
  go_region
  try rw [ha, hb]
  have h3 := hid (h2.out.drew)
  have x3 := hid (x2.out.more (Below.refl _ _).drew)
  generalize w2.drew = w3 at h3 x3 ⊢
  clear h2 x2 f0 f1 ha hb hof
  obtain ⟨fi, hfi⟩ := hlab.out
  have hfi := hid hfi
  clear hlab
  by_cases hl : Lkd K sq tt a b
  · go_wp2_with fail
    refine (h3.out.weakY a b haK hbK hl).mono ?_
    rintro e w4 ⟨z, hz, rfl, h4, k4⟩
    have x4 := hid (x3.out.keep k4)
    have h4 := hid h4
    have hkind := hz.kind hfi.out haK hbK
    have hz := hid hz
    clear h3 x3 k4
    rcases hkind with ⟨rfl, hin⟩ | ⟨e0, s, t, rfl, hc⟩
    · go_wp2_with fail
      refine (h4.out.linked a b haK hbK true (by simp [hl])).mono ?_
      rintro e w5 ⟨rfl, h5, k5⟩
      have h5 := hid h5
      clear h4 k5
      go_wp2_with fail
      refine (h5.out.same a b haK hbK true (by simp [hin])).mono ?_
      rintro e w6 ⟨rfl, h6, k6⟩
      have h6 := hid h6
      clear h5 k6
      go_wp2_with fail
      refine (sure_ok _ (hgz.out.below h6.out.below)).mono ?_
      rintro e ws ⟨rfl, bs⟩
      have hs := hid (h6.out.more bs)
      clear bs
      go_wp2_with fail
      go_ret
      exact ⟨rfl, fin_ofR hbz.out hs.out⟩
    · have t1 : decide ((e0 : Int) < 0) = false := decide_eq_false (by omega)
      obtain ⟨y0, y1, y2, y3⟩ := blk4 x4.out.blk
      obtain ⟨q1, q2, q3, q4⟩ := h4.out.ends e0 s t hc
      obtain ⟨q5, q6⟩ := h4.out.keys e0 s t hc
      go_wp2_with fail
      refine (Wd.rat14_ok _ _ _ _ _ _ ts (e0 : Int) w4 x4.out.tv (by rw [hTl.out]; omega)).mono ?_
      rintro e w5 ⟨i, rfl, hi, b5⟩
      obtain ⟨j, rfl, hj⟩ := at_tied hTs.out hc hi
      have hjT : j < T := by rw [← hTl.out]; exact (List.getElem?_eq_some_iff.1 hj).1
      have t2 : decide ((j : Int) < 0) = false := decide_eq_false (by omega)
      have h5 := hid (h4.out.more b5)
      have x5 := hid (x4.out.more b5)
      have hj := hid hj
      clear h4 x4 b5 hi y0 y1 y2 y3
      go_wp2_with fail
      refine (h5.out.untie e0 s t hc).mono ?_
      rintro e w6 ⟨rfl, h6, k6⟩
      have x6 := hid (x5.out.keep k6)
      have hno := h5.out.parts h6 hfi.out haK hbK hz.out
      have hno2 := h5.out.cut hc
      have h6 := hid h6
      clear h5 x5 k6
      go_wp2_with fail
      refine (h6.out.linked a b haK hbK false (by simp [hno])).mono ?_
      rintro e w7 ⟨rfl, h7, k7⟩
      have x7 := hid (x6.out.keep k7)
      have h7 := hid h7
      clear h6 x6 k7
      go_upto_region 15 with fail
      obtain ⟨y0, y1, y2, y3⟩ := blk4 x7.out.blk
      obtain ⟨tg, tof, tcp, e0', z0, z1, z2, z3⟩ := x7.out.tv.cells hj.out
      simp only [Value.slice.injEq] at e0'
      obtain ⟨hte, hq9, hq8⟩ := e0'
      clear hq9 hq8
      rw [hte] at y3
      replace hte := hid hte
      simp only [] at z0 z1 z2 z3
      have i1 : (0 : Int) ≤ (j : Int) := by omega
      have i2 : (j : Int) < (T : Int) := by omega
      go_wp2_with fail
      have h8 := hid (h7.out.alloc (.cells #[.int .i64 (e0 : Int), .int .i64 (s : Int), .int .i64 (t : Int), .int .i64 (ky e0)] 62))
      have x8 := hid (x7.out.more ((Below.refl _ _).alloc (Nat.le_refl _) (.cells #[.int .i64 (e0 : Int), .int .i64 (s : Int), .int .i64 (t : Int), .int .i64 (ky e0)] 62)))
      have g8 := hid (heap_alloc_new w7 (.cells #[.int .i64 (e0 : Int), .int .i64 (s : Int), .int .i64 (t : Int), .int .i64 (ky e0)] 62))
      generalize w7.alloc (.cells #[.int .i64 (e0 : Int), .int .i64 (s : Int), .int .i64 (t : Int), .int .i64 (ky e0)] 62) = w8 at h8 x8 g8 ⊢
      generalize w7.heap.size = gt at g8 ⊢
      clear h7 x7 y0 y1 y2 y3 z0 z1 z2 z3
      refine (h8.out.tie e0 s t (ky e0) q1 q2 q3 q5 q6 (updT_self _ _ _) hno2).mono ?_
      rintro e w9 ⟨rfl, h9, k9⟩
      rw [updT_back _ hc, setK_same rfl] at h9
      have x9 := hid (x8.out.keep k9)
      have g9 := hid (k9.tie g8.out)
      have h9 := hid h9
      clear h8 x8 g8 k9
      go_wp2_with fail
      refine (h9.out.weakY b a hbK haK hl.symm).mono ?_
      rintro e w10 ⟨z', hz', rfl, h10, k10⟩
      obtain ⟨e', rfl, ⟨s', t', hc'⟩, hke⟩ := h10.both hfi.out haK hbK hz.out hz'
      have x10 := hid (x9.out.keep k10)
      have g10 := hid (k10.tie g9.out)
      have h10 := hid h10
      obtain ⟨y0, y1, y2, y3⟩ := blk4 x10.out.blk
      clear h9 x9 g9 k10 hz'
      go_wp2_with fail
      refine (Wd.rat14_ok _ _ _ _ _ _ ts (e' : Int) w10 x10.out.tv (by rw [hTl.out]; omega)).mono ?_
      rintro e w11 ⟨i, rfl, hi, b11⟩
      obtain ⟨j', rfl, hj'⟩ := at_tied hTs.out hc' hi
      have hjT' : j' < T := by rw [← hTl.out]; exact (List.getElem?_eq_some_iff.1 hj').1
      have h11 := hid (h10.out.more b11)
      have x11 := hid (x10.out.more b11)
      have g11 := hid (Below.tieB b11 g10.out)
      clear h10 x10 g10 b11 hi y0 y1 y2 y3
      obtain ⟨y0, y1, y2, y3⟩ := blk4 x11.out.blk
      obtain ⟨u0, u1, u2, u3⟩ := blk4 g11.out
      obtain ⟨tg', tof', tcp', e1', z0, z1, z2, z3⟩ := x11.out.tv.cells hj'
      simp only [Value.slice.injEq] at e1'
      obtain ⟨hte', hq9, hq8⟩ := e1'
      clear hq9 hq8
      rw [hte'] at y3
      replace hte' := hid hte'
      simp only [] at z0 z1 z2 z3
      rw [hke] at z3
      have t3 : decide ((0 : Int) ≤ (j' : Int)) = true := decide_eq_true (by omega)
      have t4 : decide ((j' : Int) ≥ 0) = true := decide_eq_true (by omega)
      have i3 : (0 : Int) ≤ (j' : Int) := by omega
      have i4 : (j' : Int) < (T : Int) := by omega
      have h11' := hid (h11.out.drew)
      have hS : Hid (∀ y, Below w11.heap.size w11 y → y.cell? ⟨gx, 3, none⟩ = some (.slice (some ⟨tg', tof', none⟩) T tcap) ∧ y.cell? ⟨tg', tof' + j' * 4 + 3, none⟩ = some (.int .i64 (ky e0)) ∧ y.cell? ⟨gt, 3, none⟩ = some (.int .i64 (ky e0))) := hid fun y hy => ⟨(hy.cell (World.block_lt_of_cell? w11 _ y3)).trans y3, (hy.cell (World.block_lt_of_cell? w11 _ z3)).trans z3, (hy.cell (World.block_lt_of_cell? w11 _ u3)).trans u3⟩
      have hsu := hid (sure_ok w11.drew (hgz.out.below h11'.out.below))
      clear h11
      go_upto_region 20 with fail
      go_region_held3 (fun w' => w'.cell? ⟨gx, 3, none⟩ = some (.slice (some ⟨tg', tof', none⟩) T tcap) ∧ w'.cell? ⟨tg', tof' + j' * 4 + 3, none⟩ = some (.int .i64 (ky e0)) ∧ w'.cell? ⟨gt, 3, none⟩ = some (.int .i64 (ky e0))) (first | with_reducible exact hS.out _ (Below.refl _ _).drew | with_reducible exact hS.out _ bS | go_keep) ((go_at_call 14; refine hsu.out.mono ?_; rintro e ws ⟨rfl, bs⟩; have bS : Below w11.heap.size w11 ws := (Below.refl w11.heap.size w11).drew.trans bs; have hs := hid (h11'.out.more bs); clear bs))
      all_goals
        go_wp2_with fail
        go_ret
        exact ⟨rfl, fin_ofR hbz.out hs.out⟩
  · go_wp2_with fail
    refine (h3.out.weakN a b haK hbK hl).mono ?_
    rintro e w4 ⟨rfl, h4, k4⟩
    have h4 := hid h4
    clear h3 x3 k4
    go_wp2_with fail
    refine (h4.out.linked a b haK hbK false (by simp [hl])).mono ?_
    rintro e w5 ⟨rfl, h5, k5⟩
    have h5 := hid h5
    clear h4 k5
    have hni : b + 1 ∉ sq (a + 1) := fun q => hl (face_cn h5.out.part haK q)
    go_wp2_with fail
    refine (h5.out.same a b haK hbK false (by simp [hni])).mono ?_
    rintro e w6 ⟨rfl, h6, k6⟩
    have h6 := hid h6
    clear h5 k6
    go_wp2_with fail
    refine (sure_ok _ (hgz.out.below h6.out.below)).mono ?_
    rintro e ws ⟨rfl, bs⟩
    have hs := hid (h6.out.more bs)
    clear bs
    go_wp2_with fail
    go_ret
    exact ⟨rfl, fin_ofR hbz.out hs.out⟩
end Go.Proofs.YtdmkbcbgjdmgdaaGreatDoor
