/- 'take', walked: a dart is taken away. -/
import Derived.Test.YtghpjljnbdjmaaaGreatDoorPutW10
namespace Go.Proofs.YtghpjljnbdjmaaaGreatDoor
open Go.RowKit
set_option linter.unusedVariables false

theorem PG.more {w wx wy : World} {lo tb g mc gs cs' V E K M : Nat} {D : Nat → Dr} {S : Nat → Sd} {bx : Nat} {o : Obj} (h : PG w wx lo tb g mc gs cs' V E K M D S bx o) (hb : Below wx.heap.size wx wy) : PG w wy lo tb g mc gs cs' V E K M D S bx o :=
  ⟨h.tm.more hb, h.kp.trans (Kp.ofBelow hb lo), (hb.block _ (Array.getElem?_eq_some_iff.1 h.bk).1).trans h.bk⟩

set_option maxRecDepth 100000 in
set_option maxHeartbeats 4000000 in
theorem take_ok {w : World} {lo tb V E K M : Nat} {dv sv : Value} {D : Nat → Dr} {S : Nat → Sd} (d v n b : Nat) (h : Tm w lo tb dv sv V E K M D S) (hd : d < K) (hD : D d = ⟨n, b, (v : Int)⟩) (hn : n < K) (hb : b < K) (hv : v < M) (hdg : (S v).dg ≤ 2097152) (hdg1 : 1 ≤ (S v).dg) :
    Calls Tryz.prog 60 #[.pointer (some ⟨tb, 0, none⟩), .int .i64 (d : Int)] w fun e w' => e = .returned (.tuple #[]) ∧ ∃ K' M' dv' sv', Tm w' lo tb dv' sv' V E K' M' (takeD D d n b) (takeS S v n) ∧ Kp lo w w' := by
  have hE := h.hE
  have hV := h.hV
  have hK := h.hK
  have hM := h.hM
  obtain ⟨g, mc, rfl, hm1, hm2⟩ := own_form h.da (by omega)
  obtain ⟨gs, sc', rfl, hs1, hs2⟩ := own_form h.st (by omega)
  have hgl := (h.da.lt g rfl).2
  have hgsl := (h.st.lt gs rfl).2
  have hap : w.heap.size ≠ g ∧ w.heap.size ≠ gs := by omega
  obtain ⟨a0, a1, a2⟩ := h.dat hd
  rw [hD] at a0 a1 a2
  simp only [] at a0 a1 a2
  have c2 := h.c2
  have hbl := h.lt
  have hbn : tb ≠ w.heap.size := by omega
  have hgn : g ≠ w.heap.size := by omega
  have bB := balloc w (.cells #[.int .i32 (n : Int), .int .i32 (b : Int), .int .i32 (v : Int)] 106)
  have P0 : Hid (PG w (w.alloc (.cells #[.int .i32 (n : Int), .int .i32 (b : Int), .int .i32 (v : Int)] 106)) lo tb g mc gs sc' V E K M D S w.heap.size (.cells #[.int .i32 (n : Int), .int .i32 (b : Int), .int .i32 (v : Int)] 106 (0, 0))) := ⟨h.more bB, Kp.ofBelow bB lo, heap_alloc_new _ _⟩
  have i1 : (0 : Int) ≤ (d : Int) ∧ (d : Int) < (K : Int) ∧ (0 : Int) ≤ (b : Int) ∧ (b : Int) < (K : Int) ∧ (0 : Int) ≤ (n : Int) ∧ (n : Int) < (K : Int) ∧ (0 : Int) ≤ (v : Int) ∧ (v : Int) < (M : Int) := by omega
  obtain ⟨i1, i2, i3, i4, i5, i6, i7, i8⟩ := i1
  replace hD := hid hD
  clear h bB
  go_enter Tryz.func60, Tryz.ntmps60
  go_upto_region 1 with fail
  generalize w.alloc (.cells #[.int .i32 (n : Int), .int .i32 (b : Int), .int .i32 (v : Int)] 106) = wx at P0 ⊢
  clear a0 a1 a2 c2
  go_cut [13] from 13 to 22 (fun _ wx => Hid (PG w wx lo tb g mc gs sc' V E K M (up D b ⟨n, (D b).pv, (D b).og⟩) S w.heap.size (.cells #[.int .i32 (n : Int), .int .i32 (b : Int), .int .i32 (v : Int)] 106 (0, 0))))
  case first =>
    obtain ⟨e0, _, _⟩ := P0.out.tm.dat hb
    have z0 := P0.out.tm.da.frozenAt (b * 3)
    have c2 := P0.out.tm.c2
    obtain ⟨q0, q1, q2, _, _, _⟩ := blk3 P0.out.bk
    have s5 := (P0.out.dset hap (i := b) 0 (u := .int .i32 (n : Int)) ⟨n, (D b).pv, (D b).og⟩ hb (by decide) rfl).drew
    simp only [Nat.add_zero] at s5
    replace s5 := hid s5
    go_region
    all_goals
      go_wp2_with fail
      go_meet
      case rel => exact s5
  case rest =>
    clear P0
    obtain ⟨D1, hD1⟩ : ∃ D1, up D b ⟨n, (D b).pv, (D b).og⟩ = D1 := ⟨_, rfl⟩
    rw [hD1] at hcut
    have H := hcut
    clear hcut
    go_upto_region 2 with fail
    go_cut [23] from 23 to 32 (fun _ wx => Hid (PG w wx lo tb g mc gs sc' V E K M (up D1 n ⟨(D1 n).nx, b, (D1 n).og⟩) S w.heap.size (.cells #[.int .i32 (n : Int), .int .i32 (b : Int), .int .i32 (v : Int)] 106 (0, 0))))
    case first =>
      obtain ⟨_, e0, _⟩ := H.out.tm.dat hn
      have z0 := H.out.tm.da.frozenAt (n * 3 + 1)
      have c2 := H.out.tm.c2
      obtain ⟨q0, q1, q2, _, _, _⟩ := blk3 H.out.bk
      have s5 := hid (H.out.dset hap (i := n) 1 (u := .int .i32 (b : Int)) ⟨(D1 n).nx, b, (D1 n).og⟩ hn (by decide) rfl).drew
      go_region
      all_goals
        go_wp2_with fail
        go_meet
        case rel => exact s5
    case rest =>
      clear H
      obtain ⟨D2, hD2⟩ : ∃ D2, up D1 n ⟨(D1 n).nx, b, (D1 n).og⟩ = D2 := ⟨_, rfl⟩
      rw [hD2] at hcut
      have H := hcut
      clear hcut
      have hfinD : Hid (up D2 d nw = takeD D d n b) := by rw [← hD2, ← hD1]; exact hid rfl
      clear hD1 hD2
      go_upto_region 3 with fail
      go_cut [33] from 33 to 39 (fun _ wx => Hid (PG w wx lo tb g mc gs sc' V E K M (takeD D d n b) S w.heap.size (.cells #[.int .i32 (n : Int), .int .i32 (b : Int), .int .i32 (v : Int)] 106 (0, 0))))
      case first =>
        have c2 := H.out.tm.c2
        have hfs : Hid (∀ y, Below wc.heap.size wc y → (y.cell? ⟨tb, 2, none⟩ = some (.slice (some ⟨g, 0, none⟩) K mc)) ∧ (y.cell? ⟨g, d * 3, none⟩ = some (.int .i32 ((D2 d).nx : Int)) ∧ y.cell? ⟨g, d * 3 + 1, none⟩ = some (.int .i32 ((D2 d).pv : Int)) ∧ y.cell? ⟨g, d * 3 + 2, none⟩ = some (.int .i32 (D2 d).og)) ∧ (y.frozen? ⟨g, d * 3, none⟩ = false ∧ y.frozen? ⟨g, d * 3 + 1, none⟩ = false ∧ y.frozen? ⟨g, d * 3 + 2, none⟩ = false) ∧ PG w (((y.setCell ⟨g, d * 3, none⟩ (.int .i32 ((nw.nx : Nat) : Int))).setCell ⟨g, d * 3 + 1, none⟩ (.int .i32 ((nw.pv : Nat) : Int))).setCell ⟨g, d * 3 + 2, none⟩ (.int .i32 nw.og)) lo tb g mc gs sc' V E K M (takeD D d n b) S w.heap.size (.cells #[.int .i32 (n : Int), .int .i32 (b : Int), .int .i32 (v : Int)] 106 (0, 0))) := fun y hy => by
          have h2 := H.out.more hy
          refine ⟨h2.tm.c2, h2.tm.dat hd, ⟨h2.tm.da.frozenAt _, h2.tm.da.frozenAt _, h2.tm.da.frozenAt _⟩, ?_⟩
          have h3 := h2.dset3 hap (i := d) nw.nx nw.pv nw.og hd
          rw [← hfinD.out]
          exact h3
        clear H
        go_region_law ((go_simp; refine (nowhere_ok _).mono ?_; rintro e w1 ⟨rfl, b1⟩; obtain ⟨k1, ⟨k2, k3, k4⟩, ⟨k5, k6, k7⟩, k8⟩ := hfs.out w1 ((Below.refl wc.heap.size wc).drew.trans b1); replace k8 := hid k8; dsimp only))
        all_goals
          go_wp2_with fail
          go_meet
          case rel => exact k8
      case rest =>
        clear H hfinD
        have s6 := hcut
        clear hcut
        go_upto_region 4 with fail
        have c3 := s6.out.tm.c3
        obtain ⟨q0, q1, q2, _, _, _⟩ := blk3 s6.out.bk
        go_region_held3 (fun y => y.cell? ⟨tb, 3, none⟩ = some (.slice (some ⟨gs, 0, none⟩) M sc') ∧ y.cell? ⟨w.heap.size, 2, none⟩ = some (.int .i32 (v : Int))) (go_keep) (fail)
        go_upto_region 5 with fail
        replace s6 := hid s6.out.drew
        clear c3 q0 q1 q2
        generalize wc.drew = wf at s6 ⊢
        obtain ⟨a0, _⟩ := s6.out.tm.sat (i := v) hv
        have z0 := s6.out.tm.st.frozenAt (v * 2)
        have s7 := s6.out.sset hap (i := v) 0 (u := .int .i32 (((S v).dg : Int) - 1)) ⟨(S v).dg - 1, (S v).so⟩ hv (by decide) (by simp [sc]; omega)
        simp only [Nat.add_zero] at s7
        replace s7 := hid s7
        go_upto_region 6 with fail
        generalize wf.setCell ⟨gs, v * 2, none⟩ (.int .i32 (((S v).dg : Int) - 1)) = wg at s7 ⊢
        clear s6 a0 z0
        obtain ⟨_, a1⟩ := s7.out.tm.sat (i := v) hv
        have z1 := s7.out.tm.st.frozenAt (v * 2 + 1)
        obtain ⟨q0, q1, q2, _, _, _⟩ := blk3 s7.out.bk
        have s8 := s7.out.sset hap (i := v) 1 (u := .int .i32 (n : Int)) ⟨(S v).dg - 1, n⟩ hv (by decide) (by rw [up_same]; rfl)
        rw [up_up] at s8
        replace s8 := hid s8
        clear s7
        go_wp2_with fail
        go_end0
        exact ⟨rfl, K, M, _, _, s8.out.tm, s8.out.kp⟩

end Go.Proofs.YtghpjljnbdjmaaaGreatDoor
