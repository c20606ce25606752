/- cmd's Encode, walked. -/
import Derived.Test.YtmmpkhoejcfdmaaDoorCheck19
import Derived.Test.YtmmpkhoejcfdmaaDoorRegion
import Derived.Laws.MakeOwn
namespace Go.Proofs.YtmmpkhoejcfdmaaDoor
open Go.RowKit
set_option linter.unusedVariables false

theorem mk19 (L : Nat) (h : L ≤ 1000000) (w : World) : (Instr.makeSlice 27 (.int .i64 0) (.int .i64 (L : Int))).run Tryd.prog w = .ok (.slice (some ⟨w.heap.size, 0, none⟩) 0 L) (w.alloc (.cells (madeCells #[.int .u8 0] (L * 1)) 5)) := by
  obtain ⟨i0, hif, hz0, hz1, hz2⟩ := info_parts infoU8
  have := run_makeSlice (P := Tryd.prog) w 27 5 i0 (.int .u8 0) Tryd.underlying27 hif hz0 .i64 .i64 0 (L : Int) (Int.le_refl _) (by omega) (by rw [hz1]; simp; omega) (by rw [hz2]; omega) (by omega)
  rw [hz1] at this
  exact this

theorem own_made (w : World) (L : Nat) (h : L ≤ 1000000) : Bw w.heap.size (w.alloc (.cells (madeCells #[.int .u8 0] (L * 1)) 5)) (.slice (some ⟨w.heap.size, 0, none⟩) 0 L) [] :=
  World.ownsRow_made w _ L (Nat.le_refl _) (by unfold maxLen; omega) (size_madeCells _ _)

theorem szp_le {p : Pt} (h : p.h ≤ 2) : szp p ≤ 22 := by
  unfold szp
  split <;> split <;> omega

/-- So many handles as bytes. -/
def ehk (p : Pt) (c : Cm) (k : Nat) : List UInt8 := (if 0 < k then en1 p.s c.s0 c.a0 c.p0 else []) ++ (if 1 < k then en1 p.s c.s1 c.a1 c.p1 else [])

theorem ehk_len (p : Pt) (c : Cm) (k : Nat) : (ehk p c k).length ≤ 18 := by
  unfold ehk
  have h : eh p.s ≤ 9 := by unfold eh; split <;> omega
  rw [List.length_append]
  split <;> split <;> simp only [en1_len, List.length_nil] <;> omega

set_option maxRecDepth 100000 in
set_option maxHeartbeats 4000000 in
theorem encode_err (c : Cm) (ad : Option Addr) (n cap : Nat) (hn : c.d.length = n) (hc : ¬ chk c = 0) (w : World) :
    Calls Tryd.prog 10 #[cv c (.slice ad n cap)] w fun e w' => e = .returned (.tuple #[.slice none 0 0, .iface 62 (.int .i64 (chk c))]) ∧ Below w.heap.size w w' := by
  have hk := hid (check_ok c ad n cap hn)
  have hv : erv (chk c) = .iface 62 (.int .i64 (chk c)) := if_neg hc
  rw [hv] at hk
  have hb := hid (balloc w (.cells (ccs c (.slice ad n cap)) 34))
  go_enter Tryd.func10, Tryd.ntmps10
  go_wp2_with fail
  refine (hk.out _).mono ?_
  rintro e w2 ⟨rfl, b2⟩
  have hb2 := hid (hb.out.trans (b2.mono hb.out.size))
  clear b2 hb hk
  go_wp2_with fail
  go_returns
  exact ⟨rfl, hb2.out⟩

set_option maxRecDepth 100000 in
set_option maxHeartbeats 4000000 in
theorem encode_ok (c : Cm) (ad : Option Addr) (n cap : Nat) (hn : c.d.length = n) (hc : chk c = 0) (hw : Wf c) (w : World) (hby : Bytes w ad cap c.d) (hnl : n ≤ 6000) :
    Calls Tryd.prog 10 #[cv c (.slice ad n cap)] w fun e w' => ∃ ad' cap', e = .returned (.tuple #[.slice ad' (enc c).length cap', .nilIface]) ∧ Bytes w' ad' cap' (enc c) ∧ Below w.heap.size w w' := by
  have hk := hid (check_ok c ad n cap hn)
  have hv : erv (chk c) = .nilIface := if_pos hc
  rw [hv] at hk
  obtain ⟨p, hp, hf, ha, _⟩ := chk_zero.1 hc
  have hC : CB (w.alloc (.cells (ccs c (.slice ad n cap)) 34)) w.heap.size c (.slice ad n cap) := ⟨new_of _ _ _⟩
  have hb := hid (balloc w (.cells (ccs c (.slice ad n cap)) 34))
  have hpk := hid (parts_some hp)
  have hsz := hid (size_ok p (pt_is hp).1)
  have hzl := szp_le (pt_is hp).1
  replace hn := hid hn
  replace hby := hid hby
  replace hp := hid hp
  replace hf := hid hf
  replace ha := hid ha
  replace hw := hid hw
  replace hC := hid hC
  clear hv hc
  go_enter Tryd.func10, Tryd.ntmps10
  go_upto_region 1 with fail
  obtain ⟨w1, hw1⟩ : ∃ w1, w.alloc (.cells (ccs c (.slice ad n cap)) 34) = w1 := ⟨_, rfl⟩
  rw [hw1] at hC hb ⊢
  obtain ⟨B, hB⟩ : ∃ B, w.heap.size = B := ⟨_, rfl⟩
  rw [hB] at hC ⊢
  clear hw1
  replace hB := hid hB
  obtain ⟨c0, c1, c2, c3, c4, c5, c6, c7, c8⟩ := hC.out.cells
  go_wp2_with fail
  refine (hk.out _).mono ?_
  rintro e w2 ⟨rfl, b2⟩
  have hC2 := hid (hC.out.more b2)
  have hb2 := hid (hb.out.trans (b2.mono hb.out.size))
  clear hC hb hk c0 c1 c2 c3 c4 c5 c6 c7 c8 b2
  obtain ⟨c0, c1, c2, c3, c4, c5, c6, c7, c8⟩ := hC2.out.cells
  go_wp2_with fail
  refine (hpk.out _).mono ?_
  rintro e w3 ⟨rfl, b3⟩
  have hC3 := hC2.out.more b3
  have hb3 := hb2.out.trans (b3.mono hb2.out.size)
  have b4 := balloc w3 (.cells p.cs 54)
  have hP4 : PB (w3.alloc (.cells p.cs 54)) w3.heap.size p := ⟨new_of _ _ _⟩
  have hC4 := hC3.more b4
  have hb4 := hid (hb3.trans (b4.mono hb3.size))
  clear hC2 hb2 c0 c1 c2 c3 c4 c5 c6 c7 c8 b3 hC3 hb3 b4 hpk
  go_upto_region 5 with fail
  obtain ⟨w4, hw4⟩ : ∃ w4, w3.alloc (.cells p.cs 54) = w4 := ⟨_, rfl⟩
  rw [hw4] at hP4 hC4 hb4 ⊢
  obtain ⟨Q, hQ⟩ : ∃ Q, w3.heap.size = Q := ⟨_, rfl⟩
  rw [hQ] at hP4 ⊢
  clear hw4 hQ
  have hS := hid (fun (y : World) (hy : Below w4.heap.size w4 y) => And.intro (hC4.more hy).cells (hP4.more hy).cells)
  obtain ⟨Z, hZ⟩ : ∃ Z, szp p = Z := ⟨_, rfl⟩
  rw [hZ] at hsz hzl
  have z1 : IntKind.i64.wrap (1 + (Z : Int)) = 1 + (Z : Int) := by rw [IntKind.wrap_i64]; omega
  obtain ⟨L, hL⟩ : ∃ L, 1 + Z + n = L := ⟨_, rfl⟩
  have z2 : IntKind.i64.wrap (1 + (Z : Int) + (n : Int)) = (L : Int) := by rw [IntKind.wrap_i64]; omega
  have hLl : L ≤ 1000000 := by omega
  have hmk := mk19 L hLl
  replace hL := hid hL
  replace hZ := hid hZ
  replace hC4 := hid hC4
  replace hP4 := hid hP4
  go_region_held3 (fun y => ((y.cell? ⟨B, 0, none⟩ = some (.int .i64 c.code) ∧ y.cell? ⟨B, 1, none⟩ = some (.int .u32 (c.a0 : Int)) ∧ y.cell? ⟨B, 2, none⟩ = some (.int .u32 (c.p0 : Int)) ∧ y.cell? ⟨B, 3, none⟩ = some (.int .u32 (c.a1 : Int)) ∧ y.cell? ⟨B, 4, none⟩ = some (.int .u32 (c.p1 : Int)) ∧ y.cell? ⟨B, 5, none⟩ = some (.int .i64 c.s0) ∧ y.cell? ⟨B, 6, none⟩ = some (.int .i64 c.s1) ∧ y.cell? ⟨B, 7, none⟩ = some (.int .i32 c.w) ∧ y.cell? ⟨B, 8, none⟩ = some (.slice ad n cap)) ∧ (y.cell? ⟨Q, 0, none⟩ = some (.int .i64 (p.h : Int)) ∧ y.cell? ⟨Q, 1, none⟩ = some (.int .i64 (p.s : Int)) ∧ y.cell? ⟨Q, 2, none⟩ = some (.bool p.w) ∧ y.cell? ⟨Q, 3, none⟩ = some (.bool p.d)))) (first | with_reducible exact hS.out _ (Below.refl _ _).drew | with_reducible exact hS.out _ bA | go_keep) ((go_at_call 19; refine (hsz.out _).mono ?_; rintro e1 y1 ⟨rfl, bs⟩; have bA : Below w4.heap.size w4 y1 := (Below.refl w4.heap.size w4).drew.trans bs; clear bs))
  all_goals
    rename_i hHd
    clear hHd
    have b5 := bA.trans ((balloc y1 (.cells (madeCells #[.int .u8 0] (L * 1)) 5)).mono bA.size)
    have hown := own_made y1 L hLl
    have hS5 := hS.out _ b5
    have hlt : y1.heap.size ≤ (y1.alloc (.cells (madeCells #[.int .u8 0] (L * 1)) 5)).heap.size := by simp
    have hB4 := hC4.out.lt
    have hQ4 := hP4.out.lt
    have hG := bA.size
    rw [Nat.mul_one] at b5 hown hS5 hlt
    obtain ⟨w5, hw5⟩ : ∃ w5, y1.alloc (.cells (madeCells #[.int .u8 0] L) 5) = w5 := ⟨_, rfl⟩
    rw [hw5] at b5 hown hS5 hlt ⊢
    obtain ⟨G, hG'⟩ : ∃ G, y1.heap.size = G := ⟨_, rfl⟩
    rw [hG'] at hown hlt hG ⊢
    clear hw5 hG' bA hmk z1 z2
    have hw5b : Hid (Below w.heap.size w w5) := hb4.out.trans (b5.mono hb4.out.size)
    have hC5 := hid ((hC4.out.more b5).blk)
    have hP5 := hid ((hP4.out.more b5).blk)
    have hkeep := hid (fun (y : World) (hy : Kb G w5 y) => And.intro (CB.cells ⟨hy.2 _ _ _ _ hC5.out (by decide)⟩) (PB.cells ⟨hy.2 _ _ _ _ hP5.out (by decide)⟩))
    have hbyk := hid (fun (y : World) (hy : Kb G w5 y) => hby.out.below (hw5b.out.trans (hy.1.mono (Nat.le_trans hb4.out.size hG))))
    obtain ⟨K, hK⟩ : ∃ K, c.code.toNat = K := ⟨_, rfl⟩
    have hcl := pt_lt hp.out
    have hk1 : IntKind.u32.wrap c.code = (K : Int) := by rw [wrapU32]; omega
    have hK17 : K < 4294967296 := by omega
    replace hK := hid hK
    replace hb4 := hid hb4.out
    replace hown := hid hown
    have hp1 := hid (cput_ok K 1 1 rfl hown.out hlt (by simp) (by omega) (by omega) hK17)
    obtain ⟨⟨c0, c1, c2, c3, c4, c5, c6, c7, c8⟩, ⟨p0, p1, p2, p3⟩⟩ := hS5
    clear hS hcl b5 hC4 hP4 hsz hB4 hQ4
    go_wp2_with fail
    refine hp1.out.mono ?_
    rintro e w6 ⟨v6, rfl, hB6, hk6⟩
    have hst0 : Hid (Bw G w6 v6 (be 1 K) ∧ Kb G w5 w6) := ⟨hB6, hk6⟩
    obtain ⟨⟨d0, d1, d2, d3, d4, d5, d6, d7, d8⟩, ⟨q0, q1, q2, q3⟩⟩ := hkeep.out w6 hk6
    clear c0 c1 c2 c3 c4 c5 c6 c7 c8 p0 p1 p2 p3 hp1 hB6 hk6 hk1 hown
    have hh2 := (pt_is hp.out).1
    have h0 : (0 : Int) ≤ (p.h : Int) := by omega
    have h2 : (p.h : Int) ≤ 2 := by omega
    go_wp2_with fail
    go_loopw [7, 39] (fun u s39 wr => ∃ k : Nat, k ≤ p.h ∧ s39 = .int .i64 (k : Int) ∧ Hid (Bw G wr u (be 1 K ++ ehk p c k) ∧ Kb G w5 wr)) (fun _ s39 _ => p.h - (intOf s39).toNat)
    case atStart => exact ⟨0, by omega, by go_num, by simpa [ehk] using hst0.out.1, hst0.out.2⟩
    case round =>
      obtain ⟨k, hk, rfl, hst⟩ := hrel
      clear hst0 d0 d1 d2 d3 d4 d5 d6 d7 d8 q0 q1 q2 q3
      have hGr := Nat.le_trans hlt hst.out.2.1.size
      obtain ⟨⟨d0, d1, d2, d3, d4, d5, d6, d7, d8⟩, ⟨q0, q1, q2, q3⟩⟩ := hkeep.out wr hst.out.2
      have hl0 : Hid ((be 1 K ++ ehk p c k).length ≤ 19) := by
        have := ehk_len p c k
        show _ ≤ _
        rw [List.length_append, be_length]
        omega
      rcases Nat.lt_or_ge k p.h with hkp | hkp
      · have j1 : (0 : Int) ≤ (k : Int) := by omega
        have j2 : (k : Int) < (p.h : Int) := by omega
        have hXAP : ∃ (X : Int) (A P : Nat), (k = 0 ∧ X = c.s0 ∧ A = c.a0 ∧ P = c.p0 ∨ k = 1 ∧ X = c.s1 ∧ A = c.a1 ∧ P = c.p1) ∧ A < 4294967296 ∧ P < 4294967296 ∧ (0 < p.s → 0 ≤ X ∧ X < 3) ∧ Hid (be 1 K ++ ehk p c (k + 1) = (be 1 K ++ ehk p c k) ++ en1 p.s X A P) := by
          have hff := fit_iff.1 hf.out
          have h3 := (pt_is hp.out).2.1
          rcases (by omega : k = 0 ∨ k = 1) with rfl | rfl
          · exact ⟨c.s0, c.a0, c.p0, .inl ⟨rfl, rfl, rfl, rfl⟩, hw.out.a0, hw.out.p0, fun q => by omega, hid (by simp [ehk])⟩
          · exact ⟨c.s1, c.a1, c.p1, .inr ⟨rfl, rfl, rfl, rfl⟩, hw.out.a1, hw.out.p1, fun q => by omega, hid (by simp [ehk])⟩
        obtain ⟨X, A, P, hwhich, hA, hP, hX, hnew⟩ := hXAP
        have bH := balloc wr (.cells #[.int .u32 (A : Int), .int .u32 (P : Int)] 31)
        have nH := new_of wr #[.int .u32 (A : Int), .int .u32 (P : Int)] 31
        have hkH := hst.out.2.trans (Kb.ofBelow bH hGr)
        have hBH := hid (ownsRow_below hst.out.1 bH)
        have hHs := bH.size
        replace hX := hid hX
        have hcells : Hid (wr.cell? ⟨B, 1 + 2 * k, none⟩ = some (.int .u32 (A : Int)) ∧ wr.cell? ⟨B, 2 + 2 * k, none⟩ = some (.int .u32 (P : Int))) := by
          rcases hwhich with ⟨rfl, rfl, rfl, rfl⟩ | ⟨rfl, rfl, rfl, rfl⟩
          · exact ⟨d1, d2⟩
          · exact ⟨d3, d4⟩
        have hsideS : Hid (∀ y, Kb G w5 y → y.cell? ⟨B, 5 + k, none⟩ = some (.int .i64 X)) := by
          intro y hy
          obtain ⟨⟨_, _, _, _, _, g5, g6, _, _⟩, _⟩ := hkeep.out y hy
          rcases hwhich with ⟨rfl, rfl, rfl, rfl⟩ | ⟨rfl, rfl, rfl, rfl⟩
          · exact g5
          · exact g6
        have hk01 : k = 0 ∨ k = 1 := by omega
        clear hwhich d0 d1 d2 d3 d4 d5 d6 d7 d8 hGr
        replace nH := hid nH
        have hGr := Nat.le_trans hlt hst.out.2.1.size
        have hsz : wr.heap.size < (wr.alloc (.cells #[.int .u32 (A : Int), .int .u32 (P : Int)] 31)).heap.size := by simp
        have hBH2 : Hid (Bw G (wr.alloc (.cells #[.int .u32 (A : Int), .int .u32 (P : Int)] 31)) u7 (be 1 K ++ ehk p c k)) := hBH.out
        clear hBH
        generalize be 1 K ++ ehk p c k = lk at hBH2 hl0 hnew
        obtain ⟨ln, hln⟩ : ∃ ln, be 1 K ++ ehk p c (k + 1) = ln := ⟨_, rfl⟩
        rw [hln] at hnew
        rcases hk01 with rfl | rfl
        all_goals
          obtain ⟨e1, e2⟩ := hcells.out
          simp only [Nat.mul_zero, Nat.add_zero, Nat.mul_one, Nat.reduceAdd] at e1 e2
          go_upto_region 10 with fail
          obtain ⟨wH, hwH⟩ : ∃ wH, wr.alloc (.cells #[.int .u32 (A : Int), .int .u32 (P : Int)] 31) = wH := ⟨_, rfl⟩
          rw [hwH] at hkH hBH2 nH hHs hsz ⊢
          obtain ⟨H, hH⟩ : ∃ H, wr.heap.size = H := ⟨_, rfl⟩
          rw [hH] at nH hsz hGr ⊢
          clear hwH hH e1 e2 hcells bH q0 q1 q2 q3 hHs hst
          have q1 := (hkeep.out wH hkH).2.2.1
          have x1 := hsideS.out wH hkH
          simp only [Nat.add_zero, Nat.reduceAdd] at x1
          replace hkH := hid hkH
          have hGH : G ≤ wH.heap.size := by omega
          by_cases hs : 0 < p.s
          · have hs' : (0 : Int) < (p.s : Int) := by omega
            obtain ⟨x, hx⟩ : ∃ x, X.toNat = x := ⟨_, rfl⟩
            have hX2 := hX.out hs
            have hwx : IntKind.u32.wrap X = (x : Int) := by rw [wrapU32]; omega
            have hput := hid (cput_ok x 1 1 rfl hBH2.out hGH (by have := hl0.out; omega) (by omega) (by omega) (by omega))
            have hnew2 := hnew.out
            unfold en1 at hnew2
            rw [if_pos hs, hx] at hnew2
            replace hnew2 := hid hnew2
            clear hx hX2 hs hX hnew
            go_wp2_with fail
            refine hput.out.mono ?_
            rintro e wa ⟨va, rfl, hBa, hka⟩
            have nHa := hka.2 _ _ _ _ nH.out (by decide)
            have g0 : wa.cell? ⟨H, 0, none⟩ = some (.int .u32 (A : Int)) := cell_of nHa rfl
            have g1 : wa.cell? ⟨H, 1, none⟩ = some (.int .u32 (P : Int)) := cell_of nHa rfl
            have hla : Hid ((lk ++ be 1 x).length ≤ 20) := by
              have := hl0.out
              show _ ≤ _
              rw [List.length_append, be_length]
              omega
            have hGa := Nat.le_trans hGH hka.1.size
            have hpa := hid (cput_ok A 4 4 rfl hBa hGa (by have := hla.out; omega) (by omega) (by omega) hA)
            replace hka := hid hka
            clear nHa hBa hput x1 q1
            go_wp2_with fail
            refine hpa.out.mono ?_
            rintro e wb ⟨vb, rfl, hBb, hkb⟩
            have hkb2 := hka.out.trans hkb
            have nHb := hkb2.2 _ _ _ _ nH.out (by decide)
            clear g0 g1 hpa
            have g0 : wb.cell? ⟨H, 0, none⟩ = some (.int .u32 (A : Int)) := cell_of nHb rfl
            have g1 : wb.cell? ⟨H, 1, none⟩ = some (.int .u32 (P : Int)) := cell_of nHb rfl
            have hGb := Nat.le_trans hGa hkb.1.size
            have hpb := hid (cput_ok P 4 4 rfl hBb hGb (by have := hla.out; rw [List.length_append, be_length]; omega) (by omega) (by omega) hP)
            replace hkb2 := hid hkb2
            clear nHb hBb hkb hka
            go_wp2_with fail
            refine hpb.out.mono ?_
            rintro e wc ⟨vc, rfl, hBc, hkc⟩
            have hfin := hid (show Bw G wc vc ln ∧ Kb G w5 wc from ⟨by rw [hnew2.out]; simpa only [List.append_assoc] using hBc, hkH.out.trans (hkb2.out.trans hkc)⟩)
            clear g0 g1 hpb hBc hkc hkb2
            go_wp2_with fail
            subst hln
            go_roundw
            case rel => exact ⟨_, by omega, by go_num, hfin⟩
            case measure => simp [intOf]; omega
          · have hs' : ¬ (0 : Int) < (p.s : Int) := by omega
            have hnew2 := hnew.out
            unfold en1 at hnew2
            rw [if_neg hs, List.nil_append] at hnew2
            replace hnew2 := hid hnew2
            have g0 : wH.cell? ⟨H, 0, none⟩ = some (.int .u32 (A : Int)) := cell_of nH.out rfl
            have g1 : wH.cell? ⟨H, 1, none⟩ = some (.int .u32 (P : Int)) := cell_of nH.out rfl
            have hpa := hid (cput_ok A 4 4 rfl hBH2.out hGH (by have := hl0.out; omega) (by omega) (by omega) hA)
            clear hs hX hnew hBH2
            go_wp2_with fail
            refine hpa.out.mono ?_
            rintro e wb ⟨vb, rfl, hBb, hkb⟩
            have nHb := hkb.2 _ _ _ _ nH.out (by decide)
            clear g0 g1 hpa
            have g0 : wb.cell? ⟨H, 0, none⟩ = some (.int .u32 (A : Int)) := cell_of nHb rfl
            have g1 : wb.cell? ⟨H, 1, none⟩ = some (.int .u32 (P : Int)) := cell_of nHb rfl
            have hGb := Nat.le_trans hGH hkb.1.size
            have hpb := hid (cput_ok P 4 4 rfl hBb hGb (by have := hl0.out; rw [List.length_append, be_length]; omega) (by omega) (by omega) hP)
            replace hkb := hid hkb
            clear nHb hBb
            go_wp2_with fail
            refine hpb.out.mono ?_
            rintro e wc ⟨vc, rfl, hBc, hkc⟩
            have hfin := hid (show Bw G wc vc ln ∧ Kb G w5 wc from ⟨by rw [hnew2.out]; simpa only [List.append_assoc] using hBc, hkH.out.trans (hkb.out.trans hkc)⟩)
            clear g0 g1 hpb hBc hkc hkb
            go_wp2_with fail
            subst hln
            go_roundw
            case rel => exact ⟨_, by omega, by go_num, hfin⟩
            case measure => simp [intOf]; omega
      · have hkh : k = p.h := by omega
        have j3 : ¬ (k : Int) < (p.h : Int) := by omega
        have hBk : Hid (Bw G wr u7 (be 1 K ++ encH p c)) := by
          have := hst.out.1
          rw [hkh] at this
          exact this
        have hkr := hid hst.out.2
        obtain ⟨W, hW⟩ : ∃ W, (c.w % 4294967296).toNat = W := ⟨_, rfl⟩
        have hwW : IntKind.u32.wrap c.w = (W : Int) := by rw [wrapU32]; omega
        have hWl : W < 4294967296 := by omega
        have hencE : Hid (enc c = (be 1 K ++ encH p c) ++ ((if p.w then be 4 W else []) ++ c.d)) := by
          show _ = _
          unfold enc
          rw [hp.out]
          show encp p c = _
          unfold encp encW
          rw [hK.out, hW, List.append_assoc]
        have hlr : Hid ((be 1 K ++ encH p c).length ≤ 19) := by
          have := ehk_len p c p.h
          show _ ≤ _
          rw [List.length_append, be_length]
          show 1 + (ehk p c p.h).length ≤ 19
          omega
        generalize be 1 K ++ encH p c = lr at hBk hlr hencE
        cases hpw : p.w
        · rw [hpw] at q2 hencE
          have henc2 : Hid (enc c = lr ++ c.d) := hencE.out
          clear hencE
          have hbyr := hbyk.out wr hkr.out
          have hGe := Nat.le_trans hlt hkr.out.1.size
          obtain ⟨i0, hif, hz0, hz1, hz2⟩ := info_parts infoU8
          have hown : wr.ownsRow G 5 1 u7 (lr).length ((lr).map bc) := hBk.out
          have hll := hlr.out
          clear hBk
          go_wp2_with (at_builtin; refine wpList_append_bytes _ rfl (.tmp 70) (.tmp 72) 27 rfl G 5 i0 Tryd.underlying27 hif hz0 hz1 hz2 _ (lr) (lr).length rfl hown _ n _ c.d rfl hn.out.symm hbyr (by omega) hGe ?_; intro v' w' ho' hg'; refine Hid.out ?_)
          have hkz := hkr.out.trans (Kb.grown hown hg' (Nat.le_refl _) hGe)
          have hbz := hid (hw5b.out.trans (hkz.1.mono (Nat.le_trans hb4.out.size hG)))
          obtain ⟨ad', cap', rfl, hb'⟩ := Bytes.ofOwns ho' (by omega)
          have hfin : Hid (Bytes w' ad' cap' (enc c) ∧ (enc c).length = (lr).length + n) := by
            rw [henc2.out]
            exact ⟨hb', by rw [List.length_append, hn.out]⟩
          clear ho' hg' hown hkz hb' hbyr
          refine hid ?_
          go_wp2_with fail
          go_returns
          exact ⟨ad', cap', by rw [hfin.out.2]; rfl, hfin.out.1, hbz.out⟩
        · rw [hpw] at q2 hencE
          have henc2 : Hid (enc c = (lr ++ be 4 W) ++ c.d) := by
            show _ = _
            rw [hencE.out, if_pos rfl, List.append_assoc]
          have hGr2 := Nat.le_trans hlt hkr.out.1.size
          have hpw2 := hid (cput_ok W 4 4 rfl hBk.out hGr2 (by have := hlr.out; omega) (by omega) (by omega) hWl)
          clear hencE hpw
          go_wp2_with fail
          refine hpw2.out.mono ?_
          rintro e wa ⟨va, rfl, hBa, hka⟩
          have hkr2 := hid (hkr.out.trans hka)
          replace hBa := hid hBa
          have hlr2 : Hid ((lr ++ be 4 W).length ≤ 23) := by
            have := hlr.out
            show _ ≤ _
            rw [List.length_append, be_length]
            omega
          obtain ⟨⟨f0, f1, f2, f3, f4, f5, f6, f7, f8⟩, ⟨t0, t1, t2, t3⟩⟩ := hkeep.out wa hkr2.out
          clear hpw2 hka d0 d1 d2 d3 d4 d5 d6 d7 d8 q0 q1 q2 q3 hBk hlr hkr
          generalize lr ++ be 4 W = ls at hBa hlr2 henc2
          have hbyr := hbyk.out wa hkr2.out
          have hGe := Nat.le_trans hlt hkr2.out.1.size
          obtain ⟨i0, hif, hz0, hz1, hz2⟩ := info_parts infoU8
          have hown : wa.ownsRow G 5 1 va (ls).length ((ls).map bc) := hBa.out
          have hll := hlr2.out
          clear hBa
          go_wp2_with (at_builtin; refine wpList_append_bytes _ rfl (.tmp 70) (.tmp 72) 27 rfl G 5 i0 Tryd.underlying27 hif hz0 hz1 hz2 _ (ls) (ls).length rfl hown _ n _ c.d rfl hn.out.symm hbyr (by omega) hGe ?_; intro v' w' ho' hg'; refine Hid.out ?_)
          have hkz := hkr2.out.trans (Kb.grown hown hg' (Nat.le_refl _) hGe)
          have hbz := hid (hw5b.out.trans (hkz.1.mono (Nat.le_trans hb4.out.size hG)))
          obtain ⟨ad', cap', rfl, hb'⟩ := Bytes.ofOwns ho' (by omega)
          have hfin : Hid (Bytes w' ad' cap' (enc c) ∧ (enc c).length = (ls).length + n) := by
            rw [henc2.out]
            exact ⟨hb', by rw [List.length_append, hn.out]⟩
          clear ho' hg' hown hkz hb' hbyr
          refine hid ?_
          go_wp2_with fail
          go_returns
          exact ⟨ad', cap', by rw [hfin.out.2]; rfl, hfin.out.1, hbz.out⟩

end Go.Proofs.YtmmpkhoejcfdmaaDoor
