/- The document's Encode, walked. -/
import Derived.Test.YtmmpkhoejcfdmaaDoorHas19
import Derived.Test.YtmmpkhoejcfdmaaDoorRPut
namespace Go.Proofs.YtmmpkhoejcfdmaaDoor
open Go.RowKit
set_option linter.unusedVariables false

theorem own_mono {w : World} {b b' e n : Nat} {v : Value} {xs : List Value} (h : w.ownsRow b' e 1 v n xs) (hb : b ≤ b') : w.ownsRow b e 1 v n xs := by
  refine ⟨h.1, ?_⟩
  rcases h.2 with h2 | ⟨g, cap, cur, r1, r2, r3⟩
  · exact .inl h2
  · exact .inr ⟨g, cap, cur, r1, Nat.le_trans hb r2, r3⟩

theorem bw_below {G : Nat} {w w' : World} {v : Value} {l : List UInt8} (h : Bw G w v l) (hb : Below w.heap.size w w') : Bw G w' v l := ownsRow_below h hb

theorem rput_bw {G : Nat} {w : World} {v : Value} {l : List UInt8} (hB : Bw G w v l) (x N : Nat) (hG : G ≤ w.heap.size) (hl : l.length ≤ 1000000) (h1 : 1 ≤ N) (h8 : N ≤ 8) (hx : x < 18446744073709551616) :
    Calls Tryd.prog 25 #[v, .int .u64 (x : Int), .int .i64 (N : Int)] w fun e w' => ∃ v', e = .returned v' ∧ Bw G w' v' (l ++ be N x) ∧ Below w.heap.size w w' := by
  obtain ⟨ad, cap, rfl, hb⟩ := hB.bytes (by omega)
  refine (rput_own ad cap l x N w hb (by omega) h1 h8 hx).mono ?_
  rintro e w' ⟨v', rfl, ho, hbel⟩
  refine ⟨v', rfl, ?_, hbel⟩
  show World.ownsRow _ _ _ _ _ _ _
  rw [List.length_append, be_length]
  exact own_mono ho hG

theorem own_1 (w : World) (K : Nat) (hK : K < 256) : Bw w.heap.size (w.alloc (.cells #[.int .u8 (K : Int)] 5)) (.slice (some ⟨w.heap.size, 0, none⟩) 1 1) (be 1 K) := by
  have h := ownsRow_one w w.heap.size 5 K (Nat.le_refl _)
  have e : ((K : Int) % 256) = (K : Int) := by omega
  rw [e] at h
  show World.ownsRow _ _ _ _ _ _ _
  rw [be_length]
  simpa [be] using h

theorem bytes_1 (w : World) (K : Nat) (hK : K < 256) : Bytes (w.alloc (.cells #[.int .u8 (K : Int)] 5)) (some ⟨w.heap.size, 0, none⟩) 1 (be 1 K) :=
  Bytes.ofRow (own_1 w K hK) (by decide)

/-- So many handles as bytes. -/
def rhk (p : Pt) (c : Cm) (k : Nat) : List UInt8 := (if 0 < k then en1 p.s c.s0 c.a0 c.p0 else []) ++ (if 1 < k then en1 p.s c.s1 c.a1 c.p1 else [])

theorem rhk_len (p : Pt) (c : Cm) (k : Nat) : (rhk p c k).length ≤ 18 := by
  unfold rhk
  have h : eh p.s ≤ 9 := by unfold eh; split <;> omega
  rw [List.length_append]
  split <;> split <;> simp only [en1_len, List.length_nil] <;> omega

theorem sd_pos (p : Pt) : 0 ≤ sd p ↔ 0 < p.s := by
  unfold sd
  split
  · omega
  · split <;> omega

theorem wu8 (i : Int) (h0 : 0 ≤ i) (h : i < 256) : IntKind.u8.wrap i = i := by
  rw [IntKind.wrap_u8]
  omega

set_option maxRecDepth 100000 in
set_option maxHeartbeats 3000000 in
theorem rencode_ok (c : Cm) (ad : Option Addr) (n cap : Nat) (hn : c.d.length = n) (hc : chk c = 0) (hw : Wf c) (w : World) (hby : Bytes w ad cap c.d) (hnl : n ≤ 6000) :
    Calls Tryd.prog 15 #[cv c (.slice ad n cap)] w fun e w' => ∃ ad' cap', e = .returned (.slice ad' (enc c).length cap') ∧ Bytes w' ad' cap' (enc c) ∧ Below w.heap.size w w' := by
  obtain ⟨p, hp, hf, ha, _⟩ := chk_zero.1 hc
  have hB1 := RB.mk (new_of w (ccs c (.slice ad n cap)) 29)
  have hb := hid (balloc w (.cells (ccs c (.slice ad n cap)) 29))
  have hpk := hid (has_some hp)
  replace hn := hid hn
  replace hby := hid hby
  replace hp := hid hp
  replace hf := hid hf
  replace hw := hid hw
  clear hc ha
  go_enter Tryd.func15, Tryd.ntmps15
  go_upto_region 1 with fail
  obtain ⟨w1, hw1⟩ : ∃ w1, w.alloc (.cells (ccs c (.slice ad n cap)) 29) = w1 := ⟨_, rfl⟩
  rw [hw1] at hB1 hb ⊢
  obtain ⟨B, hB⟩ : ∃ B, w.heap.size = B := ⟨_, rfl⟩
  rw [hB] at hB1 ⊢
  clear hw1
  replace hB := hid hB
  obtain ⟨c0, c1, c2, c3, c4, c5, c6, c7, c8⟩ := hB1.cells
  replace hB1 := hid hB1
  go_wp2_with fail
  refine (hpk.out _).mono ?_
  rintro e w2 ⟨rfl, b2⟩
  have hb2 := hid (hb.out.trans (b2.mono hb.out.size))
  have hRB2 := hid (hB1.out.more b2)
  have hR := hid (fun (y : World) (hy : Below w2.heap.size w2 y) => hRB2.out.more hy)
  clear hb hB1 b2 c0 c1 c2 c3 c4 c5 c6 c7 c8 hpk
  obtain ⟨K, hK⟩ : ∃ K, c.code.toNat = K := ⟨_, rfl⟩
  have hcl := pt_lt hp.out
  have hcK : c.code = (K : Int) := by omega
  have hk8 : IntKind.u8.wrap c.code = (K : Int) := by rw [wu8 _ (by omega) (by omega)]; omega
  have hK17 : K < 256 := by omega
  replace hK := hid hK
  replace hcK := hid hcK
  have bo := balloc w2 (.cells #[.int .u8 (K : Int)] 5)
  have hown := own_1 w2 K hK17
  have hG2 : w2.heap.size ≤ w2.heap.size := Nat.le_refl _
  obtain ⟨c0, c1, c2, c3, c4, c5, c6, c7, c8⟩ := hRB2.out.cells
  clear hcl
  go_upto_region 3 with fail
  obtain ⟨w3, hw3⟩ : ∃ w3, w2.alloc (.cells #[.int .u8 (K : Int)] 5) = w3 := ⟨_, rfl⟩
  rw [hw3] at bo hown ⊢
  obtain ⟨G, hG⟩ : ∃ G, w2.heap.size = G := ⟨_, rfl⟩
  rw [hG] at hown ⊢
  rw [hG] at hG2
  clear hw3 c0 c1 c2 c3 c4 c5 c6 c7 c8
  have hGh := hid hG
  clear hG
  have hG2 : G ≤ w2.heap.size := by rw [hGh.out]; exact Nat.le_refl _
  have hst0 : Hid (Bw G w3 (.slice (some ⟨G, 0, none⟩) 1 1) (be 1 K) ∧ Below w2.heap.size w2 w3) := ⟨hown, bo⟩
  clear hown bo
  have hh2 := (pt_is hp.out).1
  have h0 : (0 : Int) ≤ (p.h : Int) := by omega
  have h2 : (p.h : Int) ≤ 2 := by omega
  have hs3 := (pt_is hp.out).2.1
  go_wp2_with fail
  go_loopw [7, 8] (fun u s8 wr => ∃ k : Nat, k ≤ p.h ∧ s8 = .int .i64 (k : Int) ∧ Hid (Bw G wr u (be 1 K ++ rhk p c k) ∧ Below w2.heap.size w2 wr)) (fun _ s8 _ => p.h - (intOf s8).toNat)
  case atStart => exact ⟨0, by omega, by go_num, by simpa [rhk] using hst0.out.1, hst0.out.2⟩
  case round =>
    obtain ⟨k, hk, rfl, hst⟩ := hrel
    clear hst0
    have hst2 := hid hst.out.2
    have hlk : Hid ((be 1 K ++ rhk p c k).length ≤ 19) := by
      have := rhk_len p c k
      show _ ≤ _
      rw [List.length_append, be_length]
      omega
    obtain ⟨c0, c1, c2, c3, c4, c5, c6, c7, c8⟩ := (hR.out wr hst.out.2).cells
    rcases Nat.lt_or_ge k p.h with hkp | hkp
    · have j1 : (0 : Int) ≤ (k : Int) := by omega
      have j2 : (k : Int) < (p.h : Int) := by omega
      have hXAP : ∃ (X : Int) (A P : Nat), (k = 0 ∧ X = c.s0 ∧ A = c.a0 ∧ P = c.p0 ∨ k = 1 ∧ X = c.s1 ∧ A = c.a1 ∧ P = c.p1) ∧ A < 4294967296 ∧ P < 4294967296 ∧ (0 < p.s → 0 ≤ X ∧ X < 3) ∧ Hid (be 1 K ++ rhk p c (k + 1) = (be 1 K ++ rhk p c k) ++ en1 p.s X A P) := by
        have hff := fit_iff.1 hf.out
        rcases (by omega : k = 0 ∨ k = 1) with rfl | rfl
        · exact ⟨c.s0, c.a0, c.p0, .inl ⟨rfl, rfl, rfl, rfl⟩, hw.out.a0, hw.out.p0, fun q => by omega, hid (by simp [rhk])⟩
        · exact ⟨c.s1, c.a1, c.p1, .inr ⟨rfl, rfl, rfl, rfl⟩, hw.out.a1, hw.out.p1, fun q => by omega, hid (by simp [rhk])⟩
      obtain ⟨X, A, P, hwhich, hA, hP, hX, hnew⟩ := hXAP
      replace hX := hid hX
      have hBu : Hid (Bw G wr u7 (be 1 K ++ rhk p c k)) := hst.out.1
      clear hst
      generalize be 1 K ++ rhk p c k = lk at hBu hlk hnew
      obtain ⟨ln, hln⟩ : ∃ ln, be 1 K ++ rhk p c (k + 1) = ln := ⟨_, rfl⟩
      rw [hln] at hnew
      have hwA := wu64 A (by omega)
      have hwP := wu64 P (by omega)
      replace hwhich := hid hwhich
      rcases (by omega : k = 0 ∨ k = 1) with rfl | rfl
      · rcases hwhich.out with ⟨_, rfl, rfl, rfl⟩ | ⟨q, _⟩
        · clear hwhich
          by_cases hs : 0 < p.s
          · have hsd := (sd_pos p).2 hs
            obtain ⟨x, hx⟩ : ∃ x, (c.s0).toNat = x := ⟨_, rfl⟩
            have hX2 := hX.out hs
            have hwx : IntKind.u8.wrap c.s0 = (x : Int) := by rw [wu8 _ (by omega) (by omega)]; omega
            have hx2 : x < 256 := by omega
            have hnew2 := hnew.out
            unfold en1 at hnew2
            rw [if_pos hs, hx] at hnew2
            replace hnew2 := hid hnew2
            have bo := balloc wr (.cells #[.int .u8 (x : Int)] 5)
            have hown : (wr.alloc (.cells #[.int .u8 (x : Int)] 5)).ownsRow G 5 1 u7 lk.length (lk.map bc) := bw_below hBu.out bo
            have hbx := bytes_1 wr x hx2
            have hGx : G ≤ (wr.alloc (.cells #[.int .u8 (x : Int)] 5)).heap.size := Nat.le_trans hG2 (Nat.le_trans hst2.out.size bo.size)
            have hll := hlk.out
            obtain ⟨i0, hif, hz0, hz1, hz2⟩ := info_parts infoU8
            have bo2 := hid (hst2.out.trans (bo.mono hst2.out.size))
            clear hx hX2 hs hX hnew bo
            go_wp2_with (at_builtin; refine wpList_append_bytes _ rfl (.tmp 28) (.tmp 34) 27 rfl G 5 i0 Tryd.underlying27 hif hz0 hz1 hz2 u7 lk lk.length rfl hown _ 1 1 (be 1 x) rfl rfl hbx (by omega) hGx ?_; intro v4 w4 ho4 hg4; refine Hid.out ?_)
            have hst4 := hid (bo2.out.grown hg4 bo2.out.size (fun k hk => by rw [hGh.out]; exact own_from hown k hk))
            have hB4 : Hid (Bw G w4 v4 (lk ++ be 1 x)) := by
              show World.ownsRow _ _ _ _ _ _ _
              rw [List.length_append, be_length]
              exact ho4
            have hl4 : Hid ((lk ++ be 1 x).length ≤ 20) := by
              have := hlk.out
              show _ ≤ _
              rw [List.length_append, be_length]
              omega
            clear ho4 hg4 hown hbx hif hz0 hz1 hz2 bo2 c0 c1 c2 c3 c4 c5 c6 c7 c8
            refine hid ?_
            have hS := hid (fun (y : World) (hy : Below w4.heap.size w4 y) => (hR.out y (hst4.out.trans (hy.mono hst4.out.size))).cells)
            have hGw := Nat.le_trans hG2 hst4.out.size
            have hp1 := hid (rput_bw (bw_below hB4.out (Below.refl w4.heap.size w4).drew) c.a0 4 hGw (by have := hl4.out; omega) (by omega) (by omega) (by omega))
            obtain ⟨c0, c1, c2, c3, c4, c5, c6, c7, c8⟩ := hS.out w4 (Below.refl _ _)
            go_upto_region 8 with fail
            go_region_held3 (fun y => y.cell? ⟨B, 0, none⟩ = some (.int .i64 c.code) ∧ y.cell? ⟨B, 1, none⟩ = some (.int .u32 (c.a0 : Int)) ∧ y.cell? ⟨B, 2, none⟩ = some (.int .u32 (c.p0 : Int)) ∧ y.cell? ⟨B, 3, none⟩ = some (.int .u32 (c.a1 : Int)) ∧ y.cell? ⟨B, 4, none⟩ = some (.int .u32 (c.p1 : Int)) ∧ y.cell? ⟨B, 5, none⟩ = some (.int .i64 c.s0) ∧ y.cell? ⟨B, 6, none⟩ = some (.int .i64 c.s1) ∧ y.cell? ⟨B, 7, none⟩ = some (.int .i32 c.w) ∧ y.cell? ⟨B, 8, none⟩ = some (.slice ad n cap)) (first | with_reducible exact hS.out _ (Below.refl _ _).drew | with_reducible exact hS.out _ bA | with_reducible exact hS.out _ bB | go_keep)
              (first
              | (go_at_call 25; refine hp2.out.mono ?_; rintro e2 y2 ⟨vb, rfl, hBb, bb⟩; have bB : Below w4.heap.size w4 y2 := bA.trans (bb.mono bA.size); clear bb)
              | (go_at_call 25; refine hp1.out.mono ?_; rintro e1 y1 ⟨va, rfl, hBa, ba⟩; have bA : Below w4.heap.size w4 y1 := (Below.refl w4.heap.size w4).drew.trans ba; have hp2 := hid (rput_bw hBa c.p0 4 (Nat.le_trans hGw bA.size) (by have := hl4.out; rw [List.length_append, be_length]; omega) (by omega) (by omega) (by omega)); clear ba hBa))
            all_goals
              try (rename_i hHd; clear hHd)
              have hfin := hid (show Bw G y2 vb ln ∧ Below w2.heap.size w2 y2 from ⟨by rw [hnew2.out]; simpa only [List.append_assoc] using hBb, hst4.out.trans (bB.mono hst4.out.size)⟩)
              clear hp1 hp2 bA bB hBb hS c0 c1 c2 c3 c4 c5 c6 c7 c8
              subst hln
              go_wp2_with fail
              go_roundw
              case rel => exact ⟨_, by omega, by go_num, hfin⟩
              case measure => simp [intOf]; omega
          · have hsd : ¬ (0 : Int) ≤ sd p := fun q => hs ((sd_pos p).1 q)
            have hnew2 := hnew.out
            unfold en1 at hnew2
            rw [if_neg hs, List.nil_append] at hnew2
            replace hnew2 := hid hnew2
            clear hs hX hnew c0 c1 c2 c3 c4 c5 c6 c7 c8
            have hS := hid (fun (y : World) (hy : Below wr.heap.size wr y) => (hR.out y (hst2.out.trans (hy.mono hst2.out.size))).cells)
            have hGw := Nat.le_trans hG2 hst2.out.size
            have hp1 := hid (rput_bw (bw_below hBu.out (Below.refl wr.heap.size wr).drew) c.a0 4 hGw (by have := hlk.out; omega) (by omega) (by omega) (by omega))
            obtain ⟨c0, c1, c2, c3, c4, c5, c6, c7, c8⟩ := hS.out wr (Below.refl _ _)
            go_upto_region 8 with fail
            go_region_held3 (fun y => y.cell? ⟨B, 0, none⟩ = some (.int .i64 c.code) ∧ y.cell? ⟨B, 1, none⟩ = some (.int .u32 (c.a0 : Int)) ∧ y.cell? ⟨B, 2, none⟩ = some (.int .u32 (c.p0 : Int)) ∧ y.cell? ⟨B, 3, none⟩ = some (.int .u32 (c.a1 : Int)) ∧ y.cell? ⟨B, 4, none⟩ = some (.int .u32 (c.p1 : Int)) ∧ y.cell? ⟨B, 5, none⟩ = some (.int .i64 c.s0) ∧ y.cell? ⟨B, 6, none⟩ = some (.int .i64 c.s1) ∧ y.cell? ⟨B, 7, none⟩ = some (.int .i32 c.w) ∧ y.cell? ⟨B, 8, none⟩ = some (.slice ad n cap)) (first | with_reducible exact hS.out _ (Below.refl _ _).drew | with_reducible exact hS.out _ bA | with_reducible exact hS.out _ bB | go_keep)
              (first
              | (go_at_call 25; refine hp2.out.mono ?_; rintro e2 y2 ⟨vb, rfl, hBb, bb⟩; have bB : Below wr.heap.size wr y2 := bA.trans (bb.mono bA.size); clear bb)
              | (go_at_call 25; refine hp1.out.mono ?_; rintro e1 y1 ⟨va, rfl, hBa, ba⟩; have bA : Below wr.heap.size wr y1 := (Below.refl wr.heap.size wr).drew.trans ba; have hp2 := hid (rput_bw hBa c.p0 4 (Nat.le_trans hGw bA.size) (by have := hlk.out; rw [List.length_append, be_length]; omega) (by omega) (by omega) (by omega)); clear ba hBa))
            all_goals
              try (rename_i hHd; clear hHd)
              have hfin := hid (show Bw G y2 vb ln ∧ Below w2.heap.size w2 y2 from ⟨by rw [hnew2.out]; simpa only [List.append_assoc] using hBb, hst2.out.trans (bB.mono hst2.out.size)⟩)
              clear hp1 hp2 bA bB hBb hS c0 c1 c2 c3 c4 c5 c6 c7 c8
              subst hln
              go_wp2_with fail
              go_roundw
              case rel => exact ⟨_, by omega, by go_num, hfin⟩
              case measure => simp [intOf]; omega
        · omega
      · rcases hwhich.out with ⟨q, _⟩ | ⟨_, rfl, rfl, rfl⟩
        · omega
        · clear hwhich
          by_cases hs : 0 < p.s
          · have hsd := (sd_pos p).2 hs
            obtain ⟨x, hx⟩ : ∃ x, (c.s1).toNat = x := ⟨_, rfl⟩
            have hX2 := hX.out hs
            have hwx : IntKind.u8.wrap c.s1 = (x : Int) := by rw [wu8 _ (by omega) (by omega)]; omega
            have hx2 : x < 256 := by omega
            have hnew2 := hnew.out
            unfold en1 at hnew2
            rw [if_pos hs, hx] at hnew2
            replace hnew2 := hid hnew2
            have bo := balloc wr (.cells #[.int .u8 (x : Int)] 5)
            have hown : (wr.alloc (.cells #[.int .u8 (x : Int)] 5)).ownsRow G 5 1 u7 lk.length (lk.map bc) := bw_below hBu.out bo
            have hbx := bytes_1 wr x hx2
            have hGx : G ≤ (wr.alloc (.cells #[.int .u8 (x : Int)] 5)).heap.size := Nat.le_trans hG2 (Nat.le_trans hst2.out.size bo.size)
            have hll := hlk.out
            obtain ⟨i0, hif, hz0, hz1, hz2⟩ := info_parts infoU8
            have bo2 := hid (hst2.out.trans (bo.mono hst2.out.size))
            clear hx hX2 hs hX hnew bo
            go_wp2_with (at_builtin; refine wpList_append_bytes _ rfl (.tmp 28) (.tmp 34) 27 rfl G 5 i0 Tryd.underlying27 hif hz0 hz1 hz2 u7 lk lk.length rfl hown _ 1 1 (be 1 x) rfl rfl hbx (by omega) hGx ?_; intro v4 w4 ho4 hg4; refine Hid.out ?_)
            have hst4 := hid (bo2.out.grown hg4 bo2.out.size (fun k hk => by rw [hGh.out]; exact own_from hown k hk))
            have hB4 : Hid (Bw G w4 v4 (lk ++ be 1 x)) := by
              show World.ownsRow _ _ _ _ _ _ _
              rw [List.length_append, be_length]
              exact ho4
            have hl4 : Hid ((lk ++ be 1 x).length ≤ 20) := by
              have := hlk.out
              show _ ≤ _
              rw [List.length_append, be_length]
              omega
            clear ho4 hg4 hown hbx hif hz0 hz1 hz2 bo2 c0 c1 c2 c3 c4 c5 c6 c7 c8
            refine hid ?_
            have hS := hid (fun (y : World) (hy : Below w4.heap.size w4 y) => (hR.out y (hst4.out.trans (hy.mono hst4.out.size))).cells)
            have hGw := Nat.le_trans hG2 hst4.out.size
            have hp1 := hid (rput_bw (bw_below hB4.out (Below.refl w4.heap.size w4).drew) c.a1 4 hGw (by have := hl4.out; omega) (by omega) (by omega) (by omega))
            obtain ⟨c0, c1, c2, c3, c4, c5, c6, c7, c8⟩ := hS.out w4 (Below.refl _ _)
            go_upto_region 8 with fail
            go_region_held3 (fun y => y.cell? ⟨B, 0, none⟩ = some (.int .i64 c.code) ∧ y.cell? ⟨B, 1, none⟩ = some (.int .u32 (c.a0 : Int)) ∧ y.cell? ⟨B, 2, none⟩ = some (.int .u32 (c.p0 : Int)) ∧ y.cell? ⟨B, 3, none⟩ = some (.int .u32 (c.a1 : Int)) ∧ y.cell? ⟨B, 4, none⟩ = some (.int .u32 (c.p1 : Int)) ∧ y.cell? ⟨B, 5, none⟩ = some (.int .i64 c.s0) ∧ y.cell? ⟨B, 6, none⟩ = some (.int .i64 c.s1) ∧ y.cell? ⟨B, 7, none⟩ = some (.int .i32 c.w) ∧ y.cell? ⟨B, 8, none⟩ = some (.slice ad n cap)) (first | with_reducible exact hS.out _ (Below.refl _ _).drew | with_reducible exact hS.out _ bA | with_reducible exact hS.out _ bB | go_keep)
              (first
              | (go_at_call 25; refine hp2.out.mono ?_; rintro e2 y2 ⟨vb, rfl, hBb, bb⟩; have bB : Below w4.heap.size w4 y2 := bA.trans (bb.mono bA.size); clear bb)
              | (go_at_call 25; refine hp1.out.mono ?_; rintro e1 y1 ⟨va, rfl, hBa, ba⟩; have bA : Below w4.heap.size w4 y1 := (Below.refl w4.heap.size w4).drew.trans ba; have hp2 := hid (rput_bw hBa c.p1 4 (Nat.le_trans hGw bA.size) (by have := hl4.out; rw [List.length_append, be_length]; omega) (by omega) (by omega) (by omega)); clear ba hBa))
            all_goals
              try (rename_i hHd; clear hHd)
              have hfin := hid (show Bw G y2 vb ln ∧ Below w2.heap.size w2 y2 from ⟨by rw [hnew2.out]; simpa only [List.append_assoc] using hBb, hst4.out.trans (bB.mono hst4.out.size)⟩)
              clear hp1 hp2 bA bB hBb hS c0 c1 c2 c3 c4 c5 c6 c7 c8
              subst hln
              go_wp2_with fail
              go_roundw
              case rel => exact ⟨_, by omega, by go_num, hfin⟩
              case measure => simp [intOf]; omega
          · have hsd : ¬ (0 : Int) ≤ sd p := fun q => hs ((sd_pos p).1 q)
            have hnew2 := hnew.out
            unfold en1 at hnew2
            rw [if_neg hs, List.nil_append] at hnew2
            replace hnew2 := hid hnew2
            clear hs hX hnew c0 c1 c2 c3 c4 c5 c6 c7 c8
            have hS := hid (fun (y : World) (hy : Below wr.heap.size wr y) => (hR.out y (hst2.out.trans (hy.mono hst2.out.size))).cells)
            have hGw := Nat.le_trans hG2 hst2.out.size
            have hp1 := hid (rput_bw (bw_below hBu.out (Below.refl wr.heap.size wr).drew) c.a1 4 hGw (by have := hlk.out; omega) (by omega) (by omega) (by omega))
            obtain ⟨c0, c1, c2, c3, c4, c5, c6, c7, c8⟩ := hS.out wr (Below.refl _ _)
            go_upto_region 8 with fail
            go_region_held3 (fun y => y.cell? ⟨B, 0, none⟩ = some (.int .i64 c.code) ∧ y.cell? ⟨B, 1, none⟩ = some (.int .u32 (c.a0 : Int)) ∧ y.cell? ⟨B, 2, none⟩ = some (.int .u32 (c.p0 : Int)) ∧ y.cell? ⟨B, 3, none⟩ = some (.int .u32 (c.a1 : Int)) ∧ y.cell? ⟨B, 4, none⟩ = some (.int .u32 (c.p1 : Int)) ∧ y.cell? ⟨B, 5, none⟩ = some (.int .i64 c.s0) ∧ y.cell? ⟨B, 6, none⟩ = some (.int .i64 c.s1) ∧ y.cell? ⟨B, 7, none⟩ = some (.int .i32 c.w) ∧ y.cell? ⟨B, 8, none⟩ = some (.slice ad n cap)) (first | with_reducible exact hS.out _ (Below.refl _ _).drew | with_reducible exact hS.out _ bA | with_reducible exact hS.out _ bB | go_keep)
              (first
              | (go_at_call 25; refine hp2.out.mono ?_; rintro e2 y2 ⟨vb, rfl, hBb, bb⟩; have bB : Below wr.heap.size wr y2 := bA.trans (bb.mono bA.size); clear bb)
              | (go_at_call 25; refine hp1.out.mono ?_; rintro e1 y1 ⟨va, rfl, hBa, ba⟩; have bA : Below wr.heap.size wr y1 := (Below.refl wr.heap.size wr).drew.trans ba; have hp2 := hid (rput_bw hBa c.p1 4 (Nat.le_trans hGw bA.size) (by have := hlk.out; rw [List.length_append, be_length]; omega) (by omega) (by omega) (by omega)); clear ba hBa))
            all_goals
              try (rename_i hHd; clear hHd)
              have hfin := hid (show Bw G y2 vb ln ∧ Below w2.heap.size w2 y2 from ⟨by rw [hnew2.out]; simpa only [List.append_assoc] using hBb, hst2.out.trans (bB.mono hst2.out.size)⟩)
              clear hp1 hp2 bA bB hBb hS c0 c1 c2 c3 c4 c5 c6 c7 c8
              subst hln
              go_wp2_with fail
              go_roundw
              case rel => exact ⟨_, by omega, by go_num, hfin⟩
              case measure => simp [intOf]; omega
    · have hkh : k = p.h := by omega
      have j3 : ¬ (k : Int) < (p.h : Int) := by omega
      have hBk : Hid (Bw G wr u7 (be 1 K ++ encH p c)) := by
        have := hst.out.1
        rw [hkh] at this
        exact this
      have hlr : Hid ((be 1 K ++ encH p c).length ≤ 19) := by
        have := rhk_len p c p.h
        show _ ≤ _
        rw [List.length_append, be_length]
        show 1 + (rhk p c p.h).length ≤ 19
        omega
      obtain ⟨W, hW⟩ : ∃ W, (c.w % 4294967296).toNat = W := ⟨_, rfl⟩
      have hwW : IntKind.u32.wrap c.w = (W : Int) := by rw [wrapU32]; omega
      have hWl : W < 4294967296 := by omega
      have hwW2 := wu64 W (by omega)
      have hencE : Hid (enc c = (be 1 K ++ encH p c) ++ ((if p.w then be 4 W else []) ++ c.d)) := by
        show _ = _
        unfold enc
        rw [hp.out]
        show encp p c = _
        unfold encp encW
        rw [hK.out, hW, List.append_assoc]
      clear hlk hst hW
      generalize be 1 K ++ encH p c = lr at hBk hlr hencE
      cases hpw : p.w
      · rw [hpw] at hencE
        have henc2 : Hid (enc c = lr ++ c.d) := hencE.out
        clear hencE
        have hbyr := hby.out.below (hb2.out.trans (hst2.out.mono hb2.out.size))
        have hGe := Nat.le_trans hG2 hst2.out.size
        obtain ⟨i0, hif, hz0, hz1, hz2⟩ := info_parts infoU8
        have hown : wr.ownsRow G 5 1 u7 (lr).length ((lr).map bc) := hBk.out
        have hll := hlr.out
        clear hBk
        go_wp2_with (at_builtin; refine wpList_append_bytes _ rfl (.tmp 58) (.tmp 60) 27 rfl G 5 i0 Tryd.underlying27 hif hz0 hz1 hz2 u7 (lr) (lr).length rfl hown _ n _ c.d rfl hn.out.symm hbyr (by omega) hGe ?_; intro v' w' ho' hg'; refine Hid.out ?_)
        have hkz := hst2.out.grown hg' hst2.out.size (fun k hk => by rw [hGh.out]; exact own_from hown k hk)
        have hbz := hid (hb2.out.trans (hkz.mono hb2.out.size))
        obtain ⟨ad', cap', rfl, hb'⟩ := Bytes.ofOwns ho' (by omega)
        have hfin : Hid (Bytes w' ad' cap' (enc c) ∧ (enc c).length = (lr).length + n) := by
          rw [henc2.out]
          exact ⟨hb', by rw [List.length_append, hn.out]⟩
        clear ho' hg' hown hkz hb' hbyr
        refine hid ?_
        go_wp2_with fail
        go_ret
        exact ⟨ad', cap', by rw [hfin.out.2]; rfl, hfin.out.1, hbz.out⟩
      · rw [hpw] at hencE
        have henc2 : Hid (enc c = (lr ++ be 4 W) ++ c.d) := by
          show _ = _
          rw [hencE.out, if_pos rfl, List.append_assoc]
        have hpw2 := hid (rput_bw hBk.out W 4 (Nat.le_trans hG2 hst2.out.size) (by have := hlr.out; omega) (by omega) (by omega) (by omega))
        clear hencE hpw
        go_wp2_with fail
        refine hpw2.out.mono ?_
        rintro e wa ⟨va, rfl, hBa, ba⟩
        have hst3 := hid (hst2.out.trans (ba.mono hst2.out.size))
        replace hBa := hid hBa
        have hlr2 : Hid ((lr ++ be 4 W).length ≤ 23) := by
          have := hlr.out
          show _ ≤ _
          rw [List.length_append, be_length]
          omega
        clear hpw2 ba c0 c1 c2 c3 c4 c5 c6 c7 c8 hBk hlr hst2
        obtain ⟨c0, c1, c2, c3, c4, c5, c6, c7, c8⟩ := (hR.out wa hst3.out).cells
        generalize lr ++ be 4 W = ls at hBa hlr2 henc2
        have hbyr := hby.out.below (hb2.out.trans (hst3.out.mono hb2.out.size))
        have hGe := Nat.le_trans hG2 hst3.out.size
        obtain ⟨i0, hif, hz0, hz1, hz2⟩ := info_parts infoU8
        have hown : wa.ownsRow G 5 1 va (ls).length ((ls).map bc) := hBa.out
        have hll := hlr2.out
        clear hBa
        go_wp2_with (at_builtin; refine wpList_append_bytes _ rfl (.tmp 58) (.tmp 60) 27 rfl G 5 i0 Tryd.underlying27 hif hz0 hz1 hz2 va (ls) (ls).length rfl hown _ n _ c.d rfl hn.out.symm hbyr (by omega) hGe ?_; intro v' w' ho' hg'; refine Hid.out ?_)
        have hkz := hst3.out.grown hg' hst3.out.size (fun k hk => by rw [hGh.out]; exact own_from hown k hk)
        have hbz := hid (hb2.out.trans (hkz.mono hb2.out.size))
        obtain ⟨ad', cap', rfl, hb'⟩ := Bytes.ofOwns ho' (by omega)
        have hfin : Hid (Bytes w' ad' cap' (enc c) ∧ (enc c).length = (ls).length + n) := by
          rw [henc2.out]
          exact ⟨hb', by rw [List.length_append, hn.out]⟩
        clear ho' hg' hown hkz hb' hbyr
        refine hid ?_
        go_wp2_with fail
        go_ret
        exact ⟨ad', cap', by rw [hfin.out.2]; rfl, hfin.out.1, hbz.out⟩

end Go.Proofs.YtmmpkhoejcfdmaaDoor
