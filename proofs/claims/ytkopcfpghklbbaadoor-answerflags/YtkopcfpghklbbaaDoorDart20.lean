/- A text's darts and data, walked. -/
import Derived.Test.YtkopcfpghklbbaaDoorWord20
namespace Go.Proofs.YtkopcfpghklbbaaDoor
open Go.RowKit
set_option linter.unusedVariables false

set_option maxRecDepth 100000 in
set_option maxHeartbeats 4000000 in
theorem dart_ok {b : Nat} {l : List UInt8} (x : Dt) (ha : x.a < 4294967296) (hp : x.p < 4294967296) (hs0 : -9223372036854775808 ≤ x.s) (hs1 : x.s ≤ 9223372036854775807) {w : World} (ht : Tab b w) (h : Tx b l w) (hl : l.length ≤ 500000000) :
    Calls Tryd.prog 30 #[.pointer (some ⟨b, 0, none⟩), .agg #[.int .u32 (x.a : Int), .int .u32 (x.p : Int), .int .i64 x.s]] w fun e w' => e = .returned (.tuple #[]) ∧ Tx b (pw l (nmd x)) w' ∧ Ok2 b w w' := by
  obtain ⟨a, p, s⟩ := x
  dsimp only at ha hp hs0 hs1 ⊢
  have hbl := h.lt
  have b1 := balloc20 w (.cells #[.int .u32 (a : Int), .int .u32 (p : Int), .int .i64 s] 65)
  have nH := new_of20 w #[.int .u32 (a : Int), .int .u32 (p : Int), .int .i64 s] 65
  have h1 := h.more b1
  have t1 := ht.more (b1.mono (Nat.le_of_lt hbl))
  have k1 := Ok2.ofBelow b1 (Nat.le_of_lt hbl)
  have hnu := hid (handle_ok (b := b) (l := l) a p ha hp t1 h1 (by omega))
  have hpl := Lib.itoa_length_le (p : Int) (by omega) (by omega)
  have hal := Lib.itoa_length_le (a : Int) (by omega) (by omega)
  have hsl := Lib.itoa_length_le s hs0 hs1
  have hp1 := pw_len l (nmh (a, p))
  have hnl : (nmh (a, p)).length ≤ 43 := by unfold nmh; simp only [List.length_append, List.length_cons]; omega
  have hwb : Hid (∀ w2, Tx b (pw l (nmh (a, p))) w2 → Calls Tryd.prog 60 #[.pointer (some ⟨b, 0, none⟩), .int .u8 46] w2 fun e w' => e = .returned .nilIface ∧ Tx b (pw l (nmh (a, p)) ++ [UInt8.ofNat 46]) w' ∧ Ok2 b w2 w') := fun w2 q => wb_ok 46 (by omega) rfl q (by omega)
  have hfu : Hid (∀ w3, Tab b w3 → Calls Tryd.prog 25 #[.int .i64 s] w3 fun e w' => e = .returned (.string ⟨(Lib.itoa s).toArray⟩) ∧ Below w3.heap.size w3 w') := fun w3 q => itoa_ok s hs0 hs1 q
  have hws : Hid (∀ w4, Tx b (pw l (nmh (a, p)) ++ [UInt8.ofNat 46]) w4 → Calls Tryd.prog 61 #[.pointer (some ⟨b, 0, none⟩), .string ⟨(Lib.itoa s).toArray⟩] w4 fun e w' => (∃ r, e = .returned r) ∧ Tx b (pw l (nmh (a, p)) ++ [UInt8.ofNat 46] ++ Lib.itoa s) w' ∧ Ok2 b w4 w') := fun w4 q => ws_ok _ q (by rw [List.length_append]; simp; omega)
  have hend : Hid (pw l (nmh (a, p)) ++ [UInt8.ofNat 46] ++ Lib.itoa s = pw l (nmd ⟨a, p, s⟩)) := by
    show _ = _
    rw [pw_app, pw_app]
    unfold nmd
    rw [List.append_assoc]
    rfl
  have hne : Hid (w.heap.size ≠ b) := by show _ ≠ _; omega
  replace nH := hid nH
  replace k1 := hid k1
  replace t1 := hid t1
  clear hpl hal hp1 h1 b1 h ht hl hbl hsl hnl hs0 hs1
  go_enter Tryd.func30, Tryd.ntmps30
  go_wp2_with fail
  refine hnu.out.mono ?_
  rintro e w2 ⟨rfl, h2, k2⟩
  have nH2 := hid (k2.cells nH.out hne.out (by decide))
  have t2 := hid (t1.out.more k2.1)
  have k2' := hid (k1.out.trans k2)
  clear nH k2 t1 k1 hnu
  go_wp2_with fail
  refine (hwb.out _ h2).mono ?_
  rintro e w3 ⟨rfl, h3, k3⟩
  have nH3 := hid (k3.cells nH2.out hne.out (by decide))
  have t3 := hid (t2.out.more k3.1)
  have k3' := hid (k2'.out.trans k3)
  have h3' := hid h3
  clear nH2 k3 t2 k2' h2 h3 hwb
  go_upto_region 3 with fail
  have nHd : w3.drew.heap[w.heap.size]? = some (.cells #[.int .u32 (a : Int), .int .u32 (p : Int), .int .i64 s] 65 (0, 0)) := nH3.out
  have a0 := cell_of20 nHd (j := 2) rfl
  have a0' := cell_of20 nH3.out (j := 2) rfl
  have h3d : Hid (Tx b (pw l (nmh (a, p)) ++ [UInt8.ofNat 46]) w3.drew) := h3'.out.more ((Below.refl _ _).drew)
  have t3d : Hid (Tab b w3.drew) := t3.out.more ((Below.refl _ _).drew)
  have k3d : Hid (Ok2 b w w3.drew) := ⟨k3'.out.1.drew, k3'.out.2.drew⟩
  clear nHd
  go_region_with (first
    | (go_at_call 61; refine (hws.out _ h4.out).mono ?_; rintro e5 w5 ⟨⟨r, rfl⟩, h5, k5⟩; have hfin := hid (And.intro h5 (k4.out.trans k5)))
    | (go_at_call 25; refine (hfu.out _ t3d.out).mono ?_; rintro e4 w4 ⟨rfl, b4⟩; have h4 := hid (h3d.out.more b4); have k4 := hid (k3d.out.trans (Ok2.ofBelow b4 (Nat.le_of_lt h3d.out.lt))); clear b4))
  all_goals
    go_wp2_with fail
    go_end0
    rw [hend.out] at hfin
    exact ⟨rfl, hfin.out⟩

set_option maxRecDepth 100000 in
theorem yesno_ok (v : Bool) (w : World) : Calls Tryd.prog 28 #[.bool v] w fun e w' => e = .returned (.string ⟨(yn v).toArray⟩) ∧ w' = w := by
  cases v
  all_goals
    go_enter Tryd.func28, Tryd.ntmps28
    go_wp2_with fail
    go_ret
    exact ⟨rfl, rfl⟩

theorem p20_f (k : Int) : (p20 k).f = decide (k = 10) := by
  unfold p20
  repeat' split
  all_goals first | (simp [pz]; done) | (simp [pz]; omega)
theorem p20_d (k : Int) : (p20 k).d = decide (k = 14) := by
  unfold p20
  repeat' split
  all_goals first | (simp [pz]; done) | (simp [pz]; omega)

set_option maxRecDepth 100000 in
theorem nothing_ok (k : Int) (w : World) : Calls Tryd.prog 34 #[(p20 k).v] w fun e w' => e = .returned (.string ⟨(nth20 k).toArray⟩) ∧ Below w.heap.size w w' := by
  have hn : nth20 k = if (p20 k).f then wnone else if (p20 k).d then wempty else wok := by
    rw [p20_f, p20_d]
    unfold nth20
    simp only [decide_eq_true_eq]
  rw [hn]
  clear hn
  obtain ⟨h, t, f, i, n, c, s, d⟩ := p20 k
  dsimp only
  cases f
  · cases d
    all_goals
      go_enter Tryd.func34, Tryd.ntmps34
      go_wp2_with fail
      go_ret
      exact ⟨rfl, below20 _⟩
  · go_enter Tryd.func34, Tryd.ntmps34
    go_wp2_with fail
    go_ret
    exact ⟨rfl, below20 _⟩

abbrev dgs : ByteArray := { data := #[48, 49, 50, 51, 52, 53, 54, 55, 56, 57, 97, 98, 99, 100, 101, 102] }
theorem dig_at (n : Nat) (h : n < 16) (w : World) : (Instr.index 9 (.string dgs) (.int .i64 (n : Int))).run Tryd.prog w = .ok (.int .u8 ((hx n).toNat : Int)) w := by
  rcases (by omega : n = 0 ∨ n = 1 ∨ n = 2 ∨ n = 3 ∨ n = 4 ∨ n = 5 ∨ n = 6 ∨ n = 7 ∨ n = 8 ∨ n = 9 ∨ n = 10 ∨ n = 11 ∨ n = 12 ∨ n = 13 ∨ n = 14 ∨ n = 15) with rfl | rfl | rfl | rfl | rfl | rfl | rfl | rfl | rfl | rfl | rfl | rfl | rfl | rfl | rfl | rfl
  all_goals kernel_rfl

/-- Nothing of data. -/
theorem data0_ok {b : Nat} {l : List UInt8} (ad : Option Addr) (cap : Nat) {w : World} (h : Tx b l w) :
    Calls Tryd.prog 32 #[.pointer (some ⟨b, 0, none⟩), .slice ad 0 cap] w fun e w' => e = .returned (.tuple #[]) ∧ Tx b l w' ∧ Ok2 b w w' := by
  have hg := hid (bgrow0_ok b (Lib.byteCells l) w h (Nat.le_of_lt h.lt))
  go_enter Tryd.func32, Tryd.ntmps32
  go_wp2_with fail
  refine hg.out.mono ?_
  rintro e w2 ⟨rfl, h2, k2⟩
  have hfin : Hid (Tx b l w2 ∧ Ok2 b w w2) := ⟨.inr h2, k2⟩
  clear h2 k2
  go_wp2_with fail
  refine wp_loop_rounds 1 ?_
  rw [rounds_succ]
  go_wp2_with fail
  go_end0
  exact ⟨rfl, hfin.out⟩

theorem div16 (x : Nat) (h : x < 256) : ∃ q : Nat, IntKind.i64.wrap ((x : Int) / 16) = (q : Int) ∧ x / 16 = q ∧ q < 16 := by
  refine ⟨x / 16, ?_, rfl, by omega⟩
  rw [IntKind.wrap_i64]; omega
theorem mod16 (x : Nat) (h : x < 256) : ∃ q : Nat, IntKind.i64.wrap ((x : Int) % 16) = (q : Int) ∧ Int.tmod (x : Int) 16 = (q : Int) ∧ x % 16 = q ∧ q < 16 := by
  refine ⟨x % 16, ?_, by rw [Int.tmod_eq_emod_of_nonneg (by omega)]; omega, rfl, by omega⟩
  rw [IntKind.wrap_i64]; omega

set_option maxRecDepth 100000 in
set_option maxHeartbeats 8000000 in
/-- All of data, into a builder that is new. -/
theorem data_ok {b : Nat} (d : List UInt8) (ad : Option Addr) (n cap : Nat) (hn : d.length = n) (hl : n ≤ 1000000) {w : World} (hblk : w.heap[b]? = some (.cells #[.pointer none, .slice none 0 0] 81 (0, 0)))
    (hby : ∀ w', Below b w w' → Bytes w' ad cap d) :
    Calls Tryd.prog 32 #[.pointer (some ⟨b, 0, none⟩), .slice ad n cap] w fun e w' => e = .returned (.tuple #[]) ∧ Tx b (d.flatMap hex1) w' ∧ Below b w w' := by
  have hlt : b < w.heap.size := (Array.getElem?_eq_some_iff.1 hblk).1
  have hg := hid (bgrow_ok b (2 * n) w hblk (Nat.le_of_lt hlt) (by omega))
  have h2n : IntKind.i64.wrap (2 * (n : Int)) = ((2 * n : Nat) : Int) := by rw [IntKind.wrap_i64]; omega
  replace hn := hid hn
  replace hby := hid hby
  clear hblk
  go_enter Tryd.func32, Tryd.ntmps32
  go_wp2_with fail
  refine hg.out.mono ?_
  rintro e w2 ⟨rfl, h2, k2⟩
  have hst : Hid (Tx b (([] : List UInt8).flatMap hex1) w2 ∧ Below b w w2) := ⟨.inr h2, k2⟩
  clear h2 k2 hg h2n
  go_wp2_with fail
  go_loopw [15] (fun u wr => ∃ j : Nat, j ≤ n ∧ u = .int .i64 (j : Int) ∧ Hid (Tx b ((d.take j).flatMap hex1) wr ∧ Below b w wr))
    (fun u _ => n - (intOf u).toNat)
  case atStart => exact ⟨0, by omega, by go_num, hst.out⟩
  case round =>
    obtain ⟨j, hj, rfl, hs⟩ := hrel
    rcases Nat.lt_or_ge j n with hlj | hge
    · obtain ⟨x, hq⟩ : ∃ x, d[j]? = some x := ⟨_, List.getElem?_eq_getElem (by rw [hn.out]; exact hlj)⟩
      have hbw := hby.out wr hs.out.2
      have hx2 : (d.map bc)[j]? = some (bc x) := by rw [List.getElem?_map, hq]; rfl
      obtain ⟨a, rfl⟩ : ∃ a, ad = some a := by
        cases ad with
        | some a => exact ⟨a, rfl⟩
        | none =>
          have h1 := hbw.nil rfl
          have h2 := hbw.le
          have h3 := hn.out
          omega
      have hc := hbw.cell a rfl j (bc x) hx2
      have htk := hid (take_next20 hq)
      have hX : x.toNat < 256 := x.toNat_lt
      have q16 : x.toNat / 16 < 16 := by omega
      have r16 : x.toNat % 16 < 16 := by omega
      have hy : ∀ q : Nat, (hx q).toNat < 256 := fun q => (hx q).toNat_lt
      have hlen : Hid (∀ m, m ≤ n → ((d.take m).flatMap hex1).length ≤ 2000000) := fun m hm => by
        have e1 : ∀ l : List UInt8, (l.flatMap hex1).length = 2 * l.length := fun l => by
          induction l with
          | nil => rfl
          | cons y ys ih => rw [List.flatMap_cons, List.length_append, ih, List.length_cons]; simp [hex1]; omega
        rw [e1, List.length_take]
        omega
      have hA := hid (wb_ok (b := b) (l := (d.take j).flatMap hex1) (hx (x.toNat / 16)).toNat (hy _) (c := ((hx (x.toNat / 16)).toNat : Int)) rfl (hs.out.1.more (Below.refl wr.heap.size wr).drew) (by have := hlen.out j hj; omega))
      have hB : Hid (∀ w4, Tx b ((d.take j).flatMap hex1 ++ [UInt8.ofNat (hx (x.toNat / 16)).toNat]) w4 → Calls Tryd.prog 60 #[.pointer (some ⟨b, 0, none⟩), .int .u8 ((hx (x.toNat % 16)).toNat : Int)] w4 fun e w' => e = .returned .nilIface ∧ Tx b ((d.take j).flatMap hex1 ++ [UInt8.ofNat (hx (x.toNat / 16)).toNat] ++ [UInt8.ofNat (hx (x.toNat % 16)).toNat]) w' ∧ Ok2 b w4 w') := fun w4 q => wb_ok _ (hy _) rfl q (by have := hlen.out j hj; rw [List.length_append, List.length_singleton]; omega)
      have hend : Hid ((d.take j).flatMap hex1 ++ [UInt8.ofNat (hx (x.toNat / 16)).toNat] ++ [UInt8.ofNat (hx (x.toNat % 16)).toNat] = (d.take (j + 1)).flatMap hex1) := by
        show _ = _
        rw [htk.out, List.flatMap_append, List.append_assoc, UInt8.ofNat_toNat, UInt8.ofNat_toNat]
        simp [hex1]
      obtain ⟨Q, hd, hQ, hQ16⟩ := div16 x.toNat hX
      obtain ⟨R, hm, hm2, hR, hR16⟩ := mod16 x.toNat hX
      have g1 := dig_at Q hQ16
      have g2 := dig_at R hR16
      have u1 : (0 : Int) ≤ (Q : Int) := by omega
      have u2 : (Q : Int) < 16 := by omega
      have v1 : (0 : Int) ≤ (R : Int) := by omega
      have v2 : (R : Int) < 16 := by omega
      rw [hQ] at hA hB hend
      rw [hR] at hB hend
      obtain ⟨X, hXX⟩ : ∃ X, x.toNat = X := ⟨_, rfl⟩
      unfold bc at hc
      rw [hXX] at hc hd hm hm2 hX
      have hwX : IntKind.i64.wrap (X : Int) = (X : Int) := by rw [IntKind.wrap_i64]; omega
      have hj1 : IntKind.i64.wrap ((j : Int) + 1) = ((j + 1 : Nat) : Int) := by rw [IntKind.wrap_i64]; omega
      have i1 : (0 : Int) ≤ (j : Int) := by omega
      have i2 : (j : Int) < (n : Int) := by omega
      have hbel := hid hs.out.2
      clear hq hx2 hXX htk hlen hy q16 r16 hbw hs hst hQ hR
      go_upto_region 4 with fail
      go_region_with (go_at_call 60; refine hA.out.mono ?_; rintro e4 w4 ⟨rfl, h4, k4⟩; have hb4 := hid (hbel.out.drew.trans k4.1); have h4' := hid h4; clear h4 k4)
      have hB2 := hid (hB.out w4.drew (h4'.out.more (Below.refl w4.heap.size w4).drew))
      clear hB h4' hA
      go_upto_region 5 with fail
      go_region_with (go_at_call 60; refine hB2.out.mono ?_; rintro e5 w5 ⟨rfl, h5, k5⟩; have hfin := hid (And.intro h5 (hb4.out.drew.trans k5.1)); clear h5 k5)
      rw [hend.out] at hfin
      go_wp2_with fail
      go_roundw
      case rel => exact ⟨j + 1, by omega, by go_num, hfin.out⟩
      case measure => simp [intOf]; omega
    · have hjn : j = n := by omega
      have i2 : ¬ (j : Int) < (n : Int) := by omega
      have hfin : Hid (Tx b (d.flatMap hex1) wr ∧ Below b w wr) := by
        have q := hs.out
        rw [List.take_of_length_le (by rw [hn.out]; omega)] at q
        exact q
      go_wp2_with fail
      go_end0
      exact ⟨rfl, hfin.out⟩

end Go.Proofs.YtkopcfpghklbbaaDoor
