/- A text's words: word, number, handle, dart, yesOrNo, nothing, data, walked. -/
import Derived.Test.YtkopcfpghklbbaaDoorBld20
import Derived.Test.YtkopcfpghklbbaaDoorCheck20
import Derived.Test.YtkopcfpghklbbaaDoorTxt20
import Derived.Deep.RegionWith
namespace Go.Proofs.YtkopcfpghklbbaaDoor
open Go.RowKit
set_option linter.unusedVariables false

/-- The text in block b. -/
abbrev Tx (b : Nat) (l : List UInt8) (w : World) : Prop := TxI b (Lib.byteCells l) w

theorem bcs_snoc (l : List UInt8) (x : Nat) (hx : x < 256) : Lib.byteCells l ++ [.int .u8 (x : Int)] = Lib.byteCells (l ++ [UInt8.ofNat x]) := by
  simp [Lib.byteCells]
  omega
theorem bcs_app (l m : List UInt8) : Lib.byteCells l ++ Lib.byteCells m = Lib.byteCells (l ++ m) := (Lib.byteCells_append l m).symm

theorem wb_ok {b : Nat} {l : List UInt8} (x : Nat) (hx : x < 256) {c : Int} (hc : c = (x : Int)) {w : World} (h : Tx b l w) (hl : l.length ≤ 900000000) :
    Calls Tryd.prog 60 #[.pointer (some ⟨b, 0, none⟩), .int .u8 c] w fun e w' => e = .returned .nilIface ∧ Tx b (l ++ [UInt8.ofNat x]) w' ∧ Ok2 b w w' := by
  subst hc
  refine (wbyte_ok b (Lib.byteCells l) (x : Int) w h (by rw [Lib.byteCells_length]; omega) (Nat.le_of_lt h.lt)).mono ?_
  rintro e w' ⟨rfl, h1, h2⟩
  rw [bcs_snoc l x hx] at h1
  exact ⟨rfl, .inr h1, h2⟩

theorem ws_ok {b : Nat} {l : List UInt8} (m : List UInt8) {w : World} (h : Tx b l w) (hl : l.length + m.length ≤ 900000000) :
    Calls Tryd.prog 61 #[.pointer (some ⟨b, 0, none⟩), .string ⟨m.toArray⟩] w fun e w' => (∃ r, e = .returned r) ∧ Tx b (l ++ m) w' ∧ Ok2 b w w' := by
  refine (wstr_ok b (Lib.byteCells l) m w h (by rw [Lib.byteCells_length]; omega) (Nat.le_of_lt h.lt)).mono ?_
  rintro e w' ⟨h0, h1, h2⟩
  rw [bcs_app l m] at h1
  exact ⟨h0, .inr h1, h2⟩

theorem bl_ok {b : Nat} {l : List UInt8} {w : World} (h : Tx b l w) :
    Calls Tryd.prog 33 #[.pointer (some ⟨b, 0, none⟩)] w fun e w' => e = .returned (.int .i64 l.length) ∧ w' = w := by
  refine (blen_ok b (Lib.byteCells l) w h).mono ?_
  rintro e w' ⟨rfl, h⟩
  rw [Lib.byteCells_length]
  exact ⟨rfl, h⟩

set_option maxRecDepth 100000 in
set_option maxHeartbeats 4000000 in
theorem word_ok {b : Nat} {l : List UInt8} (m : List UInt8) {w : World} (h : Tx b l w) (hl : l.length + m.length ≤ 800000000) :
    Calls Tryd.prog 27 #[.pointer (some ⟨b, 0, none⟩), .string ⟨m.toArray⟩] w fun e w' => e = .returned (.tuple #[]) ∧ Tx b (pw l m) w' ∧ Ok2 b w w' := by
  have hlen := hid (bl_ok h)
  unfold pw
  by_cases h0 : l = []
  · subst h0
    have hst := hid (ws_ok m h (by simpa using Nat.le_trans hl (by omega)))
    rw [if_pos rfl]
    go_enter Tryd.func27, Tryd.ntmps27
    go_wp2_with fail
    refine hlen.out.mono ?_
    rintro e w1 ⟨rfl, rfl⟩
    go_wp2_with fail
    refine hst.out.mono ?_
    rintro e w2 ⟨⟨r, rfl⟩, h2⟩
    go_wp2_with fail
    go_end0
    exact ⟨rfl, h2⟩
  · have hz : 0 < l.length := List.length_pos_iff.2 h0
    have hz' : (0 : Int) < (l.length : Int) := by omega
    rw [if_neg h0]
    have hwb := hid (wb_ok 32 (by omega) (c := 32) rfl h (by omega))
    have hst : Hid (∀ w1, Tx b (l ++ [UInt8.ofNat 32]) w1 → Calls Tryd.prog 61 #[.pointer (some ⟨b, 0, none⟩), .string ⟨m.toArray⟩] w1 fun e w' => (∃ r, e = .returned r) ∧ Tx b (l ++ [UInt8.ofNat 32] ++ m) w' ∧ Ok2 b w1 w') := fun w1 q => ws_ok m q (by rw [List.length_append]; simp; omega)
    obtain ⟨L, hL⟩ : ∃ L, l.length = L := ⟨_, rfl⟩
    rw [hL] at hz' hlen
    clear hL hz h0 hl
    go_enter Tryd.func27, Tryd.ntmps27
    go_wp2_with fail
    refine hlen.out.mono ?_
    rintro e w1 ⟨rfl, rfl⟩
    go_wp2_with fail
    refine hwb.out.mono ?_
    rintro e w2 ⟨rfl, h2, k2⟩
    go_wp2_with fail
    refine (hst.out _ h2).mono ?_
    rintro e w3 ⟨⟨r, rfl⟩, h3, k3⟩
    go_wp2_with fail
    go_end0
    exact ⟨rfl, h3, k2.trans k3⟩

theorem dig_len (n : Nat) (h : n < 18446744073709551616) : (Lib.decDigits n).length ≤ 21 := by
  have := Lib.itoa_nonneg n
  rw [← this]
  by_cases g : n < 9223372036854775808
  · exact Lib.itoa_length_le _ (by omega) (by omega)
  · rw [this, Lib.decDigits_length]
    have := Lib.nDigits_le20 n h
    omega

set_option maxRecDepth 100000 in
set_option maxHeartbeats 4000000 in
theorem number_ok {b : Nat} {l : List UInt8} (n : Int) (h0 : -9223372036854775808 ≤ n) (h1 : n ≤ 9223372036854775807) {w : World} (ht : Tab b w) (h : Tx b l w) (hl : l.length ≤ 700000000) :
    Calls Tryd.prog 29 #[.pointer (some ⟨b, 0, none⟩), .int .i64 n] w fun e w' => e = .returned (.tuple #[]) ∧ Tx b (pw l (Lib.itoa n)) w' ∧ Ok2 b w w' := by
  have hit := hid (itoa_ok n h0 h1 ht)
  have hlen := Lib.itoa_length_le n h0 h1
  have hwd : Hid (∀ w1, Tx b l w1 → Calls Tryd.prog 27 #[.pointer (some ⟨b, 0, none⟩), .string ⟨(Lib.itoa n).toArray⟩] w1 fun e w' => e = .returned (.tuple #[]) ∧ Tx b (pw l (Lib.itoa n)) w' ∧ Ok2 b w1 w') := fun w1 q => word_ok _ q (by omega)
  replace h := hid h
  clear hlen
  go_enter Tryd.func29, Tryd.ntmps29
  go_wp2_with fail
  refine hit.out.mono ?_
  rintro e w1 ⟨rfl, b1⟩
  have k1 := hid (Ok2.ofBelow b1 (Nat.le_of_lt h.out.lt))
  have hn := hid (h.out.more b1)
  clear b1
  go_wp2_with fail
  refine (hwd.out _ hn.out).mono ?_
  rintro e w2 ⟨rfl, h2, k2⟩
  have hfin := hid (And.intro h2 (k1.out.trans k2))
  clear h2 k2
  go_wp2_with fail
  go_end0
  exact ⟨rfl, hfin.out⟩

theorem pw_app (l m x : List UInt8) : pw l m ++ x = pw l (m ++ x) := by unfold pw; rw [List.append_assoc]
theorem pw_len (l m : List UInt8) : (pw l m).length ≤ l.length + m.length + 1 := by
  unfold pw
  split
  · rw [List.length_append]; omega
  · rw [List.length_append, List.length_append]; simp; omega

set_option maxRecDepth 100000 in
set_option maxHeartbeats 4000000 in
theorem handle_ok {b : Nat} {l : List UInt8} (a p : Nat) (ha : a < 4294967296) (hp : p < 4294967296) {w : World} (ht : Tab b w) (h : Tx b l w) (hl : l.length ≤ 600000000) :
    Calls Tryd.prog 26 #[.pointer (some ⟨b, 0, none⟩), .agg #[.int .u32 (a : Int), .int .u32 (p : Int)]] w fun e w' => e = .returned (.tuple #[]) ∧ Tx b (pw l (nmh (a, p))) w' ∧ Ok2 b w w' := by
  have hbl := h.lt
  have b1 := balloc20 w (.cells #[.int .u32 (a : Int), .int .u32 (p : Int)] 61)
  have nH := new_of20 w #[.int .u32 (a : Int), .int .u32 (p : Int)] 61
  have h1 := h.more b1
  have t1 := ht.more (b1.mono (Nat.le_of_lt hbl))
  have k1 := Ok2.ofBelow b1 (Nat.le_of_lt hbl)
  have hnu := hid (number_ok (b := b) (l := l) (p : Int) (by omega) (by omega) t1 h1 (by omega))
  have hwp : IntKind.i64.wrap (p : Int) = (p : Int) := by rw [IntKind.wrap_i64]; omega
  have hwa : IntKind.u64.wrap (a : Int) = (a : Int) := by rw [wrapU]; omega
  have hpl := Lib.itoa_length_le (p : Int) (by omega) (by omega)
  have hal := Lib.itoa_length_le (a : Int) (by omega) (by omega)
  have hp1 := pw_len l (Lib.itoa (p : Int))
  have hwb : Hid (∀ w2, Tx b (pw l (Lib.itoa (p : Int))) w2 → Calls Tryd.prog 60 #[.pointer (some ⟨b, 0, none⟩), .int .u8 35] w2 fun e w' => e = .returned .nilIface ∧ Tx b (pw l (Lib.itoa (p : Int)) ++ [UInt8.ofNat 35]) w' ∧ Ok2 b w2 w') := fun w2 q => wb_ok 35 (by omega) rfl q (by omega)
  have hfu : Hid (∀ w3, Tab b w3 → Calls Tryd.prog 62 #[.int .u64 (a : Int), .int .i64 10] w3 fun e w' => e = .returned (.string ⟨(Lib.itoa (a : Int)).toArray⟩) ∧ Below w3.heap.size w3 w') := fun w3 q => fmtuint_ok a (by omega) q
  have hws : Hid (∀ w4, Tx b (pw l (Lib.itoa (p : Int)) ++ [UInt8.ofNat 35]) w4 → Calls Tryd.prog 61 #[.pointer (some ⟨b, 0, none⟩), .string ⟨(Lib.itoa (a : Int)).toArray⟩] w4 fun e w' => (∃ r, e = .returned r) ∧ Tx b (pw l (Lib.itoa (p : Int)) ++ [UInt8.ofNat 35] ++ Lib.itoa (a : Int)) w' ∧ Ok2 b w4 w') := fun w4 q => ws_ok _ q (by rw [List.length_append]; simp; omega)
  have hend : Hid (pw l (Lib.itoa (p : Int)) ++ [UInt8.ofNat 35] ++ Lib.itoa (a : Int) = pw l (nmh (a, p))) := by
    show _ = _
    rw [pw_app, pw_app]
    unfold nmh
    rw [List.append_assoc]
    rfl
  have hne : Hid (w.heap.size ≠ b) := by show _ ≠ _; omega
  replace nH := hid nH
  replace k1 := hid k1
  replace t1 := hid t1
  clear hpl hal hp1 h1 b1 h ht hl hbl
  go_enter Tryd.func26, Tryd.ntmps26
  go_wp2_with fail
  refine hnu.out.mono ?_
  rintro e w2 ⟨rfl, h2, k2⟩
  have nH2 := hid (k2.cells nH.out hne.out (by decide))
  have t2 := hid (t1.out.more k2.1)
  have k2' := hid (k1.out.trans k2)
  clear nH k2 t1 k1 hnu
  go_wp2_with fail
  refine (hwb.out _ h2).mono ?_
  rintro e w3 ⟨rfl, h3, k3⟩
  have nH3 := hid (k3.cells nH2.out hne.out (by decide))
  have t3 := hid (t2.out.more k3.1)
  have k3' := hid (k2'.out.trans k3)
  have h3' := hid h3
  clear nH2 k3 t2 k2' h2 h3 hwb
  go_upto_region 3 with fail
  have nHd : w3.drew.heap[w.heap.size]? = some (.cells #[.int .u32 (a : Int), .int .u32 (p : Int)] 61 (0, 0)) := nH3.out
  have a0 := cell_of20 nHd (j := 0) rfl
  have a0' := cell_of20 nH3.out (j := 0) rfl
  have h3d : Hid (Tx b (pw l (Lib.itoa (p : Int)) ++ [UInt8.ofNat 35]) w3.drew) := h3'.out.more ((Below.refl _ _).drew)
  have t3d : Hid (Tab b w3.drew) := t3.out.more ((Below.refl _ _).drew)
  have k3d : Hid (Ok2 b w w3.drew) := ⟨k3'.out.1.drew, k3'.out.2.drew⟩
  clear nHd
  go_region_with (first
    | (go_at_call 61; refine (hws.out _ h4.out).mono ?_; rintro e5 w5 ⟨⟨r, rfl⟩, h5, k5⟩; have hfin := hid (And.intro h5 (k4.out.trans k5)))
    | (go_at_call 62; refine (hfu.out _ t3d.out).mono ?_; rintro e4 w4 ⟨rfl, b4⟩; have h4 := hid (h3d.out.more b4); have k4 := hid (k3d.out.trans (Ok2.ofBelow b4 (Nat.le_of_lt h3d.out.lt))); clear b4))
  all_goals
    go_wp2_with fail
    go_end0
    rw [hend.out] at hfin
    exact ⟨rfl, hfin.out⟩

end Go.Proofs.YtkopcfpghklbbaaDoor
