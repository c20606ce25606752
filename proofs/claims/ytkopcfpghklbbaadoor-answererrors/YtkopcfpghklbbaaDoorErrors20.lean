/- AnswerErrors, walked. -/
import Derived.Test.YtkopcfpghklbbaaDoorSure20
import Derived.Test.YtkopcfpghklbbaaDoorDec20A
namespace Go.Proofs.YtkopcfpghklbbaaDoor
open Go.RowKit
set_option linter.unusedVariables false
set_option linter.unusedSimpArgs false

/-- An error alone; a number alone. -/
def xe (z : Nat) : An := ⟨(z : Int), [], false, 0, [], 0, 0, 0, 0, 0, []⟩
def xn (z : Nat) : An := ⟨0, [], false, (z : Int), [], 0, 0, 0, 0, 0, []⟩
theorem xe_av (z : Nat) (hz : z ≤ 255) (w : World) : AV w (xe z) none 0 0 none 0 0 none 0 0 :=
  AV.plain w (xe z) rfl rfl rfl ⟨fun y hy => by simp [xe] at hy, fun y hy => by simp [xe] at hy, by simp [xe], by simp [xe]⟩ ⟨by simp [xe], by simp [xe], by simp [xe], by simp [xe], by simp [xe], by simp only [xe]; omega⟩
theorem xn_av (z : Nat) (hz : z ≤ 255) (w : World) : AV w (xn z) none 0 0 none 0 0 none 0 0 :=
  AV.plain w (xn z) rfl rfl rfl ⟨fun y hy => by simp [xn] at hy, fun y hy => by simp [xn] at hy, by simp [xn], by simp [xn]⟩ ⟨by simp [xn], by simp [xn], by simp [xn], by simp [xn], by simp only [xn]; omega, by simp [xn]⟩
theorem xe_may {k : Int} {z : Nat} (h0 : 0 ≤ k) (h1 : k ≤ 17) (g0 : 1 ≤ z) (g1 : z ≤ 255) : chk20 k (xe z) = 0 := by
  unfold chk20
  rw [if_neg (by omega), if_pos]
  refine .inl ⟨?_, ?_, ?_, rfl, rfl, rfl, rfl, ⟨rfl, rfl, rfl, rfl⟩, rfl, rfl⟩ <;> simp only [xe] <;> omega
theorem xn_may {z : Nat} (g1 : z ≤ 255) : chk20 9 (xn z) = 0 := by
  unfold chk20
  rw [if_neg (by omega), if_pos]
  refine .inr ⟨rfl, by omega, rfl, .inl rfl, .inr rfl, .inl rfl, .inl (by omega), .inl ⟨rfl, rfl, rfl, rfl⟩, .inl rfl, .inl rfl, ⟨by simp only [xn]; omega, by simp only [xn]; omega⟩, by simp [xn], by simp [xn], ⟨⟨by simp [xn], by simp [xn]⟩, ⟨by simp [xn], by simp [xn]⟩, ⟨by simp [xn], by simp [xn]⟩, by simp [xn], by simp [xn]⟩, fun y hy => by simp [xn] at hy⟩
theorem xe_txt {k : Int} {z : Nat} (g0 : 1 ≤ z) : txt20 k (xe z) = werror ++ Lib.itoa (z : Int) := by
  unfold txt20
  exact if_pos (by simp only [xe]; omega)
theorem xn_txt (z : Nat) : txt20 9 (xn z) = Lib.itoa (z : Int) := by
  unfold txt20 wds
  simp [xn, flg9, jw_one, itoa_ne]
theorem xe_enc {k : Int} {z : Nat} (g0 : 1 ≤ z) : enc20 k (xe z) = be 1 z := by
  unfold enc20
  rw [if_pos (by simp only [xe]; omega), List.append_nil]
  rfl

set_option maxRecDepth 100000 in
set_option maxHeartbeats 8000000 in
theorem errors_law (a0 a1 : Int) (W : World) (ht : Tab W.heap.size W) : Calls Tryd.prog 6 #[.int .i64 a0, .int .i64 a1] W fun e W' => e = .returned (.bool true) ∧ Below W.heap.size W W' := by
  obtain ⟨c, hc, hc0, hc1⟩ : ∃ c : Int, IntKind.i64.wrap (Int.tmod (IntKind.u64.wrap a0) 18) = c ∧ 0 ≤ c ∧ c ≤ 17 := by
    refine ⟨_, rfl, ?_⟩
    have h1 : 0 ≤ IntKind.u64.wrap a0 := by rw [wrapU]; omega
    rw [Int.tmod_eq_emod_of_nonneg h1, IntKind.wrap_i64]
    omega
  obtain ⟨z, hz, hz0, hz1⟩ : ∃ z : Nat, 1 + Int.tmod (IntKind.u64.wrap a1) 255 = (z : Int) ∧ 1 ≤ z ∧ z ≤ 255 := by
    have h1 : 0 ≤ IntKind.u64.wrap a1 := by rw [wrapU]; omega
    rw [Int.tmod_eq_emod_of_nonneg h1]
    exact ⟨(1 + IntKind.u64.wrap a1 % 255).toNat, by omega, by omega, by omega⟩
  have he := hid (encode_ok (k := c) (xe_av z hz1 W))
  have hdec : Hid (∀ w1 ad cap, Bytes w1 ad cap (be 1 z) → Calls Tryd.prog 17 #[.int .i64 c, .slice ad 1 cap] w1 fun e w' => (∃ (ha : Option Addr) (hn hc : Nat) (da : Option Addr) (dn dc : Nat) (ba : Option Addr) (bn bc : Nat), e = .returned (.tuple #[av (xe z) (.slice ha hn hc) (.slice da dn dc) (.slice ba bn bc), .nilIface])) ∧ Below w1.heap.size w1 w') := fun w1 ad cap hb => by
    have hx : (UInt8.ofNat z).toNat = z := by simp; omega
    have hb1 : be 1 z = [UInt8.ofNat z] := by simp [be]
    rw [hb1] at hb
    have hp : pe20 c ((UInt8.ofNat z).toNat : Int) = pz := by rw [hx]; unfold pe20; rw [if_neg (by omega)]
    refine (dec_z c hc0 hc1 (UInt8.ofNat z) [] ad 1 cap rfl w1 hb hp).mono ?_
    rintro e w' ⟨h1, h2⟩
    rw [hx] at h1
    refine ⟨?_, h2⟩
    rcases h1 with ⟨_, _, _, ha, hn, hc, da, dn, dc, ba, bn, bc, h3, _⟩ | ⟨h3, _⟩
    · exact ⟨ha, hn, hc, da, dn, dc, ba, bn, bc, h3⟩
    · exact absurd ⟨xe_may hc0 hc1 hz0 hz1, rfl, rfl⟩ h3
  have htx : Hid (∀ w1, Below W.heap.size W w1 → Calls Tryd.prog 11 #[.int .i64 c, av (xe z) (.slice none 0 0) (.slice none 0 0) (.slice none 0 0)] w1 fun e w' => e = .returned (.tuple #[.string ⟨(werror ++ Lib.itoa (z : Int)).toArray⟩, .nilIface]) ∧ Below w1.heap.size w1 w') := fun w1 q => by
    have := text_ok (k := c) (xe_av z hz1 w1) ((ht.more q).up q.size)
    unfold tres at this
    rw [xe_may hc0 hc1 hz0 hz1, if_pos rfl, xe_txt hz0] at this
    exact this
  have htn : Hid (∀ w1, Below W.heap.size W w1 → Calls Tryd.prog 11 #[.int .i64 9, av (xn z) (.slice none 0 0) (.slice none 0 0) (.slice none 0 0)] w1 fun e w' => e = .returned (.tuple #[.string ⟨(Lib.itoa (z : Int)).toArray⟩, .nilIface]) ∧ Below w1.heap.size w1 w') := fun w1 q => by
    have := text_ok (k := 9) (xn_av z hz1 w1) ((ht.more q).up q.size)
    unfold tres at this
    rw [xn_may hz1, if_pos rfl, xn_txt z] at this
    exact this
  have hsu : Hid (∀ w1, Below W.heap.size W w1 → Calls Tryd.prog 8 #[] w1 fun e w' => e = .returned (.bool true) ∧ Below w1.heap.size w1 w') := fun w1 q => sure_ok ((ht.more q).up q.size)
  have hwz : Hid (∀ k : IntKind, True) := fun _ => trivial
  have hmay := hid (xe_may hc0 hc1 hz0 hz1)
  have hec := hid (xe_enc (k := c) hz0)
  have hsl : ¬ (9223372036854775807 < 6 + (Lib.itoa (z : Int)).length) := by have := Lib.itoa_length_le (z : Int) (by omega) (by omega); omega
  have hse : ({ data := #[101, 114, 114, 111, 114, 32] } : ByteArray) ++ { data := (Lib.itoa (z : Int)).toArray } = { data := (werror ++ Lib.itoa (z : Int)).toArray } := rfl
  have hwx : IntKind.i64.wrap (z : Int) = (z : Int) := by rw [IntKind.wrap_i64]; omega
  have hb0 : be 1 z = [UInt8.ofNat z] := by simp [be]
  have hx0 : (UInt8.ofNat z).toNat = z := by simp; omega
  clear ht
  go_enter Tryd.func6, Tryd.ntmps6
  go_wp2_with fail
  refine he.out.mono ?_
  rintro e w1 ⟨he1, b1⟩
  obtain ⟨ad, cap, rfl, hby⟩ : ∃ ad cap, e = .returned (.tuple #[.slice ad 1 cap, .nilIface]) ∧ Bytes w1 ad cap (be 1 z) := by
    rcases he1 with ⟨_, ad, cap, h1, h2⟩ | ⟨h0, _⟩
    · rw [hec.out] at h1 h2
      rw [be_length] at h1
      exact ⟨ad, cap, h1, h2⟩
    · exact absurd hmay.out h0
  clear he1 he hec hmay
  replace hby := hid hby
  replace b1 := hid b1
  go_wp2_with fail
  refine (hdec.out _ _ _ hby.out).mono ?_
  rintro e w2 ⟨⟨ha, hn, hc2, da, dn, dc, ba, bn, bc2, rfl⟩, b2⟩
  have hB2 := hid (b1.out.trans (b2.mono b1.out.size))
  have hby2 := hid (hby.out.below b2)
  clear b1 b2 hdec hby
  go_upto_region 4 with fail
  obtain ⟨w3, hw3⟩ : ∃ w3, w2.alloc (.cells (acs (xe z) (.slice ha hn hc2) (.slice da dn dc) (.slice ba bn bc2)) 34) = w3 := ⟨_, rfl⟩
  have nA := new_of20 w2 (acs (xe z) (.slice ha hn hc2) (.slice da dn dc) (.slice ba bn bc2)) 34
  have b3 := balloc20 w2 (.cells (acs (xe z) (.slice ha hn hc2) (.slice da dn dc) (.slice ba bn bc2)) 34)
  rw [hw3] at nA b3
  try rw [hw3]
  obtain ⟨Ab, hAb⟩ : ∃ Ab, w2.heap.size = Ab := ⟨_, rfl⟩
  rw [hAb] at nA
  try rw [hAb]
  have hB3 := hid (hB2.out.trans (b3.mono hB2.out.size))
  have hby3 := hid (hby2.out.below b3)
  replace nA := hid nA
  clear b3 hw3 hAb hB2 hby2
  go_wp2_with fail
  refine (htx.out _ hB3.out).mono ?_
  rintro e w4 ⟨rfl, b4⟩
  have hB4 := hid (hB3.out.trans (b4.mono hB3.out.size))
  have hby4 := hid (hby3.out.below b4)
  replace nA := hid (kept20 nA.out b4)
  clear b4 hB3 hby3 htx
  go_wp2_with fail
  refine (htn.out _ hB4.out).mono ?_
  rintro e w5 ⟨rfl, b5⟩
  have hB5 := hid (hB4.out.trans (b5.mono hB4.out.size))
  have hby5 := hid (hby4.out.below b5)
  replace nA := hid (kept20 nA.out b5)
  clear b5 hB4 hby4 htn
  have hsu2 := hid (hsu.out w5 hB5.out)
  have a0 : w5.cell? ⟨Ab, 0, none⟩ = some (.int .i64 (z : Int)) := cell_of20 nA.out (j := 0) rfl
  obtain ⟨a, rfl⟩ : ∃ a, ad = some a := by
    cases ad with
    | some a => exact ⟨a, rfl⟩
    | none =>
      have h1 := hby5.out.nil rfl
      have h2 := hby5.out.le
      rw [be_length] at h2
      omega
  have hc5 : w5.cell? a = some (.int .u8 (z : Int)) := by
    have h := hby5.out.cell a rfl 0 (bc (UInt8.ofNat z)) (by rw [hb0]; rfl)
    unfold bc at h
    rw [hx0] at h
    rw [← h]
    congr 1
  clear hb0 hx0
  go_wp2_with fail
  refine hsu2.out.mono ?_
  rintro e w6 ⟨rfl, b6⟩
  have hbz := hid (hB5.out.trans (b6.mono hB5.out.size))
  clear b6
  go_wp2_with fail
  go_ret
  exact ⟨rfl, hbz.out⟩

end Go.Proofs.YtkopcfpghklbbaaDoor
