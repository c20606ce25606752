/- AnswerFlags, walked. -/
import Derived.Test.YtkopcfpghklbbaaDoorSure20
import Derived.Test.YtkopcfpghklbbaaDoorDec20A
import Derived.Test.YtkopcfpghklbbaaDoorErrAs
namespace Go.Proofs.YtkopcfpghklbbaaDoor
open Go.RowKit
set_option linter.unusedVariables false
set_option linter.unusedSimpArgs false

/-- The kinds that tell whether something is; a flag's byte. -/
abbrev Fk (k : Int) : Prop := k = 6 ∨ k = 7 ∨ k = 8 ∨ k = 12
def vb (v : Bool) : UInt8 := if v then 1 else 0

theorem fenc {k : Int} (v : Bool) (g : Fk k) (w : World) : Calls Tryd.prog 10 #[.int .i64 k, av (xi v) (.slice none 0 0) (.slice none 0 0) (.slice none 0 0)] w fun e w' => (∃ ad cap, e = .returned (.tuple #[.slice ad 2 cap, .nilIface]) ∧ Bytes w' ad cap [0, vb v]) ∧ Below w.heap.size w w' := by
  refine (encode_ok (k := k) (xi_av v w)).mono ?_
  rintro e w1 ⟨he1, b1⟩
  refine ⟨?_, b1⟩
  rcases he1 with ⟨_, ad, cap, h1, h2⟩ | ⟨h0, _⟩
  · rw [xi_enc v g] at h1 h2
    cases v
    · exact ⟨ad, cap, h1, h2⟩
    · exact ⟨ad, cap, h1, h2⟩
  · exact absurd (xi_may v g) h0

theorem ftxt {k : Int} (v : Bool) (g : Fk k) {w : World} (ht : Tab w.heap.size w) : Calls Tryd.prog 11 #[.int .i64 k, av (xi v) (.slice none 0 0) (.slice none 0 0) (.slice none 0 0)] w fun e w' => e = .returned (.tuple #[.string ⟨(yn v).toArray⟩, .nilIface]) ∧ Below w.heap.size w w' := by
  have := text_ok (k := k) (xi_av v w) ht
  unfold tres at this
  rw [xi_may v g, if_pos rfl, xi_txt v g] at this
  exact this

theorem fpe {k : Int} (g : Fk k) : pe20 k (((0 : UInt8).toNat : Nat) : Int) = { pz with i := true } := by
  rcases g with rfl | rfl | rfl | rfl <;> rfl
theorem fk0 {k : Int} (g : Fk k) : 0 ≤ k ∧ k ≤ 17 := by omega

theorem fdec1 {k : Int} (v : Bool) (g : Fk k) {w : World} {ad : Option Addr} {cap : Nat} (hb : Bytes w ad cap [0, vb v]) : Calls Tryd.prog 17 #[.int .i64 k, .slice ad 2 cap] w fun e w' => (∃ (ha : Option Addr) (hn hc : Nat) (da : Option Addr) (dn dc : Nat) (ba : Option Addr) (bn bc : Nat), e = .returned (.tuple #[av (xi v) (.slice ha hn hc) (.slice da dn dc) (.slice ba bn bc), .nilIface])) ∧ Below w.heap.size w w' := by
  refine (dec_i k (fk0 g).1 (fk0 g).2 0 [vb v] ad 2 cap rfl w hb (fpe g)).mono ?_
  rintro e w' ⟨h1, h2⟩
  refine ⟨?_, h2⟩
  have e1 : decide (nm20 1 [vb v] = 1) = v := by cases v <;> decide
  have e2 : (er20 1 [vb v] false || decide (1 < nm20 1 [vb v])) = false := by cases v <;> decide
  have e3 : lf20 1 [vb v] = [] := by cases v <;> decide
  rw [e1, e2, e3] at h1
  rcases h1 with ⟨_, _, _, ha, hn, hc, da, dn, dc, ba, bn, bc, h3, _⟩ | ⟨h3, _⟩
  · exact ⟨ha, hn, hc, da, dn, dc, ba, bn, bc, h3⟩
  · exact absurd ⟨xi_may v g, rfl, rfl⟩ h3

theorem fdec2 {k : Int} (g : Fk k) {w : World} {ad : Option Addr} {cap : Nat} (hb : Bytes w ad cap [0, 2]) : Calls Tryd.prog 17 #[.int .i64 k, .slice ad 2 cap] w fun e w' => e = .returned (.tuple #[av az (.slice none 0 0) (.slice none 0 0) (.slice none 0 0), .iface 93 (.int .i64 3)]) ∧ Below w.heap.size w w' := by
  refine (dec_i k (fk0 g).1 (fk0 g).2 0 [2] ad 2 cap rfl w hb (fpe g)).mono ?_
  rintro e w' ⟨h1, h2⟩
  refine ⟨?_, h2⟩
  have e2 : (er20 1 [2] false || decide (1 < nm20 1 [2])) = true := by decide
  rw [e2] at h1
  rcases h1 with ⟨_, h3, _⟩ | ⟨_, h3⟩
  · exact absurd h3 (by decide)
  · exact h3

theorem bytes02 (w : World) (t : TypeId) : Bytes (w.alloc (.cells #[.int .u8 0, .int .u8 2] t)) (some ⟨w.heap.size, 0, none⟩) 2 [0, 2] :=
  Bytes.ofBlock (cs := [.int .u8 0, .int .u8 2]) (new_of20 w _ t) rfl (by decide) (by decide)

set_option maxRecDepth 100000 in
set_option maxHeartbeats 8000000 in
theorem flags_at (k a0 : Int) (c : Nat) (v : Bool) (W : World) (hc : IntKind.i64.wrap (Int.tmod (IntKind.u64.wrap a0) 4) = (c : Int)) (hk : Fk k) (hck : (#[6, 7, 8, 12] : Array Int)[c]? = some k) (ht : Tab W.heap.size W) (hg : Handle W) : Calls Tryd.prog 7 #[.int .i64 a0, .bool v] W fun e W' => e = .returned (.bool true) ∧ Below W.heap.size W W' := by
  have hgh := hid hg
  have hth := hid ht
  have hkh := hid hk
  have hsu : Hid (∀ w1, Below W.heap.size W w1 → Calls Tryd.prog 8 #[] w1 fun e w' => e = .returned (.bool true) ∧ Below w1.heap.size w1 w') := fun w1 q => sure_ok ((ht.more q).up q.size)
  clear hg ht hk
  go_enter Tryd.func7, Tryd.ntmps7
  have hk4 : (c = 0 ∧ k = 6) ∨ (c = 1 ∧ k = 7) ∨ (c = 2 ∧ k = 8) ∨ (c = 3 ∧ k = 12) := by
    match c, hck with
    | 0, h => exact .inl ⟨rfl, (Option.some.inj h).symm⟩
    | 1, h => exact .inr (.inl ⟨rfl, (Option.some.inj h).symm⟩)
    | 2, h => exact .inr (.inr (.inl ⟨rfl, (Option.some.inj h).symm⟩))
    | 3, h => exact .inr (.inr (.inr ⟨rfl, (Option.some.inj h).symm⟩))
    | n + 4, h => simp at h
  rcases hk4 with ⟨rfl, rfl⟩ | ⟨rfl, rfl⟩ | ⟨rfl, rfl⟩ | ⟨rfl, rfl⟩
  all_goals
    clear hck
    go_wp2_with fail
    refine (fenc v hkh.out _).mono ?_
    rintro e w1 ⟨⟨ad, cap, rfl, hby1⟩, b1⟩
    have hB1 := hid ((balloc20 W _).trans (b1.mono (balloc20 W _).size))
    replace hby1 := hid hby1
    clear b1
    go_wp2_with fail
    refine (ftxt v hkh.out ((hth.out.more hB1.out).up hB1.out.size)).mono ?_
    rintro e w2 ⟨rfl, b2⟩
    have hB2 := hid (hB1.out.trans (b2.mono hB1.out.size))
    have hby2 := hid (hby1.out.below b2)
    clear b2 hB1 hby1
    go_wp2_with fail
    refine (fdec1 v hkh.out hby2.out).mono ?_
    rintro e w3 ⟨⟨ha, hn, hc2, da, dn, dc, ba, bn, bc2, rfl⟩, b3⟩
    have hB3 := hid (hB2.out.trans (b3.mono hB2.out.size))
    have hby3 := hid (hby2.out.below b3)
    clear b3 hB2 hby2
    go_upto_region 5 with fail
    obtain ⟨w4, hw4⟩ : ∃ w4, w3.alloc (.cells (acs (xi v) (.slice ha hn hc2) (.slice da dn dc) (.slice ba bn bc2)) 34) = w4 := ⟨_, rfl⟩
    have nA := new_of20 w3 (acs (xi v) (.slice ha hn hc2) (.slice da dn dc) (.slice ba bn bc2)) 34
    have b4 := balloc20 w3 (.cells (acs (xi v) (.slice ha hn hc2) (.slice da dn dc) (.slice ba bn bc2)) 34)
    rw [hw4] at nA b4
    try rw [hw4]
    obtain ⟨Ab, hAb⟩ : ∃ Ab, w3.heap.size = Ab := ⟨_, rfl⟩
    rw [hAb] at nA
    try rw [hAb]
    have hB4 := hid (hB3.out.trans (b4.mono hB3.out.size))
    have hby4 := hid (hby3.out.below b4)
    replace nA := hid nA
    clear b4 hw4 hAb hB3 hby3
    go_wp2_with fail
    refine (fdec2 hkh.out (bytes02 _ _)).mono ?_
    rintro e w5 ⟨rfl, b5⟩
    have b45 := (balloc20 w4 _).trans (b5.mono (balloc20 w4 _).size)
    have hB5 := hid (hB4.out.trans (b45.mono hB4.out.size))
    have hby5 := hid (hby4.out.below b45)
    replace nA := hid (kept20 nA.out b45)
    clear b5 b45 hB4 hby4
    go_upto_region 6 with fail
    obtain ⟨w6, hw6⟩ : ∃ w6, w5.alloc (.cells (acs az (.slice none 0 0) (.slice none 0 0) (.slice none 0 0)) 34) = w6 := ⟨_, rfl⟩
    have b6 := balloc20 w5 (.cells (acs az (.slice none 0 0) (.slice none 0 0) (.slice none 0 0)) 34)
    rw [hw6] at b6
    try rw [hw6]
    obtain ⟨Ac, hAc⟩ : ∃ Ac, w5.heap.size = Ac := ⟨_, rfl⟩
    try rw [hAc]
    have hB6 := hid (hB5.out.trans (b6.mono hB5.out.size))
    have hby6 := hid (hby5.out.below b6)
    replace nA := hid (kept20 nA.out b6)
    clear b6 hw6 hAc hB5 hby5
    go_wp2_with fail
    refine (num_err 3 w6 (hgh.out.below hB6.out)).mono ?_
    rintro e w7 ⟨rfl, b7⟩
    have hB7 := hid (hB6.out.trans (b7.mono hB6.out.size))
    have hby7 := hid (hby6.out.below b7)
    replace nA := hid (kept20 nA.out b7)
    clear b7 hB6 hby6
    obtain ⟨ab, off, rfl, hcell⟩ := hby7.out.opened (by simp)
    have c0 : w7.cell? ⟨ab, off, none⟩ = some (.int .u8 0) := hcell 0 (by simp)
    have c1 : w7.cell? ⟨ab, off + 1, none⟩ = some (.int .u8 ((vb v).toNat : Int)) := hcell 1 (by simp)
    clear hcell
    have a2 : w7.cell? ⟨Ab, 2, none⟩ = some (.bool v) := cell_of20 nA.out (j := 2) rfl
    have hsu2 := hid (hsu.out w7 hB7.out)
    have hy : ({ data := (yn true).toArray } : ByteArray) = { data := #[121, 101, 115] } := rfl
    have hn : ({ data := (yn false).toArray } : ByteArray) = { data := #[110, 111] } := rfl
    clear hsu nA hgh hth hkh
    cases v
    · replace c1 : w7.cell? ⟨ab, off + 1, none⟩ = some (.int .u8 0) := c1
      go_wp2_with fail
      refine hsu2.out.mono ?_
      rintro e w8 ⟨rfl, b8⟩
      have hbz := hid (hB7.out.trans (b8.mono hB7.out.size))
      clear b8
      go_wp2_with fail
      go_ret
      exact ⟨rfl, hbz.out⟩
    · replace c1 : w7.cell? ⟨ab, off + 1, none⟩ = some (.int .u8 1) := c1
      go_wp2_with fail
      refine hsu2.out.mono ?_
      rintro e w8 ⟨rfl, b8⟩
      have hbz := hid (hB7.out.trans (b8.mono hB7.out.size))
      clear b8
      go_wp2_with fail
      go_ret
      exact ⟨rfl, hbz.out⟩

theorem flags_law (a0 : Int) (v : Bool) (W : World) (ht : Tab W.heap.size W) (hg : Handle W) : Calls Tryd.prog 7 #[.int .i64 a0, .bool v] W fun e W' => e = .returned (.bool true) ∧ Below W.heap.size W W' := by
  obtain ⟨c, hc, hc1⟩ : ∃ c : Nat, IntKind.i64.wrap (Int.tmod (IntKind.u64.wrap a0) 4) = (c : Int) ∧ c < 4 := by
    have h1 : 0 ≤ IntKind.u64.wrap a0 := by rw [wrapU]; omega
    rw [Int.tmod_eq_emod_of_nonneg h1, IntKind.wrap_i64]
    exact ⟨(IntKind.u64.wrap a0 % 4).toNat, by omega, by omega⟩
  match c, hc1 with
  | 0, _ => exact flags_at 6 a0 0 v W hc (by omega) rfl ht hg
  | 1, _ => exact flags_at 7 a0 1 v W hc (by omega) rfl ht hg
  | 2, _ => exact flags_at 8 a0 2 v W hc (by omega) rfl ht hg
  | 3, _ => exact flags_at 12 a0 3 v W hc (by omega) rfl ht hg

end Go.Proofs.YtkopcfpghklbbaaDoor
