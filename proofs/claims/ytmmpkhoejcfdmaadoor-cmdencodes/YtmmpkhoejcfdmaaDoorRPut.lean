/- What the document's answer 'plaitref01.Put' gives. -/
import Derived.Test.YtmmpkhoejcfdmaaDoorAppendB
import Derived.Test.YtmmpkhoejcfdmaaDoorCopied
import Derived.Test.YtmmpkhoejcfdmaaDoorSums
namespace Go.Proofs.YtmmpkhoejcfdmaaDoor
open Go.RowKit
attribute [local simp] be_length

/-- What is left of V behind k rounds. -/
def hiQ (V k : Nat) : Nat := V / 256 ^ k

theorem hiQ_zero (V : Nat) : hiQ V 0 = V := by simp [hiQ]
theorem hiQ_succ (V k : Nat) : hiQ V (k + 1) = hiQ V k / 256 := by unfold hiQ; rw [Nat.pow_succ, Nat.div_div_eq_div_mul]
theorem be_succ (V k : Nat) : be (k + 1) V = UInt8.ofNat (hiQ V k) :: be k V := rfl

theorem wrap_hiQ (V k : Nat) (hV : V < 18446744073709551616) : IntKind.u64.wrap ((hiQ V k : Int) / 256) = ((hiQ V (k + 1) : Nat) : Int) := by
  have : hiQ V k ≤ V := Nat.div_le_self _ _
  rw [wrapU, hiQ_succ]
  omega

set_option maxHeartbeats 1000000 in
theorem rput_own (ad : Option Addr) (cap : Nat) (l : List UInt8) (V N : Nat) (w : World) (hb : Bytes w ad cap l) (hl : l.length ≤ 140737488351232) (h1 : 1 ≤ N) (h8 : N ≤ 8) (HV : Hid (V < 18446744073709551616)) :
    Calls Tryd.prog 25 #[.slice ad l.length cap, .int .u64 V, .int .i64 N] w fun e w' => ∃ v, e = .returned v ∧ w'.ownsRow w.heap.size 5 1 v (l.length + N) ((l ++ be N V).map bc) ∧ Below w.heap.size w w' := by
  obtain ⟨i0, hi, hz0, hz1, hz2⟩ := info_parts Tryd.info5
  have hd1 : decide ((1 : Int) ≤ (N : Int)) = true := by simp; omega
  have hd8 : decide ((N : Int) ≤ 8) = true := by simp; omega
  go_enter Tryd.func25, Tryd.ntmps25
  go_wp2_with fail
  go_loopw [1, 7, 8] (fun v o i wr => ∃ (k : Nat) (ao : Option Addr) (c : Nat), k ≤ N ∧ i = .int .i64 k ∧ v = .int .u64 ((hiQ V k : Nat) : Int) ∧ o = .slice ao k c ∧ Bytes wr ao c (be k V) ∧ Below w.heap.size w wr) (fun _ _ i _ => N - (intOf i).toNat)
  case atStart => exact ⟨0, none, 0, by omega, rfl, by rw [hiQ_zero], rfl, Bytes.none _, Below.refl _ _⟩
  case round =>
    obtain ⟨k, ao, c, hk, rfl, rfl, rfl, hbk, hbel⟩ := hrel
    have hsz := hbel.size
    by_cases hlt : k < N
    · go_wp2_with (at_builtin; refine wpList_append_bytes _ rfl (.tmp 24) (.tmp 25) 27 rfl w.heap.size 5 i0 Tryd.underlying27 hi hz0 hz1 hz2 (.slice (some ⟨wr.heap.size, 0, none⟩) 1 1) [UInt8.ofNat (hiQ V k)] 1 rfl (ownsRow_one wr w.heap.size 5 (hiQ V k) hsz) ao k c (be k V) rfl (by simp) (hbk.below ((Below.refl wr.heap.size wr).alloc (Nat.le_refl _) _)) (by omega) (by simp; omega) ?_; intro v1 w1 hown1 hgrow1)
      obtain ⟨ad1, cap1, rfl, hb1⟩ := Bytes.ofOwns (l := UInt8.ofNat (hiQ V k) :: be k V) (by simpa using hown1) (by omega)
      have hbel1 := (hbel.alloc hsz (.cells #[.int .u8 ((hiQ V k : Int) % 256)] 5)).grown hgrow1 (by simp; omega) (fun r hr => by simp [Value.ownBlock] at hr; omega)
      rw [← be_succ] at hb1
      clear hown1 hgrow1 hbk
      have HW : Hid (IntKind.u64.wrap ((hiQ V k : Int) / 256) = ((hiQ V (k + 1) : Nat) : Int)) := hid (wrap_hiQ V k HV.out)
      go_wp2_with fail
      go_roundw
      case rel => exact ⟨k + 1, ad1, cap1, by omega, by go_num, by rw [HW.out], by rw [Nat.add_comm 1 k], hb1, hbel1⟩
      case measure => simp [intOf]; omega
    · obtain rfl : k = N := by omega
      go_wp2_with (first
        | (at_builtin; refine wpList_append_bytes _ rfl (.tmp 29) (.tmp 30) 27 rfl w.heap.size 5 i0 Tryd.underlying27 hi hz0 hz1 hz2 (.slice none 0 0) [] 0 rfl (World.ownsRow_nil _ _ _ _) ad l.length cap l rfl rfl (hb.below hbel) (by omega) hbel.size ?_; intro v1 w1 hown1 hgrow1; have hbel1 := (hbel.grown hgrow1 hbel.size (by simp [Value.ownBlock])); have hbk1 := hbk.below ((Below.refl wr.heap.size wr).grown hgrow1 (Nat.le_refl _) (by simp [Value.ownBlock])); simp only [Nat.zero_add, List.nil_append] at hown1; have hr1 := own_from hown1; clear hgrow1)
        | (at_builtin; refine wpList_append_bytes _ rfl (.tmp 31) (.tmp 32) 27 rfl w.heap.size 5 i0 Tryd.underlying27 hi hz0 hz1 hz2 v1 l l.length rfl hown1 ao k c (be k V) rfl (by simp) hbk1 (by omega) hbel1.size ?_; intro v2 w2 hown2 hgrow2; have hbel2 := hbel1.grown hgrow2 hbel1.size hr1))
      go_ret
      exact ⟨v2, rfl, hown2, hbel2⟩

theorem rput_ok (ad : Option Addr) (cap : Nat) (l : List UInt8) (V N : Nat) (w : World) (hb : Bytes w ad cap l) (hl : l.length ≤ 140737488351232) (h1 : 1 ≤ N) (h8 : N ≤ 8) (HV : Hid (V < 18446744073709551616)) :
    Calls Tryd.prog 25 #[.slice ad l.length cap, .int .u64 V, .int .i64 N] w fun e w' => ∃ ad' cap', e = .returned (.slice ad' (l.length + N) cap') ∧ Bytes w' ad' cap' (l ++ be N V) ∧ Below w.heap.size w w' := by
  refine (rput_own ad cap l V N w hb hl h1 h8 HV).mono ?_
  rintro e w' ⟨v, rfl, hown, hbel⟩
  obtain ⟨ad2, cap2, rfl, hb2⟩ := Bytes.ofOwns hown (by omega)
  exact ⟨ad2, cap2, rfl, hb2, hbel⟩

set_option maxHeartbeats 400000 in
theorem rput_no (ad : Option Addr) (cap : Nat) (l : List UInt8) (v n : Int) (w : World) (hb : Bytes w ad cap l) (hl : l.length ≤ 140737488351232) (hn : n < 1 ∨ 8 < n) :
    Calls Tryd.prog 25 #[.slice ad l.length cap, .int .u64 v, .int .i64 n] w fun e w' => ∃ ad' cap', e = .returned (.slice ad' l.length cap') ∧ Bytes w' ad' cap' l ∧ Below w.heap.size w w' := by
  obtain ⟨i0, hi, hz0, hz1, hz2⟩ := info_parts Tryd.info5
  have hbel := Below.refl w.heap.size w
  have hnil := fun w => Bytes.none w
  by_cases h1 : 1 ≤ n
  · have h8 : decide (n ≤ 8) = false := by simp; omega
    clear hn
    go_enter Tryd.func25, Tryd.ntmps25
    go_wp2_with (first
      | (at_builtin; refine wpList_append_bytes _ rfl (.tmp 29) (.tmp 30) 27 rfl w.heap.size 5 i0 Tryd.underlying27 hi hz0 hz1 hz2 (.slice none 0 0) [] 0 rfl (World.ownsRow_nil _ _ _ _) ad l.length cap l rfl rfl hb (by omega) hbel.size ?_; intro v1 w1 hown1 hgrow1; have hbel1 := (hbel.grown hgrow1 hbel.size (by simp [Value.ownBlock])); simp only [Nat.zero_add, List.nil_append] at hown1; have hr1 := own_from hown1; clear hgrow1)
      | (at_builtin; refine wpList_append_bytes _ rfl (.tmp 31) (.tmp 32) 27 rfl w.heap.size 5 i0 Tryd.underlying27 hi hz0 hz1 hz2 v1 l l.length rfl hown1 none 0 0 [] rfl rfl (hnil _) (by omega) hbel1.size ?_; intro v2 w2 hown2 hgrow2; have hbel2 := hbel1.grown hgrow2 hbel1.size hr1))
    go_ret
    obtain ⟨ad2, cap2, rfl, hb2⟩ := Bytes.ofOwns hown2 (by omega)
    exact ⟨ad2, cap2, rfl, by simpa using hb2, hbel2⟩
  · have h1' : decide (1 ≤ n) = false := by simpa using h1
    clear hn h1
    go_enter Tryd.func25, Tryd.ntmps25
    go_wp2_with (first
      | (at_builtin; refine wpList_append_bytes _ rfl (.tmp 29) (.tmp 30) 27 rfl w.heap.size 5 i0 Tryd.underlying27 hi hz0 hz1 hz2 (.slice none 0 0) [] 0 rfl (World.ownsRow_nil _ _ _ _) ad l.length cap l rfl rfl hb (by omega) hbel.size ?_; intro v1 w1 hown1 hgrow1; have hbel1 := (hbel.grown hgrow1 hbel.size (by simp [Value.ownBlock])); simp only [Nat.zero_add, List.nil_append] at hown1; have hr1 := own_from hown1; clear hgrow1)
      | (at_builtin; refine wpList_append_bytes _ rfl (.tmp 31) (.tmp 32) 27 rfl w.heap.size 5 i0 Tryd.underlying27 hi hz0 hz1 hz2 v1 l l.length rfl hown1 none 0 0 [] rfl rfl (hnil _) (by omega) hbel1.size ?_; intro v2 w2 hown2 hgrow2; have hbel2 := hbel1.grown hgrow2 hbel1.size hr1))
    go_ret
    obtain ⟨ad2, cap2, rfl, hb2⟩ := Bytes.ofOwns hown2 (by omega)
    exact ⟨ad2, cap2, rfl, by simpa using hb2, hbel2⟩

end Go.Proofs.YtmmpkhoejcfdmaaDoor
