/- The law 'WireShort', from the contracts. -/
import Derived.Test.YtpccgdhiekbmpaaDoorAppendB
import Derived.Test.YtpccgdhiekbmpaaDoorCut
import Derived.Test.YtpccgdhiekbmpaaDoorFrame
import Derived.Test.YtpccgdhiekbmpaaDoorErrAs
namespace Go.Proofs.YtpccgdhiekbmpaaDoor
open Go.RowKit
set_option linter.unusedVariables false
attribute [local simp] be_length

set_option maxHeartbeats 400000 in
theorem short_long (ad ad2 : Option Addr) (len cap len2 cap2 : Nat) (n : Int) (w : World) (hl : 5000 < len ∨ 5000 < len2) :
    Calls Tryd.prog 6 #[.slice ad len cap, .slice ad2 len2 cap2, .int .i64 n] w fun e w' => e = .returned (.bool true) ∧ Below w.heap.size w w' := by
  by_cases h1 : 5000 < len
  · have h2 : (5000 : Int) < (len : Int) := by omega
    clear hl
    go_enter Tryd.func6, Tryd.ntmps6
    go_wp2_with fail
    refine (sure_any _).mono ?_
    rintro e w2 ⟨rfl, hb2⟩
    go_wp2_with fail
    go_ret
    exact ⟨rfl, hb2⟩
  · have h2 : (5000 : Int) < (len2 : Int) := by omega
    have h3 : decide ((5000 : Int) < (len : Int)) = false := by simp; omega
    clear hl
    go_enter Tryd.func6, Tryd.ntmps6
    go_wp2_with fail
    refine (sure_any _).mono ?_
    rintro e w2 ⟨rfl, hb2⟩
    go_wp2_with fail
    go_ret
    exact ⟨rfl, hb2⟩

theorem place_of (n : Int) (L : Nat) : ∃ k : Nat, (IntKind.u64.wrap n).tmod (4 + (L : Int)) = (k : Int) ∧ k < 4 + L := by
  have h0 : 0 ≤ IntKind.u64.wrap n := by rw [wrapU]; omega
  have h1 := Int.emod_lt_of_pos (IntKind.u64.wrap n) (show (0 : Int) < 4 + (L : Int) by omega)
  have h2 := Int.emod_nonneg (IntKind.u64.wrap n) (show (4 + (L : Int)) ≠ 0 by omega)
  refine ⟨((IntKind.u64.wrap n).tmod (4 + (L : Int))).toNat, ?_, ?_⟩
  · rw [Int.tmod_eq_emod_of_nonneg h0]; omega
  · rw [Int.tmod_eq_emod_of_nonneg h0]; omega

set_option maxHeartbeats 1000000 in
theorem short_some (ad ad2 : Option Addr) (cap cap2 : Nat) (l m : List UInt8) (n : Int) (k : Nat) (w : World) (hb : Bytes w ad cap l) (hb2 : Bytes w ad2 cap2 m) (hg : Handle w) (hl : l.length ≤ 5000) (hm : m.length ≤ 5000)
    (hk : (IntKind.u64.wrap n).tmod (4 + (l.length : Int)) = (k : Int)) (hkl : k < 4 + l.length) :
    Calls Tryd.prog 6 #[.slice ad l.length cap, .slice ad2 m.length cap2, .int .i64 n] w fun e w' => e = .returned (.bool true) ∧ Below w.heap.size w w' := by
  obtain ⟨i0, hi, hz0, hz1, hz2⟩ := info_parts Tryd.info5
  have h1 : decide ((5000 : Int) < (l.length : Int)) = false := by simp; omega
  have h2 : decide ((5000 : Int) < (m.length : Int)) = false := by simp; omega
  have h3 : ((4 : Int) + (l.length : Int) != (l.length : Int) + 4) = false := by simp; omega
  go_enter Tryd.func6, Tryd.ntmps6
  go_wp2_with fail
  refine (frame_ok ad cap l _ hb (by omega)).mono ?_
  rintro e w1 ⟨g, rfl, hf, hb1⟩
  go_wp2_with fail
  refine (cut_part g k l.length _ l _ rfl (by omega) (by omega) hf).mono ?_
  rintro e w2 ⟨rfl, rfl⟩
  have hmore := hb2.below hb1
  go_wp2_with (first
    | (at_builtin; refine wpList_append_bytes _ rfl (.tmp 58) (.tmp 59) 22 rfl w.heap.size 5 i0 Tryd.underlying22 hi hz0 hz1 hz2 (.slice none 0 0) [] 0 rfl (World.ownsRow_nil _ _ _ _) (some ⟨g, 0, none⟩) (4 + l.length) (4 + l.length) (be 4 l.length ++ l) rfl (by simp) hf (by omega) hb1.size ?_; intro v1 w2 hown1 hgrow1; have b2 := (hb1.grown hgrow1 hb1.size (by simp [Value.ownBlock])); have hm2 := hmore.below ((Below.refl w1.heap.size w1).grown hgrow1 (Nat.le_refl _) (by simp [Value.ownBlock])); simp only [Nat.zero_add, List.nil_append] at hown1; have hr1 := own_from hown1; clear hgrow1 hmore)
    | (at_builtin; refine wpList_append_bytes _ rfl (.tmp 60) (.tmp 61) 22 rfl w.heap.size 5 i0 Tryd.underlying22 hi hz0 hz1 hz2 v1 (be 4 l.length ++ l) (4 + l.length) rfl hown1 ad2 m.length cap2 m rfl rfl hm2 (by omega) b2.size ?_; intro v2 w3 hown2 hgrow2; have b3 := b2.grown hgrow2 b2.size hr1; obtain ⟨a2, c2, rfl, hby⟩ := Bytes.ofOwns hown2 (by omega); rw [List.append_assoc] at hby; clear hgrow2 hown2 hown1 hm2)
    | (go_at_call 17; refine (cut_frame _ _ _ l m _ ?_ ?_ hby).mono ?_; omega; omega; rintro e w4 ⟨x, y, rfl, hx, hy, hb4⟩; have b4 := b3.trans (hb4.mono b3.size); clear hby)
    | (go_at_call 12; refine (num_err 4 _ (hg.below b4)).mono ?_; rintro e w5 ⟨rfl, hb5⟩; have b5 := b4.trans (hb5.mono b4.size); have s1 := string_at (n := l.length) (hx.below hb5) rfl; have s2 := string_at (n := m.length) (hy.below hb5) rfl; have s3 := string_of (hb.below b5); have s4 := string_of (hb2.below b5); clear hx hy)
    | (go_at_call 7; refine (sure_any _).mono ?_; rintro e w6 ⟨rfl, hb6⟩))
  go_ret
  exact ⟨rfl, b5.trans (hb6.mono b5.size)⟩

theorem short_any (ad ad2 : Option Addr) (cap len cap2 len2 : Nat) (l m : List UInt8) (n : Int) (w : World) (h1 : len = l.length) (h2 : len2 = m.length) (hg : Handle w) (hb : Bytes w ad cap l) (hb2 : Bytes w ad2 cap2 m) :
    Calls Tryd.prog 6 #[.slice ad len cap, .slice ad2 len2 cap2, .int .i64 n] w fun e w' => e = .returned (.bool true) ∧ Below w.heap.size w w' := by
  subst h1 h2
  by_cases hl : 5000 < l.length ∨ 5000 < m.length
  · exact short_long ad ad2 l.length cap m.length cap2 n w hl
  · obtain ⟨k, hk, hkl⟩ := place_of n l.length
    exact short_some ad ad2 cap cap2 l m n k w hb hb2 hg (by omega) (by omega) hk hkl

end Go.Proofs.YtpccgdhiekbmpaaDoor
