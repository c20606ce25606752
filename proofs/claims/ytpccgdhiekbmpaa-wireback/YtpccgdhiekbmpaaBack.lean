/- The law 'WireBack', from the contracts. -/
import Derived.Test.YtpccgdhiekbmpaaBack0
import Derived.Test.YtpccgdhiekbmpaaAppendB
import Derived.Test.YtpccgdhiekbmpaaCut
import Derived.Test.YtpccgdhiekbmpaaFrame
namespace Go.Proofs.Ytpccgdhiekbmpaa
open Go.RowKit
set_option linter.unusedVariables false
attribute [local simp] be_length
attribute [local go_sem ↓] Go.wp_at_zero Go.wp_at_succ

/-- Rows of bytes that came in: each that is not too long is known. -/
structure Rows2 (w : World) (ao : Option Addr) (len b off : Nat) (A : Nat → Option Addr) (C : Nat → Nat) (L : Nat → List UInt8) : Prop where
  at0 : 0 < len → ao = some ⟨b, off, none⟩
  cell : ∀ r, r < len → w.cell? ⟨b, off + r, none⟩ = some (.slice (A r) (L r).length (C r))
  row : ∀ r, r < len → (L r).length ≤ 2000 → Bytes w (A r) (C r) (L r)

set_option maxHeartbeats 2000000 in
theorem back_small (ao : Option Addr) (len cap b off m V x : Nat) (A : Nat → Option Addr) (C : Nat → Nat) (L : Nat → List UInt8) (n : Int) (w : World) (hr : Rows2 w ao len b off A C L)
    (hk : (IntKind.u64.wrap n).tmod 8 = (m : Int)) (hm : m < 7) (hx : bits .and .u64 (V : Int) (IntKind.u64.wrap (IntKind.u64.wrap (2 ^ (8 * (1 + m))) - 1)) = (x : Int)) (HX : Hid (V % 256 ^ (1 + m) = x)) :
    Calls Try.prog 3 #[.slice ao len cap, .int .u64 V, .int .i64 n] w fun e w' => e = .returned (.bool true) ∧ Below w.heap.size w w' := by
  obtain ⟨i0, hi, hz0, hz1, hz2⟩ := info_parts Try.info5
  go_enter Try.func3, Try.ntmps3
  go_wp2_with fail
  go_loopw [7, 8] (fun v i wr => ∃ k : Nat, k ≤ len ∧ k ≤ 40 ∧ i = .int .i64 k ∧ (∀ r, r < k → (L r).length ≤ 2000) ∧ wr.ownsRow w.heap.size 5 1 v (cat L k).length ((cat L k).map bc) ∧ Below w.heap.size w wr) (fun _ i _ => 40 - (intOf i).toNat)
  case atStart => exact ⟨0, Nat.zero_le _, Nat.zero_le _, rfl, fun r hr => absurd hr (by omega), World.ownsRow_nil _ _ _ _, Below.refl _ _⟩
  case round =>
    obtain ⟨k, hk1, hk2, rfl, hle, hown, hbel⟩ := hrel
    have hcl := cat_length L k hle
    by_cases hlt : k < len ∧ k < 40
    · obtain ⟨hl1, hl2⟩ := hlt
      obtain rfl := hr.at0 (by omega)
      have d1 : (k : Int) < (len : Int) := by omega
      have d2 : (k : Int) < 40 := by omega
      have hc0 := hr.cell k hl1
      have hck : wr.cell? ⟨b, off + k, none⟩ = some (.slice (A k) (L k).length (C k)) := (hbel.cell (cell_lt hc0)).trans hc0
      by_cases hlong : 2000 < (L k).length
      · have d3 : (2000 : Int) < ((L k).length : Int) := by omega
        have HO := hid hown
        have HL := hid hle
        clear hc0 hown hle
        go_wp2_with fail
        refine (sure_any _).mono ?_
        rintro e w2 ⟨rfl, hb2⟩
        go_wp2_with fail
        go_ret
        exact ⟨rfl, hbel.trans (hb2.mono hbel.size)⟩
      · have d3 : ((L k).length : Int) ≤ 2000 := by omega
        have hrow := (hr.row k hl1 (by omega)).below hbel
        have HO := hid hown
        have HL := hid hle
        clear hc0 hown hle
        go_wp2_with fail
        refine (frame_ok _ _ (L k) _ hrow (by omega)).mono ?_
        rintro e w2 ⟨g, rfl, hf, hb2⟩
        have b2 := hbel.trans (hb2.mono hbel.size)
        have hown2 := ownsRow_below HO.out hb2
        have hfr := own_from hown2
        go_wp2_with (at_builtin; refine wpList_append_bytes _ rfl (.tmp 48) (.tmp 49) 24 rfl w.heap.size 5 i0 Try.underlying24 hi hz0 hz1 hz2 _ (cat L k) _ rfl hown2 _ _ _ (fr (L k)) rfl (by rw [fr_length]) hf (by omega) b2.size ?_; intro v3 w3 hown3 hgrow3)
        have b3 := b2.grown hgrow3 b2.size hfr
        have ec : (cat L (k + 1)).length = (cat L k).length + (4 + (L k).length) := by rw [cat, List.length_append, fr_length]
        go_roundw
        case rel =>
          refine ⟨k + 1, by omega, by omega, by go_num, ?_, ?_, b3⟩
          · intro r hr2
            by_cases h : r < k
            · exact HL.out r h
            · obtain rfl : r = k := by omega
              omega
          · rw [ec, cat]
            exact hown3
        case measure => simp [intOf]; omega
    · have hfin : ¬ k < len ∨ (k < len ∧ ¬ k < 40) := by omega
      obtain ⟨ad1, c1, rfl, hby⟩ := Bytes.ofOwns hown (by omega)
      have HL := hid hle
      clear hown hle
      generalize hT : be (1 + m) V = T
      have HT := hid hT
      have hTl : T.length = 1 + m := by rw [← hT]; simp
      have HTL := hid hTl
      clear hT hTl
      rcases hfin with hfin | ⟨hfin0, hfin⟩
      all_goals
        go_wp2_with fail
        refine (put_at ad1 c1 (cat L k) _ _ V (1 + m) _ rfl (by omega) hby (by omega) (by omega) (by omega)).mono ?_
        rintro e w2 ⟨g, rfl, hp, hb2⟩
        have b2 := hbel.trans (hb2.mono hbel.size)
        rw [HT.out] at hp
        have e0 := cat_rem L k T 0 (Nat.zero_le _)
        simp only [cat, List.nil_append, Nat.sub_zero] at e0
        have el : (cat L k).length + (1 + m) = (rem L k T k).length := by rw [e0, List.length_append, HTL.out]
        rw [← e0] at hp
        rw [el] at hp ⊢
        clear hby e0 el
        go_wp2_with fail
        go_loopw [12, 13] (fun v i wr2 => ∃ (j g2 c2 : Nat), j ≤ k ∧ i = .int .i64 j ∧ v = .slice (some ⟨g2, 0, none⟩) (rem L k T (k - j)).length c2 ∧ Bytes wr2 (some ⟨g2, 0, none⟩) c2 (rem L k T (k - j)) ∧ Below w.heap.size w wr2) (fun _ i _ => 40 - (intOf i).toNat)
        case atStart => exact ⟨0, g, _, Nat.zero_le _, rfl, rfl, hp, b2⟩
        case round =>
          obtain ⟨j, g2, c2, hj, rfl, rfl, hrem, hbel2⟩ := hrel
          by_cases hjk : j < k
          · have hjl : j < len := by omega
            obtain rfl := hr.at0 (by omega)
            have d1 : (j : Int) < (len : Int) := by omega
            have d2 : (j : Int) < 40 := by omega
            have hc0 := hid (hr.cell j hjl)
            have hlj := HL.out j hjk
            have hrow := hr.row j hjl hlj
            have hln := rem_length L k T j hjk
            have HLN := hid hln
            rw [rem_step L k T j hjk] at hrem
            clear hln
            go_wp2_with fail
            refine (cut_frame _ _ _ (L j) (rem L k T (k - (j + 1))) _ (by omega) HLN.out hrem).mono ?_
            rintro e w3 ⟨g3, g4, rfl, h3, h4, hb3⟩
            have b3 := hbel2.trans (hb3.mono hbel2.size)
            have HS : Hid (∀ w', Below w3.heap.size w3 w' → Below w3.heap.size w3 w' ∧ w'.cell? ⟨b, off + j, none⟩ = some (.slice (A j) (L j).length (C j)) ∧ (convert 24 9 (.slice (some ⟨g3, 0, none⟩) (L j).length (L j).length)).run Try.prog w' = .ok (.string ⟨(L j).toArray⟩) w' ∧ (convert 24 9 (.slice (A j) (L j).length (C j))).run Try.prog w' = .ok (.string ⟨(L j).toArray⟩) w') := hid fun w' hw =>
              ⟨hw, ((b3.trans (hw.mono b3.size)).cell (cell_lt hc0.out)).trans hc0.out, string_at (h3.below hw) rfl, string_at (hrow.below (b3.trans (hw.mono b3.size))) rfl⟩
            go_wp2_with fail
            go_region_held3 (fun w' => Below w3.heap.size w3 w' ∧ w'.cell? ⟨b, off + j, none⟩ = some (.slice (A j) (L j).length (C j)) ∧ (convert 24 9 (.slice (some ⟨g3, 0, none⟩) (L j).length (L j).length)).run Try.prog w' = .ok (.string ⟨(L j).toArray⟩) w' ∧ (convert 24 9 (.slice (A j) (L j).length (C j))).run Try.prog w' = .ok (.string ⟨(L j).toArray⟩) w')
              (first | exact HS.out _ (Below.refl _ _).drew | exact HS.out _ (Below.refl _ _)) (fail)
            go_wp2_with fail
            go_roundw
            case rel => exact ⟨j + 1, g4, _, by omega, by go_num, rfl, h4.below (Below.refl _ _).drew, b3.drew⟩
            case measure => simp [intOf]; omega
          · obtain rfl : j = k := by omega
            rw [Nat.sub_self] at hrem
            simp only [rem] at hrem
            rw [Nat.sub_self]
            simp only [rem]
            rw [← HT.out] at hrem
            have HR := hid hrem
            clear hrem
            go_wp2_with fail
            refine (take_be _ _ _ _ (1 + m) V _ HTL.out (by omega) HR.out (by omega) (by omega)).mono ?_
            rintro e w3 ⟨g3, rfl, hb3⟩
            rw [HX.out]
            have b3 := hbel2.trans (hb3.mono hbel2.size)
            go_wp2_with fail
            refine (sure_any _).mono ?_
            rintro e w4 ⟨rfl, hb4⟩
            go_wp2_with fail
            go_ret
            exact ⟨rfl, b3.trans (hb4.mono b3.size)⟩

set_option maxHeartbeats 2000000 in
theorem back_great (ao : Option Addr) (len cap b off V : Nat) (A : Nat → Option Addr) (C : Nat → Nat) (L : Nat → List UInt8) (n : Int) (w : World) (hr : Rows2 w ao len b off A C L)
    (hk : (IntKind.u64.wrap n).tmod 8 = 7) (HX : Hid (V % 256 ^ 8 = V)) :
    Calls Try.prog 3 #[.slice ao len cap, .int .u64 V, .int .i64 n] w fun e w' => e = .returned (.bool true) ∧ Below w.heap.size w w' := by
  obtain ⟨i0, hi, hz0, hz1, hz2⟩ := info_parts Try.info5
  go_enter Try.func3, Try.ntmps3
  go_wp2_with fail
  go_loopw [7, 8] (fun v i wr => ∃ k : Nat, k ≤ len ∧ k ≤ 40 ∧ i = .int .i64 k ∧ (∀ r, r < k → (L r).length ≤ 2000) ∧ wr.ownsRow w.heap.size 5 1 v (cat L k).length ((cat L k).map bc) ∧ Below w.heap.size w wr) (fun _ i _ => 40 - (intOf i).toNat)
  case atStart => exact ⟨0, Nat.zero_le _, Nat.zero_le _, rfl, fun r hr => absurd hr (by omega), World.ownsRow_nil _ _ _ _, Below.refl _ _⟩
  case round =>
    obtain ⟨k, hk1, hk2, rfl, hle, hown, hbel⟩ := hrel
    have hcl := cat_length L k hle
    by_cases hlt : k < len ∧ k < 40
    · obtain ⟨hl1, hl2⟩ := hlt
      obtain rfl := hr.at0 (by omega)
      have d1 : (k : Int) < (len : Int) := by omega
      have d2 : (k : Int) < 40 := by omega
      have hc0 := hr.cell k hl1
      have hck : wr.cell? ⟨b, off + k, none⟩ = some (.slice (A k) (L k).length (C k)) := (hbel.cell (cell_lt hc0)).trans hc0
      by_cases hlong : 2000 < (L k).length
      · have d3 : (2000 : Int) < ((L k).length : Int) := by omega
        have HO := hid hown
        have HL := hid hle
        clear hc0 hown hle
        go_wp2_with fail
        refine (sure_any _).mono ?_
        rintro e w2 ⟨rfl, hb2⟩
        go_wp2_with fail
        go_ret
        exact ⟨rfl, hbel.trans (hb2.mono hbel.size)⟩
      · have d3 : ((L k).length : Int) ≤ 2000 := by omega
        have hrow := (hr.row k hl1 (by omega)).below hbel
        have HO := hid hown
        have HL := hid hle
        clear hc0 hown hle
        go_wp2_with fail
        refine (frame_ok _ _ (L k) _ hrow (by omega)).mono ?_
        rintro e w2 ⟨g, rfl, hf, hb2⟩
        have b2 := hbel.trans (hb2.mono hbel.size)
        have hown2 := ownsRow_below HO.out hb2
        have hfr := own_from hown2
        go_wp2_with (at_builtin; refine wpList_append_bytes _ rfl (.tmp 48) (.tmp 49) 24 rfl w.heap.size 5 i0 Try.underlying24 hi hz0 hz1 hz2 _ (cat L k) _ rfl hown2 _ _ _ (fr (L k)) rfl (by rw [fr_length]) hf (by omega) b2.size ?_; intro v3 w3 hown3 hgrow3)
        have b3 := b2.grown hgrow3 b2.size hfr
        have ec : (cat L (k + 1)).length = (cat L k).length + (4 + (L k).length) := by rw [cat, List.length_append, fr_length]
        go_roundw
        case rel =>
          refine ⟨k + 1, by omega, by omega, by go_num, ?_, ?_, b3⟩
          · intro r hr2
            by_cases h : r < k
            · exact HL.out r h
            · obtain rfl : r = k := by omega
              omega
          · rw [ec, cat]
            exact hown3
        case measure => simp [intOf]; omega
    · have hfin : ¬ k < len ∨ (k < len ∧ ¬ k < 40) := by omega
      obtain ⟨ad1, c1, rfl, hby⟩ := Bytes.ofOwns hown (by omega)
      have HL := hid hle
      clear hown hle
      generalize hT : be 8 V = T
      have HT := hid hT
      have hTl : T.length = 8 := by rw [← hT]; simp
      have HTL := hid hTl
      clear hT hTl
      rcases hfin with hfin | ⟨hfin0, hfin⟩
      all_goals
        go_wp2_with fail
        refine (put_at ad1 c1 (cat L k) _ _ V 8 _ rfl (by omega) hby (by omega) (by omega) (by omega)).mono ?_
        rintro e w2 ⟨g, rfl, hp, hb2⟩
        have b2 := hbel.trans (hb2.mono hbel.size)
        rw [HT.out] at hp
        have e0 := cat_rem L k T 0 (Nat.zero_le _)
        simp only [cat, List.nil_append, Nat.sub_zero] at e0
        have el : (cat L k).length + 8 = (rem L k T k).length := by rw [e0, List.length_append, HTL.out]
        rw [← e0] at hp
        rw [el] at hp ⊢
        clear hby e0 el
        go_wp2_with fail
        go_loopw [12, 13] (fun v i wr2 => ∃ (j g2 c2 : Nat), j ≤ k ∧ i = .int .i64 j ∧ v = .slice (some ⟨g2, 0, none⟩) (rem L k T (k - j)).length c2 ∧ Bytes wr2 (some ⟨g2, 0, none⟩) c2 (rem L k T (k - j)) ∧ Below w.heap.size w wr2) (fun _ i _ => 40 - (intOf i).toNat)
        case atStart => exact ⟨0, g, _, Nat.zero_le _, rfl, rfl, hp, b2⟩
        case round =>
          obtain ⟨j, g2, c2, hj, rfl, rfl, hrem, hbel2⟩ := hrel
          by_cases hjk : j < k
          · have hjl : j < len := by omega
            obtain rfl := hr.at0 (by omega)
            have d1 : (j : Int) < (len : Int) := by omega
            have d2 : (j : Int) < 40 := by omega
            have hc0 := hid (hr.cell j hjl)
            have hlj := HL.out j hjk
            have hrow := hr.row j hjl hlj
            have hln := rem_length L k T j hjk
            have HLN := hid hln
            rw [rem_step L k T j hjk] at hrem
            clear hln
            go_wp2_with fail
            refine (cut_frame _ _ _ (L j) (rem L k T (k - (j + 1))) _ (by omega) HLN.out hrem).mono ?_
            rintro e w3 ⟨g3, g4, rfl, h3, h4, hb3⟩
            have b3 := hbel2.trans (hb3.mono hbel2.size)
            have HS : Hid (∀ w', Below w3.heap.size w3 w' → Below w3.heap.size w3 w' ∧ w'.cell? ⟨b, off + j, none⟩ = some (.slice (A j) (L j).length (C j)) ∧ (convert 24 9 (.slice (some ⟨g3, 0, none⟩) (L j).length (L j).length)).run Try.prog w' = .ok (.string ⟨(L j).toArray⟩) w' ∧ (convert 24 9 (.slice (A j) (L j).length (C j))).run Try.prog w' = .ok (.string ⟨(L j).toArray⟩) w') := hid fun w' hw =>
              ⟨hw, ((b3.trans (hw.mono b3.size)).cell (cell_lt hc0.out)).trans hc0.out, string_at (h3.below hw) rfl, string_at (hrow.below (b3.trans (hw.mono b3.size))) rfl⟩
            go_wp2_with fail
            go_region_held3 (fun w' => Below w3.heap.size w3 w' ∧ w'.cell? ⟨b, off + j, none⟩ = some (.slice (A j) (L j).length (C j)) ∧ (convert 24 9 (.slice (some ⟨g3, 0, none⟩) (L j).length (L j).length)).run Try.prog w' = .ok (.string ⟨(L j).toArray⟩) w' ∧ (convert 24 9 (.slice (A j) (L j).length (C j))).run Try.prog w' = .ok (.string ⟨(L j).toArray⟩) w')
              (first | exact HS.out _ (Below.refl _ _).drew | exact HS.out _ (Below.refl _ _)) (fail)
            go_wp2_with fail
            go_roundw
            case rel => exact ⟨j + 1, g4, _, by omega, by go_num, rfl, h4.below (Below.refl _ _).drew, b3.drew⟩
            case measure => simp [intOf]; omega
          · obtain rfl : j = k := by omega
            rw [Nat.sub_self] at hrem
            simp only [rem] at hrem
            rw [Nat.sub_self]
            simp only [rem]
            rw [← HT.out] at hrem
            have HR := hid hrem
            clear hrem
            go_wp2_with fail
            refine (take_be _ _ _ _ 8 V _ HTL.out (by omega) HR.out (by omega) (by omega)).mono ?_
            rintro e w3 ⟨g3, rfl, hb3⟩
            rw [HX.out]
            have b3 := hbel2.trans (hb3.mono hbel2.size)
            go_wp2_with fail
            refine (sure_any _).mono ?_
            rintro e w4 ⟨rfl, hb4⟩
            go_wp2_with fail
            go_ret
            exact ⟨rfl, b3.trans (hb4.mono b3.size)⟩

theorem back_any (ao : Option Addr) (len cap b off : Nat) (A : Nat → Option Addr) (C : Nat → Nat) (L : Nat → List UInt8) (v n : Int) (w : World) (hr : Rows2 w ao len b off A C L) (wv : (Lit.int .u64 v).wf = true) :
    Calls Try.prog 3 #[.slice ao len cap, .int .u64 v, .int .i64 n] w fun e w' => e = .returned (.bool true) ∧ Below w.heap.size w w' := by
  obtain ⟨V, rfl, hV⟩ := wfU wv
  obtain ⟨m, hm, hk⟩ := width_of n
  by_cases h7 : m < 7
  · exact back_small ao len cap b off m V (V % 256 ^ (1 + m)) A C L n w hr hk h7 (mask_of V m hV h7) rfl
  · obtain rfl : m = 7 := by omega
    have e8 : 256 ^ 8 = 18446744073709551616 := by decide
    exact back_great ao len cap b off V A C L n w hr (by simpa using hk) (hid (by rw [e8]; exact Nat.mod_eq_of_lt hV))

end Go.Proofs.Ytpccgdhiekbmpaa
