/- The law 'WireTakes', from the contracts. -/
import Derived.Test.YtpccgdhiekbmpaaDoorTake
import Derived.Test.YtpccgdhiekbmpaaDoorFrame
import Derived.Test.YtpccgdhiekbmpaaDoorErrAs
namespace Go.Proofs.YtpccgdhiekbmpaaDoor
open Go.RowKit
set_option linter.unusedVariables false
attribute [local simp] be_length
attribute [local go_sem ↓] Go.wp_at_zero Go.wp_at_succ

set_option maxHeartbeats 400000 in
theorem takes_few (ad : Option Addr) (cap len m : Nat) (n : Int) (w : World) (hg : Handle w) (hk : (IntKind.u64.wrap n).tmod 8 = (m : Int)) (hm : m < 8) (hl : (len : Int) < 1 + (m : Int)) :
    Calls Tryd.prog 5 #[.slice ad len cap, .int .i64 n] w fun e w' => e = .returned (.bool true) ∧ Below w.heap.size w w' := by
  have h2 : decide ((20000 : Int) < (len : Int)) = false := by simp; omega
  go_enter Tryd.func5, Tryd.ntmps5
  go_wp2_with fail
  refine (take_end _ _ _ _ _ (by omega) (by omega) (by omega)).mono ?_
  rintro e w1 ⟨rfl, rfl⟩
  go_wp2_with fail
  refine (num_err 4 _ hg).mono ?_
  rintro e w1 ⟨rfl, hb1⟩
  go_wp2_with fail
  refine (sure_any _).mono ?_
  rintro e w2 ⟨rfl, hb2⟩
  go_wp2_with fail
  go_ret
  exact ⟨rfl, hb1.trans (hb2.mono hb1.size)⟩

set_option maxHeartbeats 400000 in
theorem takes_many (ad : Option Addr) (cap m : Nat) (l : List UInt8) (n : Int) (w : World) (hb : Bytes w ad cap l) (hk : (IntKind.u64.wrap n).tmod 8 = (m : Int)) (hm : m < 8) (hl : 20000 < l.length) :
    Calls Tryd.prog 5 #[.slice ad l.length cap, .int .i64 n] w fun e w' => e = .returned (.bool true) ∧ Below w.heap.size w w' := by
  have h1 : decide ((l.length : Int) < 1 + (m : Int)) = false := by simp; omega
  have h2 : decide ((20000 : Int) < (l.length : Int)) = true := by simp; omega
  go_enter Tryd.func5, Tryd.ntmps5
  go_wp2_with fail
  refine (take_at _ _ _ l _ (1 + m) _ rfl (by omega) hb (by omega) (by omega) (by omega)).mono ?_
  rintro e w1 ⟨g, rfl, hp, hb1⟩
  go_wp2_with fail
  refine (sure_any _).mono ?_
  rintro e w2 ⟨rfl, hb2⟩
  go_wp2_with fail
  go_ret
  exact ⟨rfl, hb1.trans (hb2.mono hb1.size)⟩

theorem step_of (x : Nat) (b : UInt8) (hx : x < 72057594037927936) : IntKind.u64.wrap (IntKind.u64.wrap ((x : Int) * 256) + (b.toNat : Int)) = ((256 * x + b.toNat : Nat) : Int) := by
  have hb := b.toNat_lt
  rw [wrapU, wrapU]
  omega

set_option maxHeartbeats 1000000 in
theorem takes_far (ad : Option Addr) (cap K m : Nat) (l : List UInt8) (n : Int) (w : World) (hb : Bytes w ad cap l) (hk : (IntKind.u64.wrap n).tmod 8 = (m : Int)) (hm : m < 8) (hK : 1 + (m : Int) = (K : Int)) (hl : K ≤ l.length) (hl2 : l.length ≤ 20000) (hcN : ¬ cap = K) :
    Calls Tryd.prog 5 #[.slice ad l.length cap, .int .i64 n] w fun e w' => e = .returned (.bool true) ∧ Below w.heap.size w w' := by
  have hle := hb.le
  have c0 : (0 : Int) ≤ (K : Int) := by omega
  have c2 : (K : Int) ≤ (l.length : Int) := by omega
  have c3 : (K : Int) ≤ (cap : Int) := by omega
  have h1 : decide ((l.length : Int) < (K : Int)) = false := by simp; omega
  have h2 : decide ((20000 : Int) < (l.length : Int)) = false := by simp; omega
  go_enter Tryd.func5, Tryd.ntmps5
  go_wp2_with fail
  refine (take_at _ _ _ l _ K _ rfl (by omega) hb (by omega) (by omega) (by omega)).mono ?_
  rintro e w1 ⟨g, rfl, hp, hb1⟩
  go_wp2_with fail
  have hbl := hb.below hb1
  go_loopw [12, 13, 14] (fun x v i wr => ∃ (j : Nat) (ad' : Option Addr) (cap' : Nat), j ≤ K ∧ i = .int .i64 j ∧ x = .int .u64 (num (l.take j)) ∧ v = .slice ad' (l.length - j) cap' ∧ Bytes wr ad' cap' (l.drop j) ∧ Below w1.heap.size w1 wr) (fun _ _ i _ => 8 - (intOf i).toNat)
  case atStart => exact ⟨0, ad, cap, by omega, rfl, rfl, rfl, by simpa using hbl, Below.refl _ _⟩
  case round =>
    obtain ⟨j, ad', cap', hj, rfl, rfl, rfl, hbj, hbel⟩ := hrel
    by_cases hlt : j < K
    · have hjl : j < l.length := by omega
      have ed : l.drop j = l[j] :: l.drop (j + 1) := List.drop_eq_getElem_cons hjl
      rw [ed] at hbj
      have e1 : Hid (num (l.take (j + 1)) = 256 * num (l.take j) + l[j].toNat) := by
        show _ = _
        rw [List.take_succ_eq_append_getElem hjl, num_snoc]
      have e2 := step_of (num (l.take j)) l[j] (num_lt7 _ (by simp; omega))
      rw [← e1.out] at e2
      have hy : ¬ (255 : Int) < (l[j].toNat : Int) := by have := l[j].toNat_lt; omega
      have E2 := hid e2
      clear e2 ed
      go_wp2_with fail
      refine (take_cons ad' cap' _ (l.length - (j + 1)) l[j] (l.drop (j + 1)) _ (by simp) (by omega) hbj).mono ?_
      rintro e w2 ⟨g2, rfl, hq, hb2⟩
      go_wp2_with fail
      go_roundw
      case rel => exact ⟨j + 1, some ⟨g2, 0, none⟩, _, by omega, by go_num, by rw [E2.out], rfl, hq, hbel.trans (hb2.mono hbel.size)⟩
      case measure => simp [intOf]; omega
    · obtain rfl : j = K := by omega
      have HS : Hid (∀ w', Below wr.heap.size wr w' → Below wr.heap.size wr w' ∧ (convert 22 9 (.slice (some ⟨g, 0, none⟩) (l.length - j) (l.length - j))).run Tryd.prog w' = .ok (.string ⟨(l.drop j).toArray⟩) w' ∧ (convert 22 9 (.slice ad' (l.length - j) cap')).run Tryd.prog w' = .ok (.string ⟨(l.drop j).toArray⟩) w' ∧ (convert 22 9 (.slice (ad.map (·.add j)) (l.length - j) (cap - j))).run Tryd.prog w' = .ok (.string ⟨(l.drop j).toArray⟩) w') := hid fun w' hw =>
        ⟨hw, string_at (hp.below (hbel.trans (hw.mono hbel.size))) (by simp), string_at (hbj.below hw) (by simp), string_at ((fun h => drop_lies h j hcN) (hbl.below (hbel.trans (hw.mono hbel.size)))) (by simp; try omega)⟩
      go_wp2_with fail
      go_region_held3 (fun w' => Below wr.heap.size wr w' ∧ (convert 22 9 (.slice (some ⟨g, 0, none⟩) (l.length - j) (l.length - j))).run Tryd.prog w' = .ok (.string ⟨(l.drop j).toArray⟩) w' ∧ (convert 22 9 (.slice ad' (l.length - j) cap')).run Tryd.prog w' = .ok (.string ⟨(l.drop j).toArray⟩) w' ∧ (convert 22 9 (.slice (ad.map (·.add j)) (l.length - j) (cap - j))).run Tryd.prog w' = .ok (.string ⟨(l.drop j).toArray⟩) w')
        (first | exact HS.out _ (Below.refl _ _).drew | exact HS.out _ (Below.refl _ _) | exact HS.out _ (Below.trans (Below.refl wr.heap.size wr).drew (by assumption)))
        (first | (go_at_call 7; refine (sure_any _).mono ?_; rintro e w3 ⟨rfl, hb3⟩))
      go_wp2_with fail
      go_ret
      exact ⟨rfl, hb1.trans ((hbel.trans (((Below.refl wr.heap.size wr).drew.trans hb3).mono hbel.size)).mono hb1.size)⟩

set_option maxHeartbeats 1000000 in
theorem takes_all (ad : Option Addr) (K m : Nat) (l : List UInt8) (n : Int) (w : World) (hb : Bytes w ad K l) (hk : (IntKind.u64.wrap n).tmod 8 = (m : Int)) (hm : m < 8) (hK : 1 + (m : Int) = (K : Int)) (hl : K ≤ l.length) (hl2 : l.length ≤ 20000) :
    Calls Tryd.prog 5 #[.slice ad l.length K, .int .i64 n] w fun e w' => e = .returned (.bool true) ∧ Below w.heap.size w w' := by
  have c0 : (0 : Int) ≤ (K : Int) := by omega
  have c2 : (K : Int) ≤ (l.length : Int) := by omega
  have c3 : (K : Int) ≤ (K : Int) := by omega
  have h1 : decide ((l.length : Int) < (K : Int)) = false := by simp; omega
  have h2 : decide ((20000 : Int) < (l.length : Int)) = false := by simp; omega
  go_enter Tryd.func5, Tryd.ntmps5
  go_wp2_with fail
  refine (take_at _ _ _ l _ K _ rfl (by omega) hb (by omega) (by omega) (by omega)).mono ?_
  rintro e w1 ⟨g, rfl, hp, hb1⟩
  go_wp2_with fail
  have hbl := hb.below hb1
  go_loopw [12, 13, 14] (fun x v i wr => ∃ (j : Nat) (ad' : Option Addr) (cap' : Nat), j ≤ K ∧ i = .int .i64 j ∧ x = .int .u64 (num (l.take j)) ∧ v = .slice ad' (l.length - j) cap' ∧ Bytes wr ad' cap' (l.drop j) ∧ Below w1.heap.size w1 wr) (fun _ _ i _ => 8 - (intOf i).toNat)
  case atStart => exact ⟨0, ad, K, by omega, rfl, rfl, rfl, by simpa using hbl, Below.refl _ _⟩
  case round =>
    obtain ⟨j, ad', cap', hj, rfl, rfl, rfl, hbj, hbel⟩ := hrel
    by_cases hlt : j < K
    · have hjl : j < l.length := by omega
      have ed : l.drop j = l[j] :: l.drop (j + 1) := List.drop_eq_getElem_cons hjl
      rw [ed] at hbj
      have e1 : Hid (num (l.take (j + 1)) = 256 * num (l.take j) + l[j].toNat) := by
        show _ = _
        rw [List.take_succ_eq_append_getElem hjl, num_snoc]
      have e2 := step_of (num (l.take j)) l[j] (num_lt7 _ (by simp; omega))
      rw [← e1.out] at e2
      have hy : ¬ (255 : Int) < (l[j].toNat : Int) := by have := l[j].toNat_lt; omega
      have E2 := hid e2
      clear e2 ed
      go_wp2_with fail
      refine (take_cons ad' cap' _ (l.length - (j + 1)) l[j] (l.drop (j + 1)) _ (by simp) (by omega) hbj).mono ?_
      rintro e w2 ⟨g2, rfl, hq, hb2⟩
      go_wp2_with fail
      go_roundw
      case rel => exact ⟨j + 1, some ⟨g2, 0, none⟩, _, by omega, by go_num, by rw [E2.out], rfl, hq, hbel.trans (hb2.mono hbel.size)⟩
      case measure => simp [intOf]; omega
    · obtain rfl : j = K := by omega
      have HS : Hid (∀ w', Below wr.heap.size wr w' → Below wr.heap.size wr w' ∧ (convert 22 9 (.slice (some ⟨g, 0, none⟩) (l.length - j) (l.length - j))).run Tryd.prog w' = .ok (.string ⟨(l.drop j).toArray⟩) w' ∧ (convert 22 9 (.slice ad' (l.length - j) cap')).run Tryd.prog w' = .ok (.string ⟨(l.drop j).toArray⟩) w' ∧ (convert 22 9 (.slice ad (l.length - j) 0)).run Tryd.prog w' = .ok (.string ⟨(l.drop j).toArray⟩) w') := hid fun w' hw =>
        ⟨hw, string_at (hp.below (hbel.trans (hw.mono hbel.size))) (by simp), string_at (hbj.below hw) (by simp), string_at ((fun h => drop_all h) (hbl.below (hbel.trans (hw.mono hbel.size)))) (by simp; try omega)⟩
      go_wp2_with fail
      go_region_held3 (fun w' => Below wr.heap.size wr w' ∧ (convert 22 9 (.slice (some ⟨g, 0, none⟩) (l.length - j) (l.length - j))).run Tryd.prog w' = .ok (.string ⟨(l.drop j).toArray⟩) w' ∧ (convert 22 9 (.slice ad' (l.length - j) cap')).run Tryd.prog w' = .ok (.string ⟨(l.drop j).toArray⟩) w' ∧ (convert 22 9 (.slice ad (l.length - j) 0)).run Tryd.prog w' = .ok (.string ⟨(l.drop j).toArray⟩) w')
        (first | exact HS.out _ (Below.refl _ _).drew | exact HS.out _ (Below.refl _ _) | exact HS.out _ (Below.trans (Below.refl wr.heap.size wr).drew (by assumption)))
        (first | (go_at_call 7; refine (sure_any _).mono ?_; rintro e w3 ⟨rfl, hb3⟩))
      go_wp2_with fail
      go_ret
      exact ⟨rfl, hb1.trans ((hbel.trans (((Below.refl wr.heap.size wr).drew.trans hb3).mono hbel.size)).mono hb1.size)⟩


theorem takes_any (ad : Option Addr) (cap len : Nat) (l : List UInt8) (n : Int) (w : World) (hlen : len = l.length) (hg : Handle w) (hb : Bytes w ad cap l) :
    Calls Tryd.prog 5 #[.slice ad len cap, .int .i64 n] w fun e w' => e = .returned (.bool true) ∧ Below w.heap.size w w' := by
  subst hlen
  obtain ⟨m, hm, hk⟩ := width_of n
  by_cases h1 : l.length < 1 + m
  · exact takes_few ad cap l.length m n w hg hk hm (by omega)
  · by_cases h2 : 20000 < l.length
    · exact takes_many ad cap m l n w hb hk hm h2
    · by_cases hc : cap = 1 + m
      · subst hc
        exact takes_all ad (1 + m) m l n w hb hk hm (by omega) (by omega) (by omega)
      · exact takes_far ad cap (1 + m) m l n w hb hk hm (by omega) (by omega) (by omega) hc

end Go.Proofs.YtpccgdhiekbmpaaDoor
