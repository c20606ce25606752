/- 'paired', walked. -/
import Derived.Test.YtdlggnibgnflnaaDoorTLay10
namespace Go.Proofs.YtdlggnibgnflnaaDoor
open Go.RowKit
set_option linter.unusedVariables false

theorem TA.laid {w : World} {lo tb V E : Nat} {R : Nat → List Nat} (h : TA w lo tb V E R) (d : Nat) : ∃ (a p : Nat) (o : Int) (z : Bool), (z = true ↔ In V R d) ∧ (∀ y, Below w.heap.size w y → Calls Tryd.prog 37 #[.pointer (some ⟨tb, 0, none⟩), .int .i64 (d : Int)] y fun e w' => e = .returned (.agg #[.int .i32 (a : Int), .int .i32 (p : Int), .int .i32 o]) ∧ Below y.heap.size y w') ∧
    ∀ y, Calls Tryd.prog 49 #[.agg #[.int .i32 (a : Int), .int .i32 (p : Int), .int .i32 o]] y fun e w' => e = .returned (.bool z) ∧ Below y.heap.size y w' := by
  obtain ⟨a, p, o, hat, _, _, _, ho⟩ := at_any h (d : Int)
  by_cases e : o = -1
  · subst e
    have hn := ho.1 rfl
    exact ⟨a, p, -1, false, ⟨fun q => absurd q (by decide), fun q => absurd ⟨d, rfl, q⟩ hn⟩, hat, fun y => dlaid_no _ _ y⟩
  · refine ⟨a, p, o, true, ⟨fun _ => ?_, fun _ => rfl⟩, hat, fun y => dlaid_yes _ _ o y e⟩
    by_cases hi : In V R d
    · exact hi
    · exact absurd (ho.2 (fun ⟨d', q, hd'⟩ => by
        obtain rfl : d = d' := by omega
        exact hi hd')) e

set_option maxRecDepth 100000 in
set_option maxHeartbeats 4000000 in
theorem paired_ok {w : World} {lo tb V E : Nat} {R : Nat → List Nat} (h : TA w lo tb V E R) :
    Calls Tryd.prog 45 #[.pointer (some ⟨tb, 0, none⟩)] w fun x w' => ∃ z : Bool, x = .returned (.bool z) ∧ Below w.heap.size w w' ∧ (z = true ↔ Tw V E R) := by
  have hEb := h.hE
  have hla := hid (fun d => h.laid d)
  obtain ⟨dv, sv, K, M, D, S, h1, h2⟩ := h
  have hK := h1.hK
  have c2 := h1.c2
  obtain ⟨ad, cap, rfl, hc1, hc2⟩ := own_any h1.da
  have hfar : Hid (∀ e, (K + 1) / 2 ≤ e → ¬ In V R (2 * e) ∧ ¬ In V R (2 * e + 1)) := fun e he => by
    have q : ∀ d, K ≤ d → ¬ In V R d := fun d hd hi => by
      have hl := (h2.laid d).2 hi
      rw [h1.rd d hd] at hl
      simp [nw] at hl
    exact ⟨q _ (by omega), q _ (by omega)⟩
  have hs := hid (fun e (he : e ≤ 1048576) y => sides_ok e y he)
  have hq : (K + 1) / 2 ≤ E := by omega
  obtain ⟨H, hH⟩ : ∃ H, (K + 1) / 2 = H := ⟨_, rfl⟩
  have hdv : Int.tdiv ((K : Int) + 1) 2 = (H : Int) := by rw [Int.tdiv_eq_ediv_of_nonneg (by omega), ← hH]; omega
  rw [hH] at hfar hq
  clear h1 h2
  go_enter Tryd.func45, Tryd.ntmps45
  go_wp2_with fail
  try simp only [hdv]
  clear hdv c2
  go_loopw [3, 4, 5, 13] (fun _ _ _ s13 wr => ∃ e : Nat, e ≤ H ∧ s13 = .int .i64 (e : Int) ∧ Hid (Below w.heap.size w wr ∧ ∀ e', e' < e → (In V R (2 * e') ↔ In V R (2 * e' + 1)))) (fun _ _ _ s13 _ => H - (intOf s13).toNat)
  case atStart => exact ⟨0, by omega, by go_num, Below.refl _ _, fun e he => by omega⟩
  case round =>
    obtain ⟨e, he, rfl, hst⟩ := hrel
    by_cases hc : e < H
    · have t1 : decide ((e : Int) < (H : Int)) = true := decide_eq_true (by omega)
      obtain ⟨a1, p1, o1, z1, hz1, hat1, hl1⟩ := hla.out (2 * e)
      obtain ⟨a2, p2, o2, z2, hz2, hat2, hl2⟩ := hla.out (2 * e + 1)
      replace hz1 := hid hz1
      replace hz2 := hid hz2
      replace hat1 := hid hat1
      replace hat2 := hid hat2
      replace hl1 := hid hl1
      replace hl2 := hid hl2
      have hss := hid (hs.out e (by omega))
      go_wp2_with fail
      refine (hss.out _).mono ?_
      rintro x w2 ⟨rfl, rfl⟩
      go_wp2_with fail
      refine (hat1.out _ hst.out.1).mono ?_
      rintro x w3 ⟨rfl, b3⟩
      have hb3 := hid (hst.out.1.trans (b3.mono hst.out.1.size))
      clear b3
      go_wp2_with fail
      refine (hl1.out _).mono ?_
      rintro x w4 ⟨rfl, b4⟩
      have hb4 := hid (hb3.out.trans (b4.mono hb3.out.size))
      clear b4 hb3
      go_wp2_with fail
      refine (hat2.out _ hb4.out).mono ?_
      rintro x w5 ⟨rfl, b5⟩
      have hb5 := hid (hb4.out.trans (b5.mono hb4.out.size))
      clear b5 hb4
      go_wp2_with fail
      refine (hl2.out _).mono ?_
      rintro x w6 ⟨rfl, b6⟩
      have hb6 := hid (hb5.out.trans (b6.mono hb5.out.size))
      clear b6 hb5
      by_cases hzz : z1 = z2
      · subst hzz
        cases z1
        all_goals
          go_wp2_with fail
          go_roundw
          case rel =>
            refine ⟨e + 1, by omega, by go_num, hb6.out, fun e' he' => ?_⟩
            by_cases q : e' = e
            · subst q
              exact hz1.out.symm.trans hz2.out
            · exact hst.out.2 e' (by omega)
          case measure => simp [intOf]; omega
      · have hno : Hid (¬ Tw V E R) := fun ht => hzz (by
          have h3 := ht e (by omega)
          have h4 := hz1.out.trans (h3.trans hz2.out.symm)
          cases z1 <;> cases z2 <;> simp_all)
        cases z1 <;> cases z2
        · exact absurd rfl hzz
        · clear hzz
          go_wp2_with fail
          go_ret
          exact ⟨false, rfl, hb6.out, fun q => absurd q (by decide), fun q => absurd q hno.out⟩
        · clear hzz
          go_wp2_with fail
          go_ret
          exact ⟨false, rfl, hb6.out, fun q => absurd q (by decide), fun q => absurd q hno.out⟩
        · exact absurd rfl hzz
    · obtain rfl : H = e := by omega
      have t1 : decide ((H : Int) < (H : Int)) = false := decide_eq_false (by omega)
      go_wp2_with fail
      go_ret
      refine ⟨true, rfl, hst.out.1, fun _ e he => ?_, fun _ => rfl⟩
      by_cases q : e < H
      · exact hst.out.2 e q
      · have := hfar.out e (by omega)
        exact ⟨fun h => absurd h this.1, fun h => absurd h this.2⟩

end Go.Proofs.YtdlggnibgnflnaaDoor
