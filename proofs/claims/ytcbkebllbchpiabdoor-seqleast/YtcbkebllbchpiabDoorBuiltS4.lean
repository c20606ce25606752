/- 'built', walked, with what its values are. -/
import Derived.Test.YtcbkebllbchpiabDoorLaws4
namespace Go.Proofs.YtcbkebllbchpiabDoor
open Go.RowKit
set_option linter.unusedVariables false

/-- The values are small. -/
def Small (v : Nat → Int) : Prop := ∀ z, -1099511627776 ≤ v z ∧ v z ≤ 1099511627776
theorem small_zero : Small zero := fun z => by simp [zero]
theorem small_set {v : Nat → Int} {x : Nat} {z : Int} (h : Small v) (hz : -1099511627776 ≤ z ∧ z ≤ 1099511627776) : Small (setV v x z) := fun y => by
  unfold setV; split
  · exact hz
  · exact h y
theorem small_tmod (z : Int) : -1099511627776 ≤ z.tmod 1099511627776 ∧ z.tmod 1099511627776 ≤ 1099511627776 := by
  have h1 := Int.tmod_lt_of_pos z (b := 1099511627776) (by decide)
  have h2 := Int.lt_tmod_of_pos z (b := 1099511627776) (by decide)
  omega
theorem small_wrap (z : Int) : -1099511627776 ≤ wrap64 (z.tmod 1099511627776) ∧ wrap64 (z.tmod 1099511627776) ≤ 1099511627776 := by
  have := small_tmod z
  rw [IntWalk.wrap64_in _ ⟨by omega, by omega⟩]; exact this

set_option maxRecDepth 100000 in
set_option maxHeartbeats 4000000 in
theorem builtS_ok (K : Nat) (ad : Option Addr) (qs : List Act4) (cap : Nat) (w : World) (hK1 : 1 ≤ K) (hK2 : K ≤ 100) (hq : Acts w ad qs) :
    Calls Tryd.prog 4 #[.int .i64 (K : Int), .slice ad qs.length cap] w fun e w' => ∃ fb, e = .returned (.pointer (some ⟨fb, 0, none⟩)) ∧ ∃ v seq, Small v ∧ FS w.heap.size w fb K v seq w' := by
  have hql := hq.bound
  have hq := hid hq
  go_enter Tryd.func4, Tryd.ntmps4
  go_wp2_with fail
  refine (new_ok K w (by omega) (by omega)).mono ?_
  rintro e w1 ⟨fb, rfl, h1⟩
  have st1 : Hid (∃ v seq, Small v ∧ FS w.heap.size w fb K v seq w1) := ⟨_, _, small_zero, h1⟩
  clear h1
  go_wp2_with fail
  go_loopw [7, 8, 9, 58] (fun u _ _ _ wr => ∃ t : Nat, t ≤ qs.length ∧ t ≤ 60 ∧ u = .int .i64 (t : Int) ∧ Hid (∃ v seq, Small v ∧ FS w.heap.size w fb K v seq wr)) (fun u _ _ _ _ => 60 - (intOf u).toNat)
  case atStart => exact ⟨0, by omega, by omega, by go_num, st1⟩
  case round =>
    clear st1
    obtain ⟨t, ht1, ht2, rfl, hst⟩ := hrel
    by_cases hgo : t < qs.length ∧ t < 60
    · obtain ⟨hgo1, hgo2⟩ := hgo
      obtain ⟨q, hqt⟩ : ∃ q, qs[t]? = some q := ⟨_, List.getElem?_eq_getElem hgo1⟩
      obtain ⟨v, seq, hsm, h1⟩ := hst.out
      have hsm := hid hsm
      cases ad with
      | none => have := hq.out.nil rfl; subst this; simp at hgo1
      | some a0 =>
        obtain ⟨c0, c1, c2, c3⟩ := (hq.out.below h1.below).at hqt
        have h1 := hid h1
        obtain ⟨a, ha, haK⟩ := mod_inN q.a K hK1 (by omega)
        obtain ⟨b, hb, hbK⟩ := mod_inN q.b K hK1 (by omega)
        obtain ⟨κ, hκ, hκ8⟩ := mod_inN q.k 8 (by decide) (by decide)
        have i1 : (0 : Int) ≤ (t : Int) := by omega
        have i2 : (t : Int) < (qs.length : Int) := by omega
        clear hqt hst
        go_wp2_with fail
        go_region
        rw [ha, hb]
        have h2 := hid (h1.out.more (Below.refl _ _).drew)
        generalize hwd : wr.drew = w2 at h2 ⊢
        have d0 : w2.cell? (a0.add (t * 4)) = some (.int .i64 q.k) := by rw [← hwd]; exact c0
        have d3 : w2.cell? ⟨(a0.add (t * 4)).block, (a0.add (t * 4)).off + 3, none⟩ = some (.int .i64 q.v) := by rw [← hwd]; exact c3
        have hκ : wrap64 ((IntKind.u64.wrap q.k).tmod 8) = (κ : Int) := hκ
        clear h1 c0 c1 c2 c3 ha hb hwd
        have kinds : κ = 3 ∨ κ = 4 ∨ κ = 5 ∨ (κ ≠ 3 ∧ κ ≠ 4 ∧ κ ≠ 5) := by omega
        rcases kinds with rfl | rfl | rfl | ⟨n3, n4, n5⟩
        · go_wp2_with fail
          refine (h2.out.cutAny a haK).mono ?_
          rintro e w3 ⟨r3, rfl, ⟨seq3, h3⟩, _⟩
          have st4 : Hid (∃ v seq, Small v ∧ FS w.heap.size w fb K v seq w3) := ⟨_, _, hsm.out, h3⟩
          clear h2 h3 d0 d3 hκ
          go_wp2_with fail
          go_roundw
          case rel => exact ⟨t + 1, by omega, by omega, by go_num, st4⟩
          case measure => simp [intOf]; omega
        · go_wp2_with fail
          refine (h2.out.reverseAny a haK).mono ?_
          rintro e w3 ⟨r3, rfl, ⟨seq3, h3⟩, _⟩
          have st4 : Hid (∃ v seq, Small v ∧ FS w.heap.size w fb K v seq w3) := ⟨_, _, hsm.out, h3⟩
          clear h2 h3 d0 d3 hκ
          go_wp2_with fail
          go_roundw
          case rel => exact ⟨t + 1, by omega, by omega, by go_num, st4⟩
          case measure => simp [intOf]; omega
        · go_wp2_with fail
          refine (h2.out.set a haK _).mono ?_
          rintro e w3 ⟨rfl, h3, _⟩
          have st4 : Hid (∃ v seq, Small v ∧ FS w.heap.size w fb K v seq w3) := ⟨_, _, small_set hsm.out (by first | exact small_tmod _ | exact small_wrap _), h3⟩
          clear h2 h3 d0 d3 hκ
          go_wp2_with fail
          go_roundw
          case rel => exact ⟨t + 1, by omega, by omega, by go_num, st4⟩
          case measure => simp [intOf]; omega
        · have k3 : ((κ : Int) == 3) = false := by rw [beq_eq_false_iff_ne]; omega
          have k4 : ((κ : Int) == 4) = false := by rw [beq_eq_false_iff_ne]; omega
          have k5 : ((κ : Int) == 5) = false := by rw [beq_eq_false_iff_ne]; omega
          go_wp2_with fail
          refine (h2.out.joinAny a b haK hbK).mono ?_
          rintro e w3 ⟨r3, rfl, ⟨seq3, h3⟩, _⟩
          have st4 : Hid (∃ v seq, Small v ∧ FS w.heap.size w fb K v seq w3) := ⟨_, _, hsm.out, h3⟩
          clear h2 h3 d0 d3 hκ
          go_wp2_with fail
          go_roundw
          case rel => exact ⟨t + 1, by omega, by omega, by go_num, st4⟩
          case measure => simp [intOf]; omega
    · have hstop : qs.length ≤ t ∨ (t < qs.length ∧ 60 ≤ t) := by omega
      clear hgo
      rcases hstop with hstop | ⟨hstop1, hstop2⟩
      all_goals
        go_wp2_with fail
        go_ret
        exact ⟨fb, rfl, hst.out⟩

end Go.Proofs.YtcbkebllbchpiabDoor
