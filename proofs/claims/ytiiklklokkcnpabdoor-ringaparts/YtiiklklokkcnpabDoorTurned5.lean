/- 'turned', walked: Rings by some acts. -/
import Derived.Test.YtiiklklokkcnpabDoorSure5
import Derived.Test.YtiiklklokkcnpabDoorOpen5
namespace Go.Proofs.YtiiklklokkcnpabDoor
open Go.RowKit
set_option linter.unusedVariables false

set_option maxRecDepth 100000 in
set_option maxHeartbeats 2000000 in
theorem turned_ok (K : Nat) (ad : Option Addr) (qs : List Act3) (cap : Nat) (w : World) (hK1 : 1 ≤ K) (hK2 : K ≤ 100) (hq : Acts3 w ad qs) :
    Calls Tryd.prog 4 #[.int .i64 (K : Int), .slice ad qs.length cap] w fun e w' => ∃ rb fb v seq, e = .returned (.pointer (some ⟨rb, 0, none⟩)) ∧ RG w.heap.size w rb fb K v seq w' := by
  have hql := hq.bound
  have hq := hid hq
  go_enter Tryd.func4, Tryd.ntmps4
  go_wp2_with fail
  refine (gnew_ok K w (by omega) (by omega)).mono ?_
  rintro e w1 ⟨rb, fb, rfl, h1⟩
  have st1 : Hid (∃ v seq, RG w.heap.size w rb fb K v seq w1) := ⟨_, _, h1⟩
  clear h1
  go_wp2_with fail
  go_loopw [7, 8, 9] (fun u _ _ wr => ∃ t : Nat, t ≤ qs.length ∧ t ≤ 40 ∧ u = .int .i64 (t : Int) ∧ Hid (∃ v seq, RG w.heap.size w rb fb K v seq wr)) (fun u _ _ _ => 40 - (intOf u).toNat)
  case atStart => exact ⟨0, by omega, by omega, by go_num, st1⟩
  case round =>
    clear st1
    obtain ⟨t, ht1, ht2, rfl, hst⟩ := hrel
    by_cases hgo : t < qs.length ∧ t < 40
    · obtain ⟨hgo1, hgo2⟩ := hgo
      obtain ⟨q, hqt⟩ : ∃ q, qs[t]? = some q := ⟨_, List.getElem?_eq_getElem hgo1⟩
      obtain ⟨v, seq, h1⟩ := hst.out
      cases ad with
      | none => have := hq.out.nil rfl; subst this; simp at hgo1
      | some a0 =>
        obtain ⟨c0, c1, c2⟩ := (hq.out.below h1.fs.below).at hqt
        have h1 := hid h1
        obtain ⟨a, ha, haK⟩ := mod_inN q.a K hK1 (by omega)
        obtain ⟨b, hb, hbK⟩ := mod_inN q.b K hK1 (by omega)
        have i1 : (0 : Int) ≤ (t : Int) := by omega
        have i2 : (t : Int) < (qs.length : Int) := by omega
        clear hqt hst
        go_wp2_with fail
        go_region
        rw [ha, hb]
        have h2 := hid (h1.out.drew)
        generalize hwd : wr.drew = w2 at h2 ⊢
        have d0 : w2.cell? (a0.add (t * 3)) = some (.int .i64 q.k) := by rw [← hwd]; exact c0
        clear h1 c0 c1 c2 ha hb hwd
        cases hk4 : (Int.tmod q.k 4 == 0) with
        | true =>
          go_wp2_with fail
          refine (h2.out.splitAny a b haK hbK).mono ?_
          rintro e w3 ⟨r3, rfl, seq3, h3⟩
          have st4 : Hid (∃ v seq, RG w.heap.size w rb fb K v seq w3) := ⟨_, _, h3⟩
          clear h2 h3 d0
          go_wp2_with fail
          go_roundw
          case rel => exact ⟨t + 1, by omega, by omega, by go_num, st4⟩
          case measure => simp [intOf]; omega
        | false =>
          go_wp2_with fail
          refine (h2.out.mergeAny a b haK hbK).mono ?_
          rintro e w3 ⟨r3, rfl, seq3, h3⟩
          have st4 : Hid (∃ v seq, RG w.heap.size w rb fb K v seq w3) := ⟨_, _, h3⟩
          clear h2 h3 d0
          go_wp2_with fail
          go_roundw
          case rel => exact ⟨t + 1, by omega, by omega, by go_num, st4⟩
          case measure => simp [intOf]; omega
    · have hstop : qs.length ≤ t ∨ (t < qs.length ∧ 40 ≤ t) := by omega
      clear hgo
      rcases hstop with hstop | ⟨hstop1, hstop2⟩
      all_goals
        go_wp2_with fail
        go_ret
        obtain ⟨v, seq, h1⟩ := hst.out
        exact ⟨rb, fb, v, seq, rfl, h1⟩

end Go.Proofs.YtiiklklokkcnpabDoor
