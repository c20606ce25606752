/- 'sure', walked. -/
import Derived.Test.YtjngdecpomogbaaDoorCycles8
namespace Go.Proofs.YtjngdecpomogbaaDoor
open Go.RowKit
set_option linter.unusedVariables false

/-- The small order of 'sure'. -/
def fs (i : Nat) : Nat := if i = 0 then 1 else if i = 1 then 0 else i

theorem fs_pm : Pm 3 fs := by
  refine ⟨fun i hi => ?_, fun i j hi hj e => ?_⟩
  · unfold fs; split
    · omega
    · split <;> omega
  · match i, j, hi, hj with
    | 0, 0, _, _ => rfl
    | 1, 1, _, _ => rfl
    | 2, 2, _, _ => rfl
    | 0, 1, _, _ => simp [fs] at e
    | 0, 2, _, _ => simp [fs] at e
    | 1, 0, _, _ => simp [fs] at e
    | 1, 2, _, _ => simp [fs] at e
    | 2, 0, _, _ => simp [fs] at e
    | 2, 1, _, _ => simp [fs] at e

theorem fs_cyc : cyc fs 3 = [[0, 1], [2]] := by
  have p0 : Per fs 0 2 := ⟨by omega, rfl, fun k h1 h2 => by
    obtain rfl : k = 1 := by omega
    decide⟩
  have p2 : Per fs 2 1 := ⟨by omega, rfl, fun k h1 h2 => by omega⟩
  have l0 : lst fs 0 := fun k => Nat.zero_le _
  have l1 : ¬ lst fs 1 := fun h => by have := h 1; revert this; decide
  have h2 : ∀ k, it fs k 2 = 2 := fun k => by
    induction k with
    | zero => rfl
    | succ k ih => show fs (it fs k 2) = 2; rw [ih]; rfl
  have l2 : lst fs 2 := fun k => by rw [h2]; exact Nat.le_refl _
  rw [cyc_yes l2, cyc_no l1, cyc_yes l0]
  have o0 : orb fs 0 = [0, 1] := by unfold orb; rw [p0.eq]; rfl
  have o2 : orb fs 2 = [2] := by unfold orb; rw [p2.eq]; rfl
  rw [o0, o2]
  simp [cyc]

theorem lit_rw (w : World) (cs : Array Value) (l : List Nat) (h : cs.toList = ics l) (n : Nat) (hn : n = l.length) (hl : l.length ≤ 1000) : Rw 0 (w.alloc (.cells cs 3)) (.slice (some ⟨w.heap.size, 0, none⟩) n n) l := by
  subst hn
  unfold Rw
  rw [← h]
  refine World.ownsRow_lit w cs l.length (Nat.zero_le _) (by unfold maxLen; omega) ?_
  have := congrArg List.length h
  simp at this
  omega

set_option maxRecDepth 100000 in
set_option maxHeartbeats 1000000 in
theorem sure_ok (w : World) : Calls Tryd.prog 8 #[] w fun e w' => e = .returned (.bool true) ∧ Below w.heap.size w w' := by
  have hI : Rw 0 (w.alloc (.cells #[.int .i64 1, .int .i64 0, .int .i64 2] 3)) (.slice (some ⟨w.heap.size, 0, none⟩) 3 3) (fl 3 fs) := lit_rw w _ _ rfl 3 rfl (by simp)
  have hcy := hid (cycles_yes _ 3 fs _ hI.iv fs_pm (by omega))
  have b0 := hid (balloc w (.cells #[.int .i64 1, .int .i64 0, .int .i64 2] 3))
  clear hI
  go_enter Tryd.func8, Tryd.ntmps8
  go_wp2_with fail
  refine hcy.out.mono ?_
  rintro e w1 ⟨u, rfl, hg, b1⟩
  rw [fs_cyc] at hg
  replace b1 : Hid (Below w.heap.size w w1) := b0.out.trans (b1.mono b0.out.size)
  obtain ⟨wa, hwa⟩ : ∃ wa, w1.alloc (.cells #[.int .i64 0, .int .i64 1] 3) = wa := ⟨_, rfl⟩
  have ba : Below w1.heap.size w1 wa := hwa ▸ balloc w1 _
  have ra : Rw 0 wa (.slice (some ⟨w1.heap.size, 0, none⟩) 2 2) [0, 1] := hwa ▸ lit_rw w1 _ _ rfl 2 rfl (by simp)
  have sa : wa.heap.size = w1.heap.size + 1 := by rw [← hwa]; simp
  obtain ⟨wb, hwb⟩ : ∃ wb, wa.alloc (.cells #[.int .i64 2] 3) = wb := ⟨_, rfl⟩
  have bb : Below wa.heap.size wa wb := hwb ▸ balloc wa _
  have rb : Rw 0 wb (.slice (some ⟨wa.heap.size, 0, none⟩) 1 1) [2] := hwb ▸ lit_rw wa _ _ rfl 1 rfl (by simp)
  have sb : wb.heap.size = w1.heap.size + 1 + 1 := by rw [← hwb]; simp [sa]
  rw [sa] at rb
  obtain ⟨wc, hwc⟩ : ∃ wc, wb.alloc (.cells #[.slice (some ⟨w1.heap.size, 0, none⟩) 2 2, .slice (some ⟨w1.heap.size + 1, 0, none⟩) 1 1] 22) = wc := ⟨_, rfl⟩
  have bc : Below wb.heap.size wb wc := hwc ▸ balloc wb _
  have rc : Rg 0 wc (.slice (some ⟨wb.heap.size, 0, none⟩) 2 2) [[0, 1], [2]] := by
    refine ⟨[.slice (some ⟨w1.heap.size, 0, none⟩) 2 2, .slice (some ⟨w1.heap.size + 1, 0, none⟩) 1 1], rfl, ?_, fun i l u hi hj => ?_⟩
    · rw [← hwc]; exact World.ownsRow_lit wb _ 2 (Nat.zero_le _) (by unfold maxLen; omega) rfl
    · match i, hi, hj with
      | 0, hi, hj =>
        simp at hi hj; subst hi hj
        exact (ra.more bb).more bc
      | 1, hi, hj =>
        simp at hi hj; subst hi hj
        exact rb.more bc
      | i + 2, hi, hj => simp at hi
  have hbc : Hid (Below w.heap.size w wc) := ((b1.out.trans (ba.mono b1.out.size)).trans (bb.mono (Nat.le_trans b1.out.size ba.size))).trans (bc.mono (Nat.le_trans b1.out.size (Nat.le_trans ba.size bb.size)))
  have hls := hid (lists_ok u _ _ wc (((hg.more ba).more bb).more bc).rv rc.rv)
  rw [sb] at hls
  have hw : ((w1.alloc (.cells #[.int .i64 0, .int .i64 1] 3)).alloc (.cells #[.int .i64 2] 3)).alloc (.cells #[.slice (some ⟨w1.heap.size, 0, none⟩) 2 2, .slice (some ⟨w1.heap.size + 1, 0, none⟩) 1 1] 22) = wc := by rw [hwa, hwb, hwc]
  clear hg hwa hwb hwc ba bb bc ra rb rc sa sb hcy b0
  replace hw := hid hw
  go_wp2_with (rw [hw.out]; refine hls.out.mono ?_; rintro e w5 ⟨rfl, m, rfl⟩)
  go_ret
  exact ⟨rfl, belowN hbc.out m⟩

end Go.Proofs.YtjngdecpomogbaaDoor
