/- face.Walk, walked. -/
import Derived.Test.YtieglcjfphmglaaDoorMem11
namespace Go.Proofs.YtieglcjfphmglaaDoor
open Go.RowKit
set_option linter.unusedVariables false

open Pq (fl fl_length fl_succ)

section
variable {w : World} {lo tb V E : Nat} {R : Nat → List Nat}

set_option maxRecDepth 100000 in
set_option maxHeartbeats 2000000 in
theorem walk_ok (h : TA w lo tb V E R) (hw : Tw V E R) (x : Nat) (hk : In V R x) :
    Calls Tryd.prog 10 #[.pointer (some ⟨tb, 0, none⟩), .int .i64 (x : Int)] w fun e w' => ∃ u, e = .returned (.tuple #[u, .nilIface]) ∧ Rw w.heap.size w' u (Pq.orb (fx V R) x) ∧ Below w.heap.size w w' := by
  obtain ⟨i0, hif, hz0, hz1, hz2⟩ := info_parts infoInt
  have pm := fx_pm h.tn hw
  have hx := hk.low h.tn
  have hE := h.hE
  obtain ⟨hp, hpn⟩ := pm.per_is hx
  obtain ⟨d, hd⟩ : ∃ d, Pq.per (fx V R) x = d := ⟨_, rfl⟩
  have horb : Hid (Pq.orb (fx V R) x = fl d (fun i => Pq.it (fx V R) i x)) := by unfold Pq.orb; rw [hd]; exact hid rfl
  rw [hd] at hp hpn
  have hd1 := hp.pos
  replace hp := hid hp
  have hin := hid (fun k => (it_in h.tn hw (d := x) k).2 hk)
  have hpm := hid pm
  have hnx := hid (fnext_in h hw x hk)
  have hbe := hid (fun (y : World) (k : Nat) (hy : Below w.heap.size w y) => behind_ok (h.more hy) hw _ (hin.out k))
  clear h hw hk pm hd
  have hfx : Hid (fx V R x = Pq.it (fx V R) 1 x) := hid rfl
  go_enter Tryd.func10, Tryd.ntmps10
  go_wp2_with fail
  refine hnx.out.mono ?_
  rintro e w1 ⟨rfl, b1⟩
  have hst0 : Hid (Rw w.heap.size (w1.alloc (.cells #[.int .i64 (x : Int)] 3)) (.slice (some ⟨w1.heap.size, 0, none⟩) 1 1) (fl 1 (fun i => Pq.it (fx V R) i x)) ∧ Below w.heap.size w (w1.alloc (.cells #[.int .i64 (x : Int)] 3))) :=
    ⟨World.ownsRow_lit w1 #[.int .i64 (x : Int)] 1 b1.size (by unfold maxLen; omega) rfl, b1.alloc b1.size _⟩
  clear b1 hnx
  go_wp2_with fail
  go_loopw [6, 8] (fun u v wr => ∃ k : Nat, 1 ≤ k ∧ k ≤ d ∧ u = .int .i64 (Pq.it (fx V R) k x : Int) ∧ Hid (Rw w.heap.size wr v (fl k (fun i => Pq.it (fx V R) i x)) ∧ Below w.heap.size w wr))
    (fun _ v _ => d - sln v)
  case atStart => exact ⟨1, by omega, by omega, rfl, hst0⟩
  case round =>
    obtain ⟨k, hk1, hkd, rfl, hst⟩ := hrel
    clear hst0
    have hyl := hpm.out.it_lt hx k
    have hbk := hid (fun y hy => hbe.out y k hy)
    obtain ⟨y, hy⟩ : ∃ y, Pq.it (fx V R) k x = y := ⟨_, rfl⟩
    have hyh := hid hy
    rw [hy] at hyl hbk ⊢
    by_cases e : y = x
    · obtain rfl : k = d := by
        rcases Nat.lt_or_ge k d with hl | hl
        · exact absurd (hy.trans e) (hp.out.least k hk1 hl)
        · omega
      have t1 : ((y : Int) == (x : Int)) = true := by simp [e]
      have t2 : ((y : Int) != (x : Int)) = false := by simp [e]
      clear hy
      obtain ⟨hr, hb⟩ := hst.out
      have fin := hid (And.intro hr hb)
      clear hr hb hst
      subst e
      go_wp2_with fail
      go_ret2
      exact ⟨_, rfl, by rw [horb.out]; exact fin.out.1, fin.out.2⟩
    · have hkd' : k < d := by
        rcases Nat.lt_or_ge k d with hl | hl
        · exact hl
        · obtain rfl : k = d := by omega
          exact absurd (hy.symm.trans hp.out.at_) e
      have t1 : ((y : Int) == (x : Int)) = false := by simp; omega
      have t2 : ((y : Int) != (x : Int)) = true := by simp; omega
      have t3 : ¬ ((y : Int) = (x : Int)) := by omega
      have hown : wr.ownsRow w.heap.size 3 1 u8 (fl k (fun i => Pq.it (fx V R) i x)).length (ncs (fl k (fun i => Pq.it (fx V R) i x))) := hst.out.1
      rw [fl_length] at hown
      have hbw := hst.out.2
      have hsz := hbw.size
      have hln := hid (own_sln hown)
      clear hy hst
      go_wp2_with (at_builtin; refine wpList_append_own _ rfl (.tmp 23) (.tmp 25) 29 rfl w.heap.size 3 i0 _ 1 8 Tryd.underlying29 hif hz0 hz1 hz2 rfl (by decide) _ _ _ rfl (hown.alloc _) ⟨wr.heap.size, 0, none⟩ 1 1 [.int .i64 (y : Int)] rfl rfl (one_new wr _ _) (by simp [Value.oneCell']) (by unfold maxLen; omega) (by omega) (by simp; omega) ?_; intro v' w' ho' hg' _; refine Hid.out ?_)
      have hb' := below_row (hbw.alloc hsz _) (Nat.le_refl _) (hown.alloc _) (Nat.le_refl _) hg'
      have hln' := hid (own_sln ho')
      have hnew := hid (And.intro (show Rw w.heap.size w' v' (fl (k + 1) (fun i => Pq.it (fx V R) i x)) from by
        unfold Rw
        rw [fl_length, fl_succ, ncs_append, hyh.out]
        exact ho') hb')
      have hbe' := hid (hbk.out w' hb')
      clear ho' hg' hown hbw hb'
      refine hid ?_
      go_wp2_with fail
      refine hbe'.out.mono ?_
      rintro e w2 ⟨rfl, b2⟩
      have hnew2 := hid (And.intro (hnew.out.1.more b2) (hnew.out.2.trans (b2.mono hnew.out.2.size)))
      clear hnew b2 hbe'
      go_wp2_with fail
      go_roundw
      case rel => exact ⟨k + 1, by omega, by omega, by rw [← hyh.out]; rfl, hnew2⟩
      case measure => rw [hln.out, hln'.out]; omega

set_option maxRecDepth 100000 in
set_option maxHeartbeats 1000000 in
theorem walk_bad {tb : Nat} (d n : Int) (z : Int) (y : World) (hn : Calls Tryd.prog 11 #[.pointer (some ⟨tb, 0, none⟩), .int .i64 d] y fun x w' => x = .returned (.tuple #[.int .i64 n, .iface 74 (.int .i64 z)]) ∧ Below y.heap.size y w') :
    Calls Tryd.prog 10 #[.pointer (some ⟨tb, 0, none⟩), .int .i64 d] y fun e w' => e = .returned (.tuple #[.slice none 0 0, .iface 74 (.int .i64 z)]) ∧ Below y.heap.size y w' := by
  replace hn := hid hn
  go_enter Tryd.func10, Tryd.ntmps10
  go_wp2_with fail
  refine hn.out.mono ?_
  rintro e w1 ⟨rfl, b1⟩
  replace b1 := hid b1
  go_wp2_with fail
  go_ret2
  exact ⟨rfl, b1.out⟩
end
end Go.Proofs.YtieglcjfphmglaaDoor
