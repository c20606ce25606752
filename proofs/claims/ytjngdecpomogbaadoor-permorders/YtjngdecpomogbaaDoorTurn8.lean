/- 'Inverse', 'Then', walked. -/
import Derived.Test.YtjngdecpomogbaaDoorCheck8
namespace Go.Proofs.YtjngdecpomogbaaDoor
open Go.RowKit
set_option linter.unusedVariables false

/-- Half turned back. -/
def half (n : Nat) (f : Nat → Nat) (j : Nat) (y : Nat) : Nat := if inv n f y < j then inv n f y else 0

theorem half_next {n : Nat} {f : Nat → Nat} (h : Pm n f) {j : Nat} (hj : j < n) : fl n (fun y => if y = f j then j else half n f j y) = fl n (half n f (j + 1)) := fl_congr (fun y hy => by
  unfold half
  by_cases e : y = f j
  · subst e; rw [if_pos rfl, h.inv_at hj, if_pos (by omega)]
  · have hne : inv n f y ≠ j := fun e2 => e (by rw [← (h.at_inv hy).1, e2])
    rw [if_neg e]
    by_cases hl : inv n f y < j
    · rw [if_pos hl, if_pos (by omega)]
    · rw [if_neg hl, if_neg (by omega)])

theorem half_all {n : Nat} {f : Nat → Nat} (h : Pm n f) : fl n (half n f n) = fl n (inv n f) := fl_congr (fun y hy => by
  unfold half
  rw [if_pos (h.at_inv hy).2])

set_option maxRecDepth 100000 in
set_option maxHeartbeats 2000000 in
theorem inverse_yes (v : Value) (n : Nat) (f : Nat → Nat) (w : World) (hv : IV w v (cl (fl n f))) (h : Pm n f) (hn : n ≤ 1000) :
    Calls Tryd.prog 10 #[v] w fun e w' => ∃ u, e = .returned (.tuple #[u, .nilIface]) ∧ Rw w.heap.size w' u (fl n (inv n f)) ∧ Below w.heap.size w w' := by
  obtain ⟨i0, hif, hz0, hz1, hz2⟩ := info_parts infoInt
  have hck := hid (check_yes v _ w hv (by simp; omega) h.ord)
  have hh := hid h
  obtain ⟨ad, n', cap, rfl, ha⟩ := hv
  obtain rfl : n' = n := by have := ha.len; simp at this; exact this.symm
  replace ha := hid ha
  clear h
  go_enter Tryd.func10, Tryd.ntmps10
  go_wp2_with fail
  refine hck.out.mono ?_
  rintro e w1 ⟨rfl, b1⟩
  have hsz := b1.size
  replace b1 := hid b1
  clear hck
  go_wp2_with (at_make; refine wpList_make_full _ rfl (.tmp 14) (.tmp 14) 22 rfl w.heap.size 3 i0 (.int .i64 0) 1 Tryd.underlying22 hif hz0 hz1 .i64 .i64 _ _ n' rfl rfl rfl rfl (by rw [hz2]; omega) (by unfold maxLen; omega) hsz ?_; intro w2 hown hgrow)
  have hst0 : Hid (w2.ownsRow w.heap.size 3 1 (.slice (some ⟨w1.heap.size, 0, none⟩) n' n') n' (ics (fl n' (half n' f 0))) ∧ Below w.heap.size w w2) := by
    rw [ics_made] at hown
    exact ⟨by rw [show fl n' (half n' f 0) = fl n' (fun _ => 0) from fl_congr (fun i _ => by simp [half])]; exact hown, b1.out.grown hgrow hsz (by simp)⟩
  clear hown hgrow
  go_wp2_with fail
  go_loopw [6, 7, 18] (fun _ _ u wr => ∃ j : Nat, j ≤ n' ∧ u = .int .i64 (j : Int) ∧ Hid (wr.ownsRow w.heap.size 3 1 (.slice (some ⟨w1.heap.size, 0, none⟩) n' n') n' (ics (fl n' (half n' f j))) ∧ Below w.heap.size w wr))
    (fun _ _ u _ => n' - (intOf u).toNat)
  case atStart => exact ⟨0, by omega, by go_num, hst0⟩
  case round =>
    obtain ⟨j, hj, rfl, hst⟩ := hrel
    clear hst0
    rcases Nat.lt_or_ge j n' with hlt | hge
    · obtain ⟨b1', o1, rfl, c1⟩ := (ha.out.below (w' := wr) hst.out.2).cell j _ (clfl_get hlt)
      have hx := hh.out.lt j hlt
      have hnext := hid (half_next hh.out hlt)
      obtain ⟨s1, s2⟩ := hst.out.1.stored (f j) (.int .i64 (j : Int))
      rw [ics_set, hnext.out] at s1
      have hfz := hst.out.1.frozenAt (f j)
      have hold : wr.cell? ⟨w1.heap.size, f j, none⟩ = some (.int .i64 (half n' f j (f j) : Int)) := by rw [hst.out.1.cellAt _ (by omega), ics_get hx]
      have hnew := hid (And.intro s1 (below_grown hst.out.2 (Nat.le_refl _) hst.out.1 (Nat.le_refl _) s2))
      clear s1 s2 hst hnext
      generalize f j = x at *
      generalize half n' f j x = y at *
      have i1 : (0 : Int) ≤ (j : Int) := by omega
      have i2 : (j : Int) < (n' : Int) := by omega
      have i3 : (0 : Int) ≤ (x : Int) := by omega
      have i4 : (x : Int) < (n' : Int) := by omega
      go_wp2_with fail
      go_roundw
      case rel => exact ⟨j + 1, by omega, by go_num, hnew⟩
      case measure => simp [intOf]; omega
    · obtain rfl : j = n' := by omega
      have fin : Hid (Rw w.heap.size wr (.slice (some ⟨w1.heap.size, 0, none⟩) j j) (fl j (inv j f)) ∧ Below w.heap.size w wr) := by
        have h1 := hst.out.1
        rw [half_all hh.out] at h1
        exact ⟨by unfold Rw; rw [fl_length]; exact h1, hst.out.2⟩
      clear hst
      go_wp2_with fail
      go_ret2
      exact ⟨_, rfl, fin.out⟩

set_option maxRecDepth 100000 in
set_option maxHeartbeats 1000000 in
theorem inverse_no (v : Value) (zs : List Int) (w : World) (hv : IV w v zs) (ho : ¬ Ord zs) (hn : zs.length ≤ 1000) :
    Calls Tryd.prog 10 #[v] w fun e w' => e = .returned (.tuple #[.slice none 0 0, .iface 49 (.int .i64 3)]) ∧ Below w.heap.size w w' := by
  have hck := hid (check_no v _ w hv hn ho)
  go_enter Tryd.func10, Tryd.ntmps10
  go_wp2_with fail
  refine hck.out.mono ?_
  rintro e w1 ⟨rfl, b1⟩
  replace b1 := hid b1
  go_wp2_with fail
  go_ret2
  exact ⟨rfl, b1.out⟩

set_option maxRecDepth 100000 in
set_option maxHeartbeats 2000000 in
theorem then_yes (v u : Value) (n : Nat) (f g : Nat → Nat) (w : World) (hv : IV w v (cl (fl n f))) (hu : IV w u (cl (fl n g))) (h : Pm n f) (k : Pm n g) (hn : n ≤ 1000) :
    Calls Tryd.prog 11 #[v, u] w fun e w' => ∃ r, e = .returned (.tuple #[r, .nilIface]) ∧ Rw w.heap.size w' r (fl n (fun i => g (f i))) ∧ Below w.heap.size w w' := by
  obtain ⟨i0, hif, hz0, hz1, hz2⟩ := info_parts infoInt
  have hck := hid (check_yes v _ w hv (by simp; omega) h.ord)
  have hck2 : Hid (∀ y, Below w.heap.size w y → _) := hid (fun y hy => check_yes u _ y (hu.below hy) (by simp; omega) k.ord)
  have hh := hid h
  obtain ⟨ad, n', cap, rfl, ha⟩ := hv
  obtain rfl : n' = n := by have := ha.len; simp at this; exact this.symm
  obtain ⟨ad2, n2, cap2, rfl, ha2⟩ := hu
  obtain rfl : n2 = n' := by have := ha2.len; simp at this; exact this.symm
  replace ha := hid ha
  replace ha2 := hid ha2
  clear h k
  go_enter Tryd.func11, Tryd.ntmps11
  go_wp2_with fail
  refine hck.out.mono ?_
  rintro e w1 ⟨rfl, b1⟩
  replace b1 := hid b1
  clear hck
  go_wp2_with fail
  refine (hck2.out w1 b1.out).mono ?_
  rintro e w2 ⟨rfl, b2⟩
  replace b2 : Hid (Below w.heap.size w w2) := b1.out.trans (b2.mono b1.out.size)
  have hsz := b2.out.size
  clear hck2 b1
  go_wp2_with (at_make; refine wpList_make_full _ rfl (.tmp 28) (.tmp 28) 22 rfl w.heap.size 3 i0 (.int .i64 0) 1 Tryd.underlying22 hif hz0 hz1 .i64 .i64 _ _ n2 rfl rfl rfl rfl (by rw [hz2]; omega) (by unfold maxLen; omega) hsz ?_; intro w3 hown hgrow)
  have hst0 : Hid (w3.ownsRow w.heap.size 3 1 (.slice (some ⟨w2.heap.size, 0, none⟩) n2 n2) n2 (ics (fl n2 (fun i => if i < 0 then g (f i) else 0))) ∧ Below w.heap.size w w3) := by
    rw [ics_made] at hown
    exact ⟨by rw [show fl n2 (fun i => if i < 0 then g (f i) else 0) = fl n2 (fun _ => 0) from fl_congr (fun i _ => by simp)]; exact hown, b2.out.grown hgrow hsz (by simp)⟩
  clear hown hgrow
  go_wp2_with fail
  go_loopw [9, 10, 32] (fun _ _ u wr => ∃ j : Nat, j ≤ n2 ∧ u = .int .i64 (j : Int) ∧ Hid (wr.ownsRow w.heap.size 3 1 (.slice (some ⟨w2.heap.size, 0, none⟩) n2 n2) n2 (ics (fl n2 (fun i => if i < j then g (f i) else 0))) ∧ Below w.heap.size w wr))
    (fun _ _ u _ => n2 - (intOf u).toNat)
  case atStart => exact ⟨0, by omega, by go_num, hst0⟩
  case round =>
    obtain ⟨j, hj, rfl, hst⟩ := hrel
    clear hst0
    rcases Nat.lt_or_ge j n2 with hlt | hge
    · obtain ⟨b1', o1, rfl, c1⟩ := (ha.out.below (w' := wr) hst.out.2).cell j _ (clfl_get hlt)
      have hx := hh.out.lt j hlt
      obtain ⟨b2', o2, rfl, c2⟩ := (ha2.out.below (w' := wr) hst.out.2).cell (f j) _ (clfl_get hx)
      have hnext : Hid (fl n2 (fun i => if i = j then g (f j) else if i < j then g (f i) else 0) = fl n2 (fun i => if i < j + 1 then g (f i) else 0)) := hid (fl_congr (fun i _ => by
        by_cases e : i = j
        · subst e; simp
        · rw [if_neg e]
          by_cases h1 : i < j
          · rw [if_pos h1, if_pos (by omega)]
          · rw [if_neg h1, if_neg (by omega)]))
      obtain ⟨s1, s2⟩ := hst.out.1.stored j (.int .i64 (g (f j) : Int))
      rw [ics_set, hnext.out] at s1
      have hfz := hst.out.1.frozenAt j
      have hold : wr.cell? ⟨w2.heap.size, j, none⟩ = some (.int .i64 0) := by rw [hst.out.1.cellAt _ (by omega), ics_get hlt]; simp
      have hnew := hid (And.intro s1 (below_grown hst.out.2 (Nat.le_refl _) hst.out.1 (Nat.le_refl _) s2))
      clear s1 s2 hst hnext
      generalize g (f j) = y at *
      generalize f j = x at *
      have i1 : (0 : Int) ≤ (j : Int) := by omega
      have i2 : (j : Int) < (n2 : Int) := by omega
      have i3 : (0 : Int) ≤ (x : Int) := by omega
      have i4 : (x : Int) < (n2 : Int) := by omega
      go_wp2_with fail
      go_roundw
      case rel => exact ⟨j + 1, by omega, by go_num, hnew⟩
      case measure => simp [intOf]; omega
    · obtain rfl : j = n2 := by omega
      have fin : Hid (Rw w.heap.size wr (.slice (some ⟨w2.heap.size, 0, none⟩) j j) (fl j (fun i => g (f i))) ∧ Below w.heap.size w wr) := by
        have h1 := hst.out.1
        rw [show fl j (fun i => if i < j then g (f i) else 0) = fl j (fun i => g (f i)) from fl_congr (fun i hi => if_pos hi)] at h1
        exact ⟨by unfold Rw; rw [fl_length]; exact h1, hst.out.2⟩
      clear hst
      go_wp2_with fail
      go_ret2
      exact ⟨_, rfl, fin.out⟩

set_option maxRecDepth 100000 in
set_option maxHeartbeats 1000000 in
theorem then_no (v u : Value) (zs ys : List Int) (w : World) (hv : IV w v zs) (hu : IV w u ys) (ho : ¬ Ord zs ∨ ¬ Ord ys) (hn : zs.length ≤ 1000) (hm : ys.length ≤ 1000) :
    Calls Tryd.prog 11 #[v, u] w fun e w' => e = .returned (.tuple #[.slice none 0 0, .iface 49 (.int .i64 3)]) ∧ Below w.heap.size w w' := by
  by_cases h1 : Ord zs
  · have hck := hid (check_yes v _ w hv hn h1)
    have hck2 : Hid (∀ y, Below w.heap.size w y → _) := hid (fun y hy => check_no u _ y (hu.below hy) hm (ho.resolve_left (fun h => h h1)))
    go_enter Tryd.func11, Tryd.ntmps11
    go_wp2_with fail
    refine hck.out.mono ?_
    rintro e w1 ⟨rfl, b1⟩
    replace b1 := hid b1
    clear hck
    go_wp2_with fail
    refine (hck2.out w1 b1.out).mono ?_
    rintro e w2 ⟨rfl, b2⟩
    replace b2 : Hid (Below w.heap.size w w2) := b1.out.trans (b2.mono b1.out.size)
    clear hck2 b1
    go_wp2_with fail
    go_ret2
    exact ⟨rfl, b2.out⟩
  · have hck := hid (check_no v _ w hv hn h1)
    go_enter Tryd.func11, Tryd.ntmps11
    go_wp2_with fail
    refine hck.out.mono ?_
    rintro e w1 ⟨rfl, b1⟩
    replace b1 := hid b1
    clear hck
    go_wp2_with fail
    go_ret2
    exact ⟨rfl, b1.out⟩

set_option maxRecDepth 100000 in
set_option maxHeartbeats 1000000 in
theorem then_len (v u : Value) (zs ys : List Int) (w : World) (hv : IV w v zs) (hu : IV w u ys) (h1 : Ord zs) (h2 : Ord ys) (hne : zs.length ≠ ys.length) (hn : zs.length ≤ 1000) (hm : ys.length ≤ 1000) :
    Calls Tryd.prog 11 #[v, u] w fun e w' => e = .returned (.tuple #[.slice none 0 0, .iface 49 (.int .i64 1)]) ∧ Below w.heap.size w w' := by
  have hck := hid (check_yes v _ w hv hn h1)
  have hck2 : Hid (∀ y, Below w.heap.size w y → _) := hid (fun y hy => check_yes u _ y (hu.below hy) hm h2)
  obtain ⟨ad, n, cap, rfl, ha⟩ := hv
  obtain ⟨ad2, n2, cap2, rfl, ha2⟩ := hu
  rw [ha.len] at hne hn
  rw [ha2.len] at hne hm
  have t1 : ((n : Int) == (n2 : Int)) = false := by simp; omega
  have t2 : ¬ ((n : Int) = (n2 : Int)) := by omega
  clear ha ha2
  go_enter Tryd.func11, Tryd.ntmps11
  go_wp2_with fail
  refine hck.out.mono ?_
  rintro e w1 ⟨rfl, b1⟩
  replace b1 := hid b1
  clear hck
  go_wp2_with fail
  refine (hck2.out w1 b1.out).mono ?_
  rintro e w2 ⟨rfl, b2⟩
  replace b2 : Hid (Below w.heap.size w w2) := b1.out.trans (b2.mono b1.out.size)
  clear hck2 b1
  go_wp2_with fail
  go_ret2
  exact ⟨rfl, b2.out⟩

end Go.Proofs.YtjngdecpomogbaaDoor
