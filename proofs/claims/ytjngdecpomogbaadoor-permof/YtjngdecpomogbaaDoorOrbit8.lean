/- 'cycle', 'Orbit', 'Cycles', walked. -/
import Derived.Test.YtjngdecpomogbaaDoorCheck8
namespace Go.Proofs.YtjngdecpomogbaaDoor
open Go.RowKit
set_option linter.unusedVariables false

/-- A slice's length. -/
def sln : Value → Nat
  | .slice _ n _ => n
  | _ => 0
theorem own_sln {w : World} {base n size : Nat} {e : TypeId} {v : Value} {xs : List Value} (h : w.ownsRow base e size v n xs) : sln v = n := by
  obtain ⟨ad, cap, rfl, _⟩ := own_any h
  rfl

set_option maxRecDepth 100000 in
set_option maxHeartbeats 2000000 in
theorem cycle_ok (v : Value) (n x : Nat) (f : Nat → Nat) (w : World) (hv : IV w v (cl (fl n f))) (h : Pm n f) (hx : x < n) (hn : n ≤ 1000) :
    Calls Tryd.prog 26 #[v, .int .i64 (x : Int)] w fun e w' => ∃ u, e = .returned u ∧ Rw w.heap.size w' u (orb f x) ∧ Below w.heap.size w w' := by
  obtain ⟨i0, hif, hz0, hz1, hz2⟩ := info_parts infoInt
  obtain ⟨hp, hpn⟩ := h.per_is hx
  obtain ⟨d, hd⟩ : ∃ d, per f x = d := ⟨_, rfl⟩
  have horb : Hid (orb f x = fl d (fun i => it f i x)) := by unfold orb; rw [hd]; exact hid rfl
  rw [hd] at hp hpn
  have hd1 := hp.pos
  replace hp := hid hp
  have hh := hid h
  obtain ⟨ad, n', cap, rfl, ha⟩ := hv
  obtain rfl : n' = n := by have := ha.len; simp at this; exact this.symm
  obtain ⟨b1, o1, rfl, c1⟩ := ha.cell x _ (clfl_get hx)
  replace ha := hid ha
  clear h hd
  have i1 : (0 : Int) ≤ (x : Int) := by omega
  have i2 : (x : Int) < (n' : Int) := by omega
  have hst0 : Hid (Rw w.heap.size (w.alloc (.cells #[.int .i64 (x : Int)] 3)) (.slice (some ⟨w.heap.size, 0, none⟩) 1 1) (fl 1 (fun i => it f i x)) ∧ Below w.heap.size w (w.alloc (.cells #[.int .i64 (x : Int)] 3))) :=
    ⟨World.ownsRow_lit w #[.int .i64 (x : Int)] 1 (Nat.le_refl _) (by unfold maxLen; omega) rfl, balloc w _⟩
  have c1' : (w.alloc (.cells #[.int .i64 (x : Int)] 3)).cell? ⟨b1, o1 + x, none⟩ = some (.int .i64 (f x : Int)) := by
    rw [hst0.out.2.cell (World.block_lt_of_cell? w _ c1)]; exact c1
  have hfx : Hid (f x = it f 1 x) := hid rfl
  go_enter Tryd.func26, Tryd.ntmps26
  go_wp2_with fail
  go_loopw [5, 6] (fun v u wr => ∃ k : Nat, 1 ≤ k ∧ k ≤ d ∧ u = .int .i64 (it f k x : Int) ∧ Hid (Rw w.heap.size wr v (fl k (fun i => it f i x)) ∧ Below w.heap.size w wr))
    (fun v _ _ => d - sln v)
  case atStart => exact ⟨1, by omega, by omega, rfl, hst0⟩
  case round =>
    obtain ⟨k, hk1, hkd, rfl, hst⟩ := hrel
    clear hst0 c1 c1'
    have hyl := hh.out.it_lt hx k
    obtain ⟨y, hy⟩ : ∃ y, it f k x = y := ⟨_, rfl⟩
    have hyh := hid hy
    rw [hy] at hyl ⊢
    by_cases e : y = x
    · obtain rfl : k = d := by
        rcases Nat.lt_or_ge k d with hl | hl
        · exact absurd (hy.trans e) (hp.out.least k hk1 hl)
        · omega
      have t1 : ((y : Int) == (x : Int)) = true := by simp [e]
      have t2 : ((y : Int) != (x : Int)) = false := by simp [e]
      clear hy
      obtain ⟨hr, hb⟩ := hst.out
      have fin := hid (And.intro hr hb)
      clear hr hb hst
      subst e
      go_wp2_with fail
      go_ret
      exact ⟨_, rfl, by rw [horb.out]; exact fin.out.1, fin.out.2⟩
    · have hkd' : k < d := by
        rcases Nat.lt_or_ge k d with hl | hl
        · exact hl
        · obtain rfl : k = d := by omega
          exact absurd (hy.symm.trans hp.out.at_) e
      have t1 : ((y : Int) == (x : Int)) = false := by simp; omega
      have t2 : ((y : Int) != (x : Int)) = true := by simp; omega
      have t3 : ¬ ((y : Int) = (x : Int)) := by omega
      have hown : wr.ownsRow w.heap.size 3 1 u5 (fl k (fun i => it f i x)).length (ics (fl k (fun i => it f i x))) := hst.out.1
      rw [fl_length] at hown
      have hbw := hst.out.2
      have hsz := hbw.size
      have hln := hid (own_sln hown)
      clear hy hst
      have j1 : (0 : Int) ≤ (y : Int) := by omega
      have j2 : (y : Int) < (n' : Int) := by omega
      go_wp2_with (at_builtin; refine wpList_append_own _ rfl (.tmp 20) (.tmp 22) 22 rfl w.heap.size 3 i0 _ 1 8 Tryd.underlying22 hif hz0 hz1 hz2 rfl (by decide) _ _ _ rfl (hown.alloc _) ⟨wr.heap.size, 0, none⟩ 1 1 [.int .i64 (y : Int)] rfl rfl (one_new wr _ _) (by simp [Value.oneCell']) (by unfold maxLen; omega) (by omega) (by simp; omega) ?_; intro v' w' ho' hg' _; refine Hid.out ?_)
      have hb' := below_grown (hbw.alloc hsz _) (Nat.le_refl _) (hown.alloc _) (Nat.le_refl _) hg'
      have hln' := hid (own_sln ho')
      obtain ⟨b2, o2, e2, c2⟩ := (ha.out.below (w' := w') hb').cell y _ (clfl_get hyl)
      obtain ⟨rfl, rfl⟩ : b1 = b2 ∧ o1 = o2 := by simpa using e2
      have hfy : f y = it f (k + 1) x := by rw [← hyh.out]; rfl
      rw [hfy] at c2
      have hnew := hid (And.intro (show Rw w.heap.size w' v' (fl (k + 1) (fun i => it f i x)) from by
        unfold Rw
        rw [fl_length, fl_succ, ics_append, hyh.out]
        exact ho') hb')
      clear ho' hg' hown hbw hb' e2 hfy
      refine hid ?_
      go_wp2_with fail
      go_roundw
      case rel => exact ⟨k + 1, by omega, by omega, rfl, hnew⟩
      case measure => rw [hln.out, hln'.out]; omega

set_option maxRecDepth 100000 in
set_option maxHeartbeats 1000000 in
theorem orbit_yes (v : Value) (n x : Nat) (f : Nat → Nat) (w : World) (hv : IV w v (cl (fl n f))) (h : Pm n f) (hx : x < n) (hn : n ≤ 1000) :
    Calls Tryd.prog 18 #[v, .int .i64 (x : Int)] w fun e w' => ∃ u, e = .returned (.tuple #[u, .nilIface]) ∧ Rw w.heap.size w' u (orb f x) ∧ Below w.heap.size w w' := by
  have hck := hid (check_yes v _ w hv (by simp; omega) h.ord)
  have hcy : Hid (∀ y, Below w.heap.size w y → _) := hid (fun y hy => cycle_ok v n x f y (hv.below hy) h hx hn)
  obtain ⟨ad, n', cap, rfl, ha⟩ := hv
  obtain rfl : n' = n := by have := ha.len; simp at this; exact this.symm
  clear h ha
  have i1 : ¬ ((x : Int) < 0) := by omega
  have i2 : ¬ ((n' : Int) ≤ (x : Int)) := by omega
  go_enter Tryd.func18, Tryd.ntmps18
  go_wp2_with fail
  refine hck.out.mono ?_
  rintro e w1 ⟨rfl, b1⟩
  replace b1 := hid b1
  clear hck
  go_wp2_with fail
  refine (hcy.out w1 b1.out).mono ?_
  rintro e w2 ⟨u, rfl, hr, b2⟩
  have fin := hid (And.intro (hr.low b1.out.size) (b1.out.trans (b2.mono b1.out.size)))
  clear hcy b1 b2 hr
  go_wp2_with fail
  go_ret2
  exact ⟨u, rfl, fin.out⟩

set_option maxRecDepth 100000 in
set_option maxHeartbeats 1000000 in
theorem orbit_no (v : Value) (zs : List Int) (x : Int) (w : World) (hv : IV w v zs) (ho : ¬ Ord zs) (hn : zs.length ≤ 1000) :
    Calls Tryd.prog 18 #[v, .int .i64 x] w fun e w' => e = .returned (.tuple #[.slice none 0 0, .iface 49 (.int .i64 3)]) ∧ Below w.heap.size w w' := by
  have hck := hid (check_no v _ w hv hn ho)
  go_enter Tryd.func18, Tryd.ntmps18
  go_wp2_with fail
  refine hck.out.mono ?_
  rintro e w1 ⟨rfl, b1⟩
  replace b1 := hid b1
  go_wp2_with fail
  go_ret2
  exact ⟨rfl, b1.out⟩

set_option maxRecDepth 100000 in
set_option maxHeartbeats 1000000 in
theorem orbit_out (v : Value) (zs : List Int) (x : Int) (w : World) (hv : IV w v zs) (ho : Ord zs) (hx : x < 0 ∨ (0 ≤ x ∧ (zs.length : Int) ≤ x)) (hn : zs.length ≤ 1000) :
    Calls Tryd.prog 18 #[v, .int .i64 x] w fun e w' => e = .returned (.tuple #[.slice none 0 0, .iface 49 (.int .i64 12)]) ∧ Below w.heap.size w w' := by
  have hck := hid (check_yes v _ w hv hn ho)
  obtain ⟨ad, n, cap, rfl, ha⟩ := hv
  rw [ha.len] at hx
  clear ha hn
  rcases hx with hx | ⟨hx0, hx⟩
  · go_enter Tryd.func18, Tryd.ntmps18
    go_wp2_with fail
    refine hck.out.mono ?_
    rintro e w1 ⟨rfl, b1⟩
    replace b1 := hid b1
    clear hck
    go_wp2_with fail
    go_ret2
    exact ⟨rfl, b1.out⟩
  · have i1 : ¬ (x < 0) := by omega
    go_enter Tryd.func18, Tryd.ntmps18
    go_wp2_with fail
    refine hck.out.mono ?_
    rintro e w1 ⟨rfl, b1⟩
    replace b1 := hid b1
    clear hck
    go_wp2_with fail
    go_ret2
    exact ⟨rfl, b1.out⟩

end Go.Proofs.YtjngdecpomogbaaDoor
