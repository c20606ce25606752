/- The document's Check, Inverse, Then, Orbit, Cycles, walked. -/
import Derived.Test.YtjngdecpomogbaaDoorCycles8
namespace Go.Proofs.YtjngdecpomogbaaDoor
open Go.RowKit
set_option linter.unusedVariables false

theorem count_next {zs : List Int} {i : Nat} {z x : Int} (h : zs[i]? = some z) : (zs.take (i + 1)).count x = (zs.take i).count x + (if z = x then 1 else 0) := by
  rw [take_next h, List.count_append]
  by_cases e : z = x <;> simp [e]

set_option maxRecDepth 100000 in
set_option maxHeartbeats 2000000 in
theorem rcheck_ok (v : Value) (zs : List Int) (w : World) (hv : IV w v zs) (hn : zs.length ≤ 1000) :
    Calls Tryd.prog 9 #[v] w fun e w' => ∃ r : Int, e = .returned (.int .i64 r) ∧ ((Ord zs ∧ r = 0) ∨ (¬ Ord zs ∧ r = 3)) ∧ w = w' := by
  obtain ⟨ad, n, cap, rfl, ha⟩ := hv
  have hl := hid ha.len
  rw [ha.len] at hn
  replace ha := hid ha
  go_enter Tryd.func9, Tryd.ntmps9
  go_wp2_with fail
  go_loopw [3, 4, 5] (fun u _ _ wr => ∃ x : Nat, x ≤ n ∧ u = .int .i64 (x : Int) ∧ Hid (∀ y : Nat, y < x → zs.count (y : Int) = 1) ∧ w = wr) (fun u _ _ _ => n - (intOf u).toNat)
  case atStart => exact ⟨0, by omega, by go_num, fun y hy => by omega, rfl⟩
  case round =>
    obtain ⟨x, hx, rfl, hst, rfl⟩ := hrel
    rcases Nat.lt_or_ge x n with hlt | hge
    · go_wp2_with fail
      go_loopw [4, 5] (fun t u wr => ∃ i : Nat, i ≤ n ∧ u = .int .i64 (i : Int) ∧ t = .int .i64 (((zs.take i).count (x : Int) : Nat) : Int) ∧ w = wr) (fun _ u _ => n - (intOf u).toNat)
      case atStart => exact ⟨0, by omega, by go_num, by simp, rfl⟩
      case round =>
        obtain ⟨i, hi, rfl, rfl, rfl⟩ := hrel
        rcases Nat.lt_or_ge i n with hin | hin
        · obtain ⟨z, hz⟩ : ∃ z, zs[i]? = some z := ⟨_, List.getElem?_eq_getElem (by rw [hl.out]; exact hin)⟩
          obtain ⟨b1, o1, rfl, c1⟩ := ha.out.cell i z hz
          have hnx := hid (count_next (x := (x : Int)) hz)
          have hcl : (zs.take i).count (x : Int) ≤ n := by
            have h1 := List.count_le_length (a := (x : Int)) (l := zs.take i)
            have h2 : (zs.take i).length ≤ zs.length := by simp; omega
            have := hl.out
            omega
          obtain ⟨C, hC⟩ : ∃ C, (zs.take i).count (x : Int) = C := ⟨_, rfl⟩
          rw [hC] at hcl hnx ⊢
          clear hC hz
          have i1 : (0 : Int) ≤ (i : Int) := by omega
          have i2 : (i : Int) < (n : Int) := by omega
          by_cases e : z = (x : Int)
          · have hS2 : Hid ((zs.take (i + 1)).count (x : Int) = C + 1) := by rw [hnx.out, if_pos e]; exact hid rfl
            subst e
            clear hnx
            go_wp2_with fail
            go_roundw
            case rel => exact ⟨i + 1, by omega, by go_num, by rw [hS2.out]; go_num, trivial⟩
            case measure => simp [intOf]; omega
          · have hS2 : Hid ((zs.take (i + 1)).count (x : Int) = C) := by rw [hnx.out, if_neg e]; exact hid rfl
            have t1 : (z == (x : Int)) = false := by simpa using e
            clear hnx
            go_wp2_with fail
            go_roundw
            case rel => exact ⟨i + 1, by omega, by go_num, by rw [hS2.out], trivial⟩
            case measure => simp [intOf]; omega
        · obtain rfl : i = n := by omega
          have hall : zs.take i = zs := List.take_of_length_le (by rw [hl.out]; exact Nat.le_refl _)
          rw [hall]
          have hcl : zs.count (x : Int) ≤ i := by
            have h1 := List.count_le_length (a := (x : Int)) (l := zs)
            have := hl.out
            omega
          obtain ⟨C, hC⟩ : ∃ C, zs.count (x : Int) = C := ⟨_, rfl⟩
          have hCh := hid hC
          rw [hC] at hcl ⊢
          clear hC hall
          by_cases e : C = 1
          · have hnew : Hid (∀ y : Nat, y < x + 1 → zs.count (y : Int) = 1) := fun y hy => by
              rcases Nat.lt_or_ge y x with h1 | h1
              · exact hst.out y h1
              · obtain rfl : y = x := by omega
                rw [hCh.out]; exact e
            subst e
            go_wp2_with fail
            go_roundw
            case rel => exact ⟨x + 1, by omega, by go_num, hnew, trivial⟩
            case measure => simp [intOf]; omega
          · have t1 : ((C : Int) == 1) = false := by simp; omega
            have t2 : ((C : Int) != 1) = true := by simp; omega
            have t3 : ¬ ((C : Int) = 1) := by omega
            have hno : Hid (¬ Ord zs) := fun ho => e (by rw [← hCh.out]; exact count_ord.2 ho x (by rw [hl.out]; exact hlt))
            go_wp2_with fail
            go_ret
            exact ⟨3, rfl, .inr ⟨hno.out, rfl⟩, rfl⟩
    · obtain rfl : x = n := by omega
      have hyes : Hid (Ord zs) := count_ord.1 (fun y hy => hst.out y (by rw [← hl.out]; exact hy))
      go_wp2_with fail
      go_ret
      exact ⟨0, rfl, .inl ⟨hyes.out, rfl⟩, rfl⟩

theorem rcheck_yes (v : Value) (zs : List Int) (w : World) (hv : IV w v zs) (hn : zs.length ≤ 1000) (ho : Ord zs) :
    Calls Tryd.prog 9 #[v] w fun e w' => e = .returned (.int .i64 0) ∧ w = w' :=
  (rcheck_ok v zs w hv hn).mono fun e w' ⟨r, e1, e2, b⟩ => by
    rcases e2 with ⟨_, rfl⟩ | ⟨h, _⟩
    · exact ⟨e1, b⟩
    · exact absurd ho h

theorem rcheck_no (v : Value) (zs : List Int) (w : World) (hv : IV w v zs) (hn : zs.length ≤ 1000) (ho : ¬ Ord zs) :
    Calls Tryd.prog 9 #[v] w fun e w' => e = .returned (.int .i64 3) ∧ w = w' :=
  (rcheck_ok v zs w hv hn).mono fun e w' ⟨r, e1, e2, b⟩ => by
    rcases e2 with ⟨h, _⟩ | ⟨_, rfl⟩
    · exact absurd h ho
    · exact ⟨e1, b⟩

/-- The first numbers turned back, and the next one's place where it has come. -/
def upTo (n : Nat) (f : Nat → Nat) (x i : Nat) : List Nat := fl x (inv n f) ++ (if inv n f x < i then [inv n f x] else [])

set_option maxRecDepth 100000 in
set_option maxHeartbeats 2000000 in
theorem rinverse_ok (v : Value) (n : Nat) (f : Nat → Nat) (w : World) (hv : IV w v (cl (fl n f))) (h : Pm n f) (hn : n ≤ 1000) :
    Calls Tryd.prog 15 #[v] w fun e w' => ∃ u, e = .returned u ∧ Rw w.heap.size w' u (fl n (inv n f)) ∧ Below w.heap.size w w' := by
  obtain ⟨i0, hif, hz0, hz1, hz2⟩ := info_parts infoInt
  have hh := hid h
  obtain ⟨ad, n', cap, rfl, ha⟩ := hv
  obtain rfl : n' = n := by have := ha.len; simp at this; exact this.symm
  replace ha := hid ha
  clear h
  go_enter Tryd.func15, Tryd.ntmps15
  go_wp2_with fail
  go_loopw [3, 4, 5] (fun v u _ wr => ∃ x : Nat, x ≤ n' ∧ u = .int .i64 (x : Int) ∧ Hid (Rw w.heap.size wr v (fl x (inv n' f)) ∧ Below w.heap.size w wr)) (fun _ u _ _ => n' - (intOf u).toNat)
  case atStart => exact ⟨0, by omega, by go_num, World.ownsRow_made w #[] 0 (Nat.le_refl _) (by unfold maxLen; omega) rfl, balloc w _⟩
  case round =>
    obtain ⟨x, hx, rfl, hst⟩ := hrel
    rcases Nat.lt_or_ge x n' with hlt | hge
    · have hst1 : Hid (Rw w.heap.size wr u3 (upTo n' f x 0) ∧ Below w.heap.size w wr) := by
        unfold upTo
        rw [if_neg (by omega), List.append_nil]
        exact hst
      clear hst
      go_wp2_with fail
      go_loopw [3, 5] (fun v u wr => ∃ i : Nat, i ≤ n' ∧ u = .int .i64 (i : Int) ∧ Hid (Rw w.heap.size wr v (upTo n' f x i) ∧ Below w.heap.size w wr)) (fun _ u _ => n' - (intOf u).toNat)
      case atStart => exact ⟨0, by omega, by go_num, hst1⟩
      case round =>
        obtain ⟨i, hi, rfl, hst⟩ := hrel
        clear hst1
        rcases Nat.lt_or_ge i n' with hin | hin
        · obtain ⟨b1, o1, rfl, c1⟩ := (ha.out.below (w' := wr) hst.out.2).cell i _ (clfl_get hin)
          have i1 : (0 : Int) ≤ (i : Int) := by omega
          have i2 : (i : Int) < (n' : Int) := by omega
          by_cases e : f i = x
          · have hinv : inv n' f x = i := by rw [← e]; exact hh.out.inv_at hin
            have hbef : upTo n' f x i = fl x (inv n' f) := by unfold upTo; rw [if_neg (by omega), List.append_nil]
            have haft : Hid (upTo n' f x (i + 1) = fl x (inv n' f) ++ [i]) := by unfold upTo; rw [if_pos (by omega), hinv]; exact hid rfl
            have hrow := hst.out.1
            rw [hbef] at hrow
            have hown : wr.ownsRow w.heap.size 3 1 u3 (fl x (inv n' f)).length (ics (fl x (inv n' f))) := hrow
            rw [fl_length] at hown
            have hbw := hst.out.2
            have hsz := hbw.size
            rw [e] at c1
            clear hst hinv hbef hrow e
            go_wp2_with (at_builtin; refine wpList_append_own _ rfl (.tmp 25) (.tmp 27) 22 rfl w.heap.size 3 i0 _ 1 8 Tryd.underlying22 hif hz0 hz1 hz2 rfl (by decide) _ _ _ rfl (hown.alloc _) ⟨wr.heap.size, 0, none⟩ 1 1 [.int .i64 (i : Int)] rfl rfl (one_new wr _ _) (by simp [Value.oneCell']) (by unfold maxLen; omega) (by omega) (by simp; omega) ?_; intro v' w' ho' hg' _; refine Hid.out ?_)
            have hnew := hid (And.intro (show Rw w.heap.size w' v' (upTo n' f x (i + 1)) from by
              rw [haft.out]
              unfold Rw
              rw [List.length_append, fl_length, ics_append]
              exact ho') (below_grown (hbw.alloc hsz _) (Nat.le_refl _) (hown.alloc _) (Nat.le_refl _) hg'))
            clear ho' hg' hown hbw
            refine hid ?_
            go_wp2_with fail
            go_roundw
            case rel => exact ⟨i + 1, by omega, by go_num, hnew⟩
            case measure => simp [intOf]; omega
          · have hne : inv n' f x ≠ i := fun e2 => e (by rw [← e2]; exact (hh.out.at_inv hlt).1)
            have hsame : upTo n' f x (i + 1) = upTo n' f x i := by
              unfold upTo
              by_cases h1 : inv n' f x < i
              · rw [if_pos h1, if_pos (by omega)]
              · rw [if_neg h1, if_neg (by omega)]
            have hnew : Hid (Rw w.heap.size wr u3 (upTo n' f x (i + 1)) ∧ Below w.heap.size w wr) := by rw [hsame]; exact hst
            generalize f i = y at c1 e
            have t1 : ((y : Int) == (x : Int)) = false := by simp; omega
            have t2 : ¬ ((y : Int) = (x : Int)) := by omega
            clear hst hne hsame
            go_wp2_with fail
            go_roundw
            case rel => exact ⟨i + 1, by omega, by go_num, hnew⟩
            case measure => simp [intOf]; omega
        · obtain rfl : i = n' := by omega
          have hnew : Hid (Rw w.heap.size wr u3 (fl (x + 1) (inv i f)) ∧ Below w.heap.size w wr) := by
            have := hst.out
            unfold upTo at this
            rw [if_pos (hh.out.at_inv hlt).2, ← fl_succ] at this
            exact this
          clear hst
          go_wp2_with fail
          go_roundw
          case rel => exact ⟨x + 1, by omega, by go_num, hnew⟩
          case measure => simp [intOf]; omega
    · obtain rfl : x = n' := by omega
      go_wp2_with fail
      go_ret
      exact ⟨_, rfl, hst.out⟩

set_option maxRecDepth 100000 in
set_option maxHeartbeats 2000000 in
theorem rthen_ok (v u : Value) (n : Nat) (f g : Nat → Nat) (w : World) (hv : IV w v (cl (fl n f))) (hu : IV w u (cl (fl n g))) (h : Pm n f) (hn : n ≤ 1000) :
    Calls Tryd.prog 16 #[v, u] w fun e w' => ∃ r, e = .returned r ∧ Rw w.heap.size w' r (fl n (fun i => g (f i))) ∧ Below w.heap.size w w' := by
  obtain ⟨i0, hif, hz0, hz1, hz2⟩ := info_parts infoInt
  have hh := hid h
  obtain ⟨ad, n', cap, rfl, ha⟩ := hv
  obtain rfl : n' = n := by have := ha.len; simp at this; exact this.symm
  obtain ⟨ad2, n2, cap2, rfl, ha2⟩ := hu
  obtain rfl : n2 = n' := by have := ha2.len; simp at this; exact this.symm
  replace ha := hid ha
  replace ha2 := hid ha2
  clear h
  go_enter Tryd.func16, Tryd.ntmps16
  go_wp2_with fail
  go_loopw [5, 6] (fun v u wr => ∃ x : Nat, x ≤ n2 ∧ u = .int .i64 (x : Int) ∧ Hid (Rw w.heap.size wr v (fl x (fun i => g (f i))) ∧ Below w.heap.size w wr)) (fun _ u _ => n2 - (intOf u).toNat)
  case atStart => exact ⟨0, by omega, by go_num, World.ownsRow_made w #[] 0 (Nat.le_refl _) (by unfold maxLen; omega) rfl, balloc w _⟩
  case round =>
    obtain ⟨i, hi, rfl, hst⟩ := hrel
    rcases Nat.lt_or_ge i n2 with hin | hin
    · obtain ⟨b1, o1, rfl, c1⟩ := (ha.out.below (w' := wr) hst.out.2).cell i _ (clfl_get hin)
      have hx := hh.out.lt i hin
      obtain ⟨b2, o2, rfl, c2⟩ := (ha2.out.below (w' := wr) hst.out.2).cell (f i) _ (clfl_get hx)
      have i1 : (0 : Int) ≤ (i : Int) := by omega
      have i2 : (i : Int) < (n2 : Int) := by omega
      have hown : wr.ownsRow w.heap.size 3 1 u5 (fl i (fun i => g (f i))).length (ics (fl i (fun i => g (f i)))) := hst.out.1
      rw [fl_length] at hown
      have hbw := hst.out.2
      have hsz := hbw.size
      have haft : Hid (fl (i + 1) (fun i => g (f i)) = fl i (fun i => g (f i)) ++ [g (f i)]) := hid (fl_succ _ _)
      clear hst
      generalize g (f i) = y at c2 haft
      generalize f i = x at c1 c2 hx
      have i3 : (0 : Int) ≤ (x : Int) := by omega
      have i4 : (x : Int) < (n2 : Int) := by omega
      go_wp2_with (at_builtin; refine wpList_append_own _ rfl (.tmp 14) (.tmp 22) 22 rfl w.heap.size 3 i0 _ 1 8 Tryd.underlying22 hif hz0 hz1 hz2 rfl (by decide) _ _ _ rfl (hown.alloc _) ⟨wr.heap.size, 0, none⟩ 1 1 [.int .i64 (y : Int)] rfl rfl (one_new wr _ _) (by simp [Value.oneCell']) (by unfold maxLen; omega) (by omega) (by simp; omega) ?_; intro v' w' ho' hg' _; refine Hid.out ?_)
      have hnew := hid (And.intro (show Rw w.heap.size w' v' (fl (i + 1) (fun i => g (f i))) from by
        rw [haft.out]
        unfold Rw
        rw [List.length_append, fl_length, ics_append]
        exact ho') (below_grown (hbw.alloc hsz _) (Nat.le_refl _) (hown.alloc _) (Nat.le_refl _) hg'))
      clear ho' hg' hown hbw
      refine hid ?_
      go_wp2_with fail
      go_roundw
      case rel => exact ⟨i + 1, by omega, by go_num, hnew⟩
      case measure => simp [intOf]; omega
    · obtain rfl : i = n2 := by omega
      go_wp2_with fail
      go_ret
      exact ⟨_, rfl, hst.out⟩

set_option maxRecDepth 100000 in
set_option maxHeartbeats 2000000 in
theorem rorbit_ok (v : Value) (n x : Nat) (f : Nat → Nat) (w : World) (hv : IV w v (cl (fl n f))) (h : Pm n f) (hx : x < n) (hn : n ≤ 1000) :
    Calls Tryd.prog 21 #[v, .int .i64 (x : Int)] w fun e w' => ∃ u, e = .returned u ∧ Rw w.heap.size w' u (orb f x) ∧ Below w.heap.size w w' := by
  obtain ⟨i0, hif, hz0, hz1, hz2⟩ := info_parts infoInt
  obtain ⟨hp, hpn⟩ := h.per_is hx
  obtain ⟨d, hd⟩ : ∃ d, per f x = d := ⟨_, rfl⟩
  have horb : Hid (orb f x = fl d (fun i => it f i x)) := by unfold orb; rw [hd]; exact hid rfl
  rw [hd] at hp hpn
  have hd1 := hp.pos
  replace hp := hid hp
  have hh := hid h
  obtain ⟨ad, n', cap, rfl, ha⟩ := hv
  obtain rfl : n' = n := by have := ha.len; simp at this; exact this.symm
  replace ha := hid ha
  clear h hd
  have hst0 : Hid (Rw w.heap.size (w.alloc (.cells #[.int .i64 (x : Int)] 3)) (.slice (some ⟨w.heap.size, 0, none⟩) 1 1) (fl 1 (fun i => it f i x)) ∧ Below w.heap.size w (w.alloc (.cells #[.int .i64 (x : Int)] 3))) :=
    ⟨World.ownsRow_lit w #[.int .i64 (x : Int)] 1 (Nat.le_refl _) (by unfold maxLen; omega) rfl, balloc w _⟩
  go_enter Tryd.func21, Tryd.ntmps21
  go_wp2_with fail
  go_loopw [5, 6, 7] (fun v u _ wr => ∃ k : Nat, k + 1 ≤ d ∧ u = .int .i64 (k : Int) ∧ Hid (Rw w.heap.size wr v (fl (k + 1) (fun i => it f i x)) ∧ Below w.heap.size w wr))
    (fun _ u _ _ => d - (intOf u).toNat)
  case atStart => exact ⟨0, by omega, by go_num, hst0⟩
  case round =>
    obtain ⟨k, hkd, rfl, hst⟩ := hrel
    clear hst0
    have hyl := hh.out.it_lt hx k
    have hrow : wr.ownsRow w.heap.size 3 1 u5 (fl (k + 1) (fun i => it f i x)).length (ics (fl (k + 1) (fun i => it f i x))) := hst.out.1
    rw [fl_length] at hrow
    have hbw := hst.out.2
    have hsz := hbw.size
    obtain ⟨L, hL⟩ : ∃ L, k + 1 = L := ⟨_, rfl⟩
    obtain ⟨g, cg, rfl, hg1, hg2⟩ := own_form hrow (by omega)
    have hcl : wr.cell? ⟨g, L - 1, none⟩ = some (.int .i64 (it f k x : Int)) := by
      rw [← hL, show k + 1 - 1 = k from by omega, hrow.cellAt k (by omega), ics_get (by omega)]
    obtain ⟨b2, o2, rfl, c2⟩ := (ha.out.below (w' := wr) hbw).cell _ _ (clfl_get hyl)
    have hfy : f (it f k x) = it f (k + 1) x := rfl
    rw [hfy] at c2
    have hnx : Hid (fl (k + 1 + 1) (fun i => it f i x) = fl (k + 1) (fun i => it f i x) ++ [it f (k + 1) x]) := hid (fl_succ _ _)
    have hzl := hh.out.it_lt hx (k + 1)
    by_cases e : it f (k + 1) x = x
    · have hk : k + 1 = d := by
        rcases Nat.lt_or_ge (k + 1) d with hl | hl
        · exact absurd e (hp.out.least (k + 1) (by omega) hl)
        · omega
      have fin : Hid (Rw w.heap.size wr (.slice (some ⟨g, 0, none⟩) (k + 1) cg) (orb f x) ∧ Below w.heap.size w wr) := by
        rw [horb.out, ← hk]
        exact hst
      rw [e] at c2
      rw [hL] at fin ⊢
      generalize it f k x = y at *
      have j1 : (0 : Int) ≤ (y : Int) := by omega
      have j2 : (y : Int) < (n' : Int) := by omega
      have j3 : (0 : Int) ≤ (L : Int) - 1 := by omega
      have j4 : (L : Int) - 1 < (L : Int) := by omega
      have hLd : L ≤ 1000 := by omega
      have hkn : k < n' := by omega
      clear hst hrow hbw hnx e hL hk hfy
      go_wp2_with fail
      go_ret
      exact ⟨_, rfl, fin.out⟩
    · have hk : k + 1 < d := by
        rcases Nat.lt_or_ge (k + 1) d with hl | hl
        · exact hl
        · have hkk : k + 1 = d := by omega
          rw [hkk] at e
          exact absurd hp.out.at_ e
      rw [hL] at hrow hnx ⊢
      have hkL := hid hL
      obtain ⟨z, hz⟩ : ∃ z, it f (k + 1) x = z := ⟨_, rfl⟩
      rw [hL] at hz
      rw [hL, hz] at c2 e hzl
      rw [hz] at hnx
      generalize it f k x = y at *
      have j1 : (0 : Int) ≤ (y : Int) := by omega
      have j2 : (y : Int) < (n' : Int) := by omega
      have j3 : (0 : Int) ≤ (L : Int) - 1 := by omega
      have j4 : (L : Int) - 1 < (L : Int) := by omega
      have hLd : L ≤ 1000 := by omega
      have hkn : k < n' := by omega
      have t1 : ((z : Int) == (x : Int)) = false := by simp; omega
      have t2 : ¬ ((z : Int) = (x : Int)) := by omega
      clear hst hL hz hfy
      go_wp2_with (at_builtin; refine wpList_append_own _ rfl (.tmp 29) (.tmp 31) 22 rfl w.heap.size 3 i0 _ 1 8 Tryd.underlying22 hif hz0 hz1 hz2 rfl (by decide) _ _ _ rfl (hrow.alloc _) ⟨wr.heap.size, 0, none⟩ 1 1 [.int .i64 (z : Int)] rfl rfl (one_new wr _ _) (by simp [Value.oneCell']) (by unfold maxLen; omega) (by omega) (by simp; omega) ?_; intro v' w' ho' hg' _; refine Hid.out ?_)
      have hnew := hid (And.intro (show Rw w.heap.size w' v' (fl (k + 1 + 1) (fun i => it f i x)) from by
        rw [hkL.out, hnx.out]
        unfold Rw
        rw [List.length_append, fl_length, ics_append]
        exact ho') (below_grown (hbw.alloc hsz _) (Nat.le_refl _) (hrow.alloc _) (Nat.le_refl _) hg'))
      clear ho' hg' hrow hbw
      refine hid ?_
      go_wp2_with fail
      go_roundw
      case rel => exact ⟨k + 1, by omega, by go_num, hnew⟩
      case measure => simp [intOf]; omega

end Go.Proofs.YtjngdecpomogbaaDoor
