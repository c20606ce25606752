/- 'Cycles', 'lists', 'sure', walked. -/
import Derived.Test.YtjngdecpomogbaaDoorOrbit8
namespace Go.Proofs.YtjngdecpomogbaaDoor
open Go.RowKit
set_option linter.unusedVariables false

theorem Rw.keptB {w w' : World} {base b n : Nat} {v u : Value} {xs : List Value} {l : List Nat} (hu : Rw b w u l) (ho : w.ownsRow base 4 1 v n xs) (hg : w.grownBy w' v.ownBlock) : Rw b w' u l :=
  World.ownsRow.kept hu hg (own_apart hu ho (by decide))

theorem Rg.keptB {w w' : World} {base b n : Nat} {v u : Value} {xs : List Value} {ms : List (List Nat)} (h : Rg b w u ms) (ho : w.ownsRow base 4 1 v n xs) (hg : w.grownBy w' v.ownBlock) : Rg b w' u ms := by
  obtain ⟨us, hu, h1, hr⟩ := h
  exact ⟨us, hu, h1.kept hg (own_apart h1 ho (by decide)), fun i l u hi hj => (hr i l u hi hj).keptB ho hg⟩

/-- The marks of some numbers. -/
def marks (l : List Nat) : Nat → Bool := fun y => decide (y ∈ l)
theorem marks_on (l : List Nat) (x : Nat) : on (marks l) x = marks (l ++ [x]) := by
  funext y
  unfold on marks
  by_cases e : y = x
  · subst e; simp
  · rw [if_neg e]; simp [e]

/-- The marks stay where rows of rows grow. -/
theorem Mk.kept {base base' n k : Nat} {w0 w w' : World} {v u : Value} {p : Nat → Bool} {xs : List Value} (h : Mk base w0 w v n p) (ho : w.ownsRow base' 22 1 u k xs) (hb : base ≤ base') (hg : w.grownBy w' u.ownBlock) : Mk base w0 w' v n p :=
  ⟨h.row.kept hg (own_apart h.row ho (by decide)), below_grown h.bel h.low ho hb hg, h.low⟩

theorem Mk.more {base n : Nat} {w0 w w' : World} {v : Value} {p : Nat → Bool} (h : Mk base w0 w v n p) (hb : Below w.heap.size w w') : Mk base w0 w' v n p :=
  ⟨own_more h.row hb, h.bel.trans (hb.mono (Nat.le_trans h.low h.bel.size)), h.low⟩

theorem ntake {l : List Nat} {j z : Nat} (h : l[j]? = some z) : l.take (j + 1) = l.take j ++ [z] := by
  rw [List.take_add_one, h]; rfl

set_option maxRecDepth 100000 in
set_option maxHeartbeats 4000000 in
theorem cycles_yes (v : Value) (n : Nat) (f : Nat → Nat) (w : World) (hv : IV w v (cl (fl n f))) (h : Pm n f) (hn : n ≤ 1000) :
    Calls Tryd.prog 17 #[v] w fun e w' => ∃ u, e = .returned (.tuple #[u, .nilIface]) ∧ Rg w.heap.size w' u (cyc f n) ∧ Below w.heap.size w w' := by
  obtain ⟨i0, hif, hz0, hz1, hz2⟩ := info_parts infoBool
  obtain ⟨i1, hjf, hy0, hy1, hy2⟩ := info_parts infoInts
  have hck := hid (check_yes v _ w hv (by simp; omega) h.ord)
  have hcy : Hid (∀ x y, x < n → Below w.heap.size w y → _) := hid (fun x y hx hy => cycle_ok v n x f y (hv.below hy) h hx hn)
  have hh := hid h
  obtain ⟨ad, n', cap, rfl, ha⟩ := hv
  obtain rfl : n' = n := by have := ha.len; simp at this; exact this.symm
  clear h ha
  go_enter Tryd.func17, Tryd.ntmps17
  go_wp2_with fail
  refine hck.out.mono ?_
  rintro e w1 ⟨rfl, b1⟩
  have hsz := b1.size
  replace b1 := hid b1
  clear hck
  go_wp2_with (at_make; refine wpList_make_full _ rfl (.tmp 17) (.tmp 17) 52 rfl w.heap.size 4 i0 (.bool false) 1 Tryd.underlying52 hif hz0 hz1 .i64 .i64 _ _ n' rfl rfl rfl rfl (by rw [hz2]; omega) (by unfold maxLen; omega) hsz ?_; intro w2 hown hgrow)
  have hst0 : Hid (Mk w.heap.size w w2 (.slice (some ⟨w1.heap.size, 0, none⟩) n' n') n' (marks (cyc f 0).flatten) ∧ Rg w.heap.size w2 (.slice none 0 0) (cyc f 0)) := by
    rw [bl_made] at hown
    refine ⟨⟨?_, b1.out.grown hgrow hsz (by simp), Nat.le_refl _⟩, ?_⟩
    · rw [show bl n' (marks (cyc f 0).flatten) = bl n' (fun _ => false) from bl_congr (fun i _ => by simp [marks, cyc])]
      exact hown
    · have : cyc f 0 = [] := by simp [cyc]
      rw [this]; exact Rg.nil _ _
  clear hown hgrow
  go_wp2_with fail
  go_loopw [5, 7, 8, 10, 21] (fun o _ _ _ u wr => ∃ x : Nat, x ≤ n' ∧ u = .int .i64 (x : Int) ∧ Hid (Mk w.heap.size w wr (.slice (some ⟨w1.heap.size, 0, none⟩) n' n') n' (marks (cyc f x).flatten) ∧ Rg w.heap.size wr o (cyc f x)))
    (fun _ _ _ _ u _ => n' - (intOf u).toNat)
  case atStart => exact ⟨0, by omega, by go_num, hst0⟩
  case round =>
    obtain ⟨x, hx, rfl, hst⟩ := hrel
    clear hst0
    rcases Nat.lt_or_ge x n' with hlt | hge
    · have hcell : wr.cell? ⟨w1.heap.size, x, none⟩ = some (.bool (marks (cyc f x).flatten x)) := by rw [hst.out.1.row.cellAt x (by omega), bl_get hlt]
      have j1 : (0 : Int) ≤ (x : Int) := by omega
      have j2 : (x : Int) < (n' : Int) := by omega
      by_cases hm : x ∈ (cyc f x).flatten
      · have hno : ¬ lst f x := fun hl => (hh.out.lst_iff hlt).1 hl hm
        have hnew : Hid (Mk w.heap.size w wr (.slice (some ⟨w1.heap.size, 0, none⟩) n' n') n' (marks (cyc f (x + 1)).flatten) ∧ Rg w.heap.size wr u5 (cyc f (x + 1))) := by rw [cyc_no hno]; exact hst
        rw [show marks (cyc f x).flatten x = true from by simpa [marks] using hm] at hcell
        clear hst hm hno
        go_wp2_with fail
        go_roundw
        case rel => exact ⟨x + 1, by omega, by go_num, hnew⟩
        case measure => simp [intOf]; omega
      · have hyes : Hid (lst f x) := hid ((hh.out.lst_iff hlt).2 hm)
        rw [show marks (cyc f x).flatten x = false from by simpa [marks] using hm] at hcell
        have hcx := hid (hcy.out x wr hlt hst.out.1.bel)
        clear hm
        go_wp2_with fail
        refine hcx.out.mono ?_
        rintro e w3 ⟨c, rfl, hr, b3⟩
        have hst3 : Hid (Mk w.heap.size w w3 (.slice (some ⟨w1.heap.size, 0, none⟩) n' n') n' (marks ((cyc f x).flatten ++ (orb f x).take 0)) ∧ Rg w.heap.size w3 u5 (cyc f x) ∧ Rw 0 w3 c (orb f x)) := by
          refine ⟨?_, hst.out.2.more b3, hr.low (Nat.zero_le _)⟩
          rw [List.take_zero, List.append_nil]
          exact hst.out.1.more b3
        clear hcx hst hr b3 hcell
        obtain ⟨d, hd⟩ : ∃ d, (orb f x).length = d := ⟨_, rfl⟩
        have hdn : d ≤ 1000 := by
          have := (hh.out.per_is hlt).2
          have h2 : (orb f x).length = per f x := by unfold orb; simp
          omega
        obtain ⟨ac, cc, rfl⟩ : ∃ ac cc, c = .slice ac d cc := by
          obtain ⟨ac, cc, h1, _⟩ := own_any hst3.out.2.2
          exact ⟨ac, cc, by rw [h1, hd]⟩
        replace hd := hid hd
        go_wp2_with fail
        go_loopw [10, 33] (fun _ u wy => ∃ k : Nat, k ≤ d ∧ u = .int .i64 (k : Int) ∧ Hid (Mk w.heap.size w wy (.slice (some ⟨w1.heap.size, 0, none⟩) n' n') n' (marks ((cyc f x).flatten ++ (orb f x).take k)) ∧ Rg w.heap.size wy u5 (cyc f x) ∧ Rw 0 wy (.slice ac d cc) (orb f x)))
          (fun _ u _ => d - (intOf u).toNat)
        case atStart => exact ⟨0, by omega, by go_num, hst3⟩
        case round =>
          obtain ⟨k, hk, rfl, hst⟩ := hrel
          clear hst3
          rcases Nat.lt_or_ge k d with hkd | hkd
          · obtain ⟨z, hz⟩ : ∃ z, (orb f x)[k]? = some z := ⟨_, List.getElem?_eq_getElem (by rw [hd.out]; exact hkd)⟩
            have hzn := hh.out.orb_lt hlt (List.mem_of_getElem? hz)
            obtain ⟨g3, q3, c3, e3, hI⟩ := hst.out.2.2.iv
            obtain ⟨rfl, rfl, rfl⟩ : ac = g3 ∧ d = q3 ∧ cc = c3 := by simpa using e3
            obtain ⟨b4, o4, rfl, c4⟩ := hI.cell k _ (cl_get hz)
            obtain ⟨hM, hG, hR⟩ := hst.out
            obtain ⟨s1, s2⟩ := hM.row.stored z (.bool true)
            rw [bl_set, marks_on, List.append_assoc, ← ntake hz] at s1
            have hfz := hM.row.frozenAt z
            have hold : wr.cell? ⟨w1.heap.size, z, none⟩ = some (.bool (marks ((cyc f x).flatten ++ (orb f x).take k) z)) := by rw [hM.row.cellAt z (by omega), bl_get hzn]
            have hnew := hid (And.intro (Mk.mk s1 (below_grown hM.bel hM.low hM.row (Nat.le_refl _) s2) hM.low) (And.intro (hG.keptB hM.row s2) (hR.keptB hM.row s2)))
            generalize marks ((cyc f x).flatten ++ (orb f x).take k) z = old at hold
            clear s1 s2 hM hG hR hst hz e3 hI
            have j3 : (0 : Int) ≤ (k : Int) := by omega
            have j4 : (k : Int) < (d : Int) := by omega
            have j5 : (0 : Int) ≤ (z : Int) := by omega
            have j6 : (z : Int) < (n' : Int) := by omega
            go_wp2_with fail
            go_roundw
            case rel => exact ⟨k + 1, by omega, by go_num, hnew⟩
            case measure => simp [intOf]; omega
          · obtain rfl : k = d := by omega
            obtain ⟨hM, ⟨us, hus, ho, hrs⟩, hR⟩ := hst.out
            rw [List.take_of_length_le (by rw [hd.out]; exact Nat.le_refl _)] at hM
            have hml : marks ((cyc f x).flatten ++ orb f x) = marks (cyc f (x + 1)).flatten := by rw [cyc_yes hyes.out, List.flatten_append]; simp
            rw [hml] at hM
            have hle := cyc_le f x
            have hba := balloc wr (.cells #[.slice ac k cc] 22)
            have hszr := Nat.le_trans hM.low hM.bel.size
            replace hM := hid hM
            replace hrs := hid hrs
            replace hR := hid hR
            replace hba := hid hba
            replace hus := hid hus
            clear hst hml
            go_wp2_with (at_builtin; refine wpList_append_own _ rfl (.tmp 41) (.tmp 43) 35 rfl w.heap.size 22 i1 _ 1 24 Tryd.underlying35 hjf hy0 hy1 hy2 rfl (by decide) _ _ _ rfl (ho.alloc _) ⟨wr.heap.size, 0, none⟩ 1 1 [.slice ac k cc] rfl rfl (one_new wr _ _) (by simp [Value.oneCell']) (by unfold maxLen; omega) (by omega) (by simp; omega) ?_; intro v5 w5 ho5 hg5 _; refine Hid.out ?_)
            have hnew : Hid (Mk w.heap.size w w5 (.slice (some ⟨w1.heap.size, 0, none⟩) n' n') n' (marks (cyc f (x + 1)).flatten) ∧ Rg w.heap.size w5 v5 (cyc f (x + 1))) := by
              refine ⟨(hM.out.more hba.out).kept (ho.alloc _) (Nat.le_refl _) hg5, ?_⟩
              rw [cyc_yes hyes.out]
              exact Rg.push hus.out (ho.alloc _) (fun i l u hi hj => (hrs.out i l u hi hj).more hba.out) (hR.out.more hba.out) ho5 hg5
            clear ho5 hg5 ho hM hrs hR
            refine hid ?_
            go_wp2_with fail
            go_roundw
            case rel => exact ⟨x + 1, by omega, by go_num, hnew⟩
            case measure => simp [intOf]; omega
    · obtain rfl : x = n' := by omega
      go_wp2_with fail
      go_ret2
      exact ⟨_, rfl, hst.out.2, hst.out.1.bel⟩

set_option maxRecDepth 100000 in
set_option maxHeartbeats 1000000 in
theorem cycles_no (v : Value) (zs : List Int) (w : World) (hv : IV w v zs) (ho : ¬ Ord zs) (hn : zs.length ≤ 1000) :
    Calls Tryd.prog 17 #[v] w fun e w' => e = .returned (.tuple #[.slice none 0 0, .iface 49 (.int .i64 3)]) ∧ Below w.heap.size w w' := by
  have hck := hid (check_no v _ w hv hn ho)
  go_enter Tryd.func17, Tryd.ntmps17
  go_wp2_with fail
  refine hck.out.mono ?_
  rintro e w1 ⟨rfl, b1⟩
  replace b1 := hid b1
  go_wp2_with fail
  go_ret2
  exact ⟨rfl, b1.out⟩

set_option maxRecDepth 100000 in
set_option maxHeartbeats 2000000 in
theorem lists_ok (u v : Value) (ls : List (List Int)) (w : World) (hu : RV w u ls) (hv : RV w v ls) :
    Calls Tryd.prog 19 #[u, v] w fun e w' => e = .returned (.bool true) ∧ ∃ m, w' = w.drewN m := by
  obtain ⟨a, n, ca, rfl, ha⟩ := hu
  obtain ⟨b, n', cb, rfl, hb⟩ := hv
  obtain rfl : n' = n := by rw [← ha.len, ← hb.len]
  have hl := ha.len
  have hbig := ha.big
  replace ha := hid ha
  replace hb := hid hb
  replace hl := hid hl
  go_enter Tryd.func19, Tryd.ntmps19
  go_wp2_with fail
  go_loopw [5] (fun u wr => ∃ j : Nat, j ≤ n' ∧ u = .int .i64 (j : Int) ∧ Hid (∃ m, wr = w.drewN m))
    (fun u _ => n' - (intOf u).toNat)
  case atStart => exact ⟨0, by omega, by go_num, ⟨0, rfl⟩⟩
  case round =>
    obtain ⟨j, hj, rfl, hw⟩ := hrel
    rcases Nat.lt_or_ge j n' with hlt | hge
    · obtain ⟨l, hz⟩ : ∃ z, ls[j]? = some z := ⟨_, List.getElem?_eq_getElem (by rw [hl.out]; exact hlt)⟩
      obtain ⟨b1, o1, u1, rfl, c1, I1⟩ := ha.out.cell j l hz
      obtain ⟨b2, o2, u2, rfl, c2, I2⟩ := hb.out.cell j l hz
      have c1' : wr.cell? ⟨b1, o1 + j, none⟩ = some u1 := by
        obtain ⟨m, hm⟩ := hw.out
        rw [hm]; exact c1
      have c2' : wr.cell? ⟨b2, o2 + j, none⟩ = some u2 := by
        obtain ⟨m, hm⟩ := hw.out
        rw [hm]; exact c2
      have hbel : Below w.heap.size w wr := by
        obtain ⟨m, hm⟩ := hw.out
        rw [hm]; exact belowN (Below.refl _ _) m
      have hq : Hid (∀ m, Calls Tryd.prog 14 #[u1, u2] (wr.drewN m) fun e w' => e = .returned (.bool true) ∧ ∃ k, w' = (wr.drewN m).drewN k) := hid (fun m => ints_ok u1 u2 l _ (I1.below (belowN hbel m)) (I2.below (belowN hbel m)))
      have hw2 : Hid (∀ k, ∃ m, wr.drewN k = w.drewN m) := by
        obtain ⟨m, hm⟩ := hw.out
        exact fun k => ⟨m + k, by rw [hm]; simp [World.drewN, Nat.add_assoc]⟩
      clear hz c1 c2 I1 I2 hbel
      have i1 : (0 : Int) ≤ (j : Int) := by omega
      have i2 : (j : Int) < (n' : Int) := by omega
      go_wp2_with fail
      go_quiet ((go_at_call 14; exact Calls.quiet_of (hq.out _)))
      go_wp2_with fail
      go_roundw
      case rel => exact ⟨j + 1, by omega, by go_num, hw2.out _⟩
      case measure => simp [intOf]; omega
    · obtain rfl : j = n' := by omega
      go_wp2_with fail
      go_ret
      exact ⟨rfl, hw.out⟩

end Go.Proofs.YtjngdecpomogbaaDoor
