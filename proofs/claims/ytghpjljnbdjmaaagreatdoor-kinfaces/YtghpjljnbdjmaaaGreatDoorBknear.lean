/- cmp's functions, the comparer, slices.MinFunc and nearest, walked. kin.Groups, walked. kin.Road, walked. kin.Bridge, walked. -/
import Derived.Test.YtghpjljnbdjmaaaGreatDoorBkwalk
namespace Go.Proofs.YtghpjljnbdjmaaaGreatDoor
open Go.RowKit
set_option linter.unusedVariables false

open Pq (fl fl_length fl_succ fl_get fl_congr)

theorem below_thru {a z y : World} (h : Below a.heap.size a z) (k : Below z.heap.size z y) : Below a.heap.size a y := h.trans (k.mono h.size)

/-- One number against another one. -/
def cmpI (x y : Int) : Int := if x < y then -1 else if y < x then 1 else 0

set_option maxRecDepth 100000 in
theorem nan_ok (z : Int) (w : World) : Calls Tryz.prog 114 #[.int .i64 z] w fun e w' => e = .returned (.bool false) ∧ w = w' := by
  go_enter Tryz.func114, Tryz.ntmps114
  go_wp2_with fail
  go_ret
  exact ⟨rfl, rfl⟩

set_option maxRecDepth 100000 in
set_option maxHeartbeats 1000000 in
theorem cmp_ok (x y : Int) (w : World) : Calls Tryz.prog 75 #[.int .i64 x, .int .i64 y] w fun e w' => e = .returned (.int .i64 (cmpI x y)) ∧ w = w' := by
  have h1 := nan_ok x w
  have h2 := nan_ok y w
  have ways : (∃ r, cmpI x y = r ∧ r = -1 ∧ decide (x < y) = true) ∨ (∃ r, cmpI x y = r ∧ r = 1 ∧ decide (x < y) = false ∧ decide (y < x) = true) ∨ (∃ r, cmpI x y = r ∧ r = 0 ∧ decide (x < y) = false ∧ decide (y < x) = false) := by
    unfold cmpI
    by_cases t1 : x < y
    · exact .inl ⟨_, rfl, if_pos t1, decide_eq_true t1⟩
    · by_cases t2 : y < x
      · exact .inr (.inl ⟨_, rfl, by rw [if_neg t1, if_pos t2], decide_eq_false t1, decide_eq_true t2⟩)
      · exact .inr (.inr ⟨_, rfl, by rw [if_neg t1, if_neg t2], decide_eq_false t1, decide_eq_false t2⟩)
  rcases ways with ⟨r, e1, e2, d1⟩ | ⟨r, e1, e2, d1, d2⟩ | ⟨r, e1, e2, d1, d2⟩
  all_goals
    rw [e1]
    subst e2
    clear e1
    go_enter Tryz.func75, Tryz.ntmps75
    go_wp2_with fail
    refine h1.mono ?_
    rintro e w1 ⟨rfl, rfl⟩
    go_wp2_with fail
    refine h2.mono ?_
    rintro e w2 ⟨rfl, rfl⟩
    go_wp2_with fail
    go_ret
    exact ⟨rfl, rfl⟩

/-- The first that is not 0. -/
def orI (x y : Int) : Int := if x = 0 then y else x

set_option maxRecDepth 100000 in
set_option maxHeartbeats 1000000 in
theorem or_ok (b : Nat) (x y : Int) (w : World) (c0 : w.cell? ⟨b, 0, none⟩ = some (.int .i64 x)) (c1 : w.cell? ⟨b, 1, none⟩ = some (.int .i64 y)) : Calls Tryz.prog 74 #[.slice (some ⟨b, 0, none⟩) 2 2] w fun e w' => e = .returned (.int .i64 (orI x y)) ∧ w = w' := by
  by_cases hx : x = 0
  · subst hx
    have hr : Hid (orI 0 y = y) := by unfold orI; rw [if_pos rfl]; exact hid rfl
    by_cases hy : y = 0
    · subst hy
      go_enter Tryz.func74, Tryz.ntmps74
      go_wp2_with fail
      refine wp_loop_rounds 3 ?_
      rw [rounds_succ]
      go_wp2_with fail
      rw [rounds_succ]
      go_wp2_with fail
      rw [rounds_succ]
      go_wp2_with fail
      go_ret
      exact ⟨by rw [hr.out]; rfl, rfl⟩
    · have t2 : (y != 0) = true := by simp [hy]
      go_enter Tryz.func74, Tryz.ntmps74
      go_wp2_with fail
      refine wp_loop_rounds 2 ?_
      rw [rounds_succ]
      go_wp2_with fail
      rw [rounds_succ]
      go_wp2_with fail
      go_ret
      exact ⟨by rw [hr.out]; rfl, rfl⟩
  · have hr : Hid (orI x y = x) := by unfold orI; rw [if_neg hx]; exact hid rfl
    have t2 : (x != 0) = true := by simp [hx]
    go_enter Tryz.func74, Tryz.ntmps74
    go_wp2_with fail
    refine wp_loop_rounds 1 ?_
    rw [rounds_succ]
    go_wp2_with fail
    go_ret
    exact ⟨by rw [hr.out]; rfl, rfl⟩

/-- How far a dart's end is. -/
noncomputable def sto (V : Nat) (R : Nat → List Nat) (st : Nat → Nat) (d : Nat) : Nat := st (og V R (tw d))
/-- What the comparer tells. -/
noncomputable def cfK (V : Nat) (R : Nat → List Nat) (st : Nat → Nat) (x y : Nat) : Int := orI (cmpI (sto V R st x : Int) (sto V R st y : Int)) (cmpI (x : Int) (y : Int))

theorem cfK_lt {V : Nat} {R : Nat → List Nat} {st : Nat → Nat} {x y : Nat} : cfK V R st x y < 0 ↔ sto V R st x < sto V R st y ∨ (sto V R st x = sto V R st y ∧ x < y) := by
  unfold cfK orI cmpI
  generalize sto V R st x = a
  generalize sto V R st y = b
  by_cases h1 : (a : Int) < (b : Int)
  · simp only [h1, if_true]; simp; omega
  · by_cases h2 : (b : Int) < (a : Int)
    · simp only [h1, h2, if_true, if_false]; simp; omega
    · simp only [h1, h2, if_false, if_true]
      by_cases h3 : (x : Int) < (y : Int)
      · simp only [h3, if_true]; simp; omega
      · simp only [h3, if_false]
        by_cases h4 : (y : Int) < (x : Int)
        · simp only [h4, if_true]; simp; omega
        · simp only [h4, if_false]; simp; omega

theorem cfK_ge {V : Nat} {R : Nat → List Nat} {st : Nat → Nat} {x m : Nat} : 0 ≤ cfK V R st x m ↔ sto V R st m < sto V R st x ∨ (sto V R st m = sto V R st x ∧ m ≤ x) := by
  rw [← Int.not_lt, cfK_lt]
  omega

section
variable {w0 w : World} {lo tb V E wb sb : Nat} {R : Nat → List Nat} {e : Int} {st : Nat → Nat}

set_option maxRecDepth 100000 in
set_option maxHeartbeats 4000000 in
/-- The comparer. -/
theorem near1_ok (h : TA w0 lo tb V E R) (hw : Tw V E R) (hm : Wm w0.heap.size w0 w wb (some ⟨tb, 0, none⟩) sb V e st) (bx : Nat) (hbx : w.cell? ⟨bx, 0, none⟩ = some (.pointer (some ⟨wb, 0, none⟩))) (x y : Nat) (hx : In V R x) (hy : In V R y) :
    Calls Tryz.prog 73 #[.int .i64 (x : Int), .int .i64 (y : Int), .pointer (some ⟨bx, 0, none⟩)] w fun r w' => r = .returned (.int .i64 (cfK V R st x y)) ∧ Below w.heap.size w w' := by
  have hbel := hm.bel
  obtain ⟨H, hH⟩ : ∃ H : Nat → Nat, ∀ d, og V R (tw d) = H d := ⟨_, fun d => rfl⟩
  have hh : Hid (∀ d : Nat, (d = x ∨ d = y) → ∀ z, Below w.heap.size w z → Calls Tryz.prog 44 #[.pointer (some ⟨tb, 0, none⟩), .int .i64 (d : Int)] z fun r w' => r = .returned (.int .i64 (H d : Int)) ∧ Below z.heap.size z w') := hid (fun d hd z hz => by
    rw [← hH]
    exact khead_ok (h.more (hbel.trans (hz.mono hbel.size))) hw d (by rcases hd with rfl | rfl <;> assumption))
  have hS1 : Hid (∀ z, Below w.heap.size w z → z.cell? ⟨bx, 0, none⟩ = some (.pointer (some ⟨wb, 0, none⟩)) ∧ z.cell? ⟨wb, 0, none⟩ = some (.pointer (some ⟨tb, 0, none⟩))) := hid fun z hz => ⟨(hz.cell (World.block_lt_of_cell? w _ hbx)).trans hbx, (hm.more hz).c0⟩
  have ha : H x < V := by rw [← hH]; exact (og_is (hx.tw h.tn hw)).1
  have hb : H y < V := by rw [← hH]; exact (og_is (hy.tw h.tn hw)).1
  have hS2 : Hid (∀ z, Below w.heap.size w z → z.cell? ⟨bx, 0, none⟩ = some (.pointer (some ⟨wb, 0, none⟩)) ∧ z.cell? ⟨wb, 2, none⟩ = some (.slice (some ⟨sb, 0, none⟩) V V) ∧ z.cell? ⟨sb, H x, none⟩ = some (.int .i64 (st (H x) : Int)) ∧ z.cell? ⟨sb, H y, none⟩ = some (.int .i64 (st (H y) : Int))) := hid fun z hz => ⟨(hz.cell (World.block_lt_of_cell? w _ hbx)).trans hbx, (hm.more hz).c2, (hm.more hz).at_ ha, (hm.more hz).at_ hb⟩
  have hcf : Hid (cfK V R st x y = orI (cmpI (st (H x) : Int) (st (H y) : Int)) (cmpI (x : Int) (y : Int))) := by rw [← hH, ← hH]; exact hid rfl
  obtain ⟨sA, hsA⟩ : ∃ s, st (H x) = s := ⟨_, rfl⟩
  obtain ⟨sB, hsB⟩ : ∃ s, st (H y) = s := ⟨_, rfl⟩
  rw [hsA] at hS2 hcf
  rw [hsB] at hS2 hcf
  have hcc := hid (fun (p q : Int) z => cmp_ok p q z)
  generalize cmpI = C at hcc hcf
  have i1 : (0 : Int) ≤ (H x : Int) := by omega
  have i2 : (H x : Int) < (V : Int) := by omega
  have i3 : (0 : Int) ≤ (H y : Int) := by omega
  have i4 : (H y : Int) < (V : Int) := by omega
  clear h hw hm hbx hx hy hbel hH hsA hsB ha hb
  go_enter Tryz.func73, Tryz.ntmps73
  go_wp2_with fail
  go_region_held3 (fun z => z.cell? ⟨bx, 0, none⟩ = some (.pointer (some ⟨wb, 0, none⟩)) ∧ z.cell? ⟨wb, 0, none⟩ = some (.pointer (some ⟨tb, 0, none⟩))) (first | with_reducible exact hS1.out _ bS.out | with_reducible exact hS1.out _ (Below.refl _ _).drew | with_reducible exact hS1.out _ (Below.refl _ _) | go_keep) ((go_at_call 44; refine (hh.out _ (by first | exact .inl rfl | exact .inr rfl) _ (by first | exact bS.out | exact (Below.refl _ _).drew)).mono ?_; rintro r ws ⟨rfl, bs⟩; have bS := hid (below_thru (by first | exact bS.out | exact (Below.refl w.heap.size w).drew) bs); clear bs))
  clear hh hS1
  go_wp2_with fail
  go_region_held3 (fun z => z.cell? ⟨bx, 0, none⟩ = some (.pointer (some ⟨wb, 0, none⟩)) ∧ z.cell? ⟨wb, 2, none⟩ = some (.slice (some ⟨sb, 0, none⟩) V V) ∧ z.cell? ⟨sb, H x, none⟩ = some (.int .i64 (sA : Int)) ∧ z.cell? ⟨sb, H y, none⟩ = some (.int .i64 (sB : Int))) (first | with_reducible exact hS2.out _ bS.out | with_reducible exact hS2.out _ bS.out.drew | with_reducible exact hS2.out _ (bS.out.alloc bS.out.size _) | with_reducible exact hS2.out _ (bS.out.alloc bS.out.size _).drew | go_keep) ((first | (go_at_call 75; refine (hcc.out _ _ _).mono ?_; rintro r wq ⟨rfl, rfl⟩) | (go_at_call 74; refine (or_ok ws.heap.size (C (sA : Int) (sB : Int)) (C (x : Int) (y : Int)) _ (by exact (two_new ws _ _ _).1) (by exact (two_new ws _ _ _).2)).mono ?_; rintro r wq ⟨rfl, rfl⟩)))
  have fin := hid (bS.out.alloc bS.out.size (.cells #[.int .i64 (C (sA : Int) (sB : Int)), .int .i64 (C (x : Int) (y : Int))] 3)).drew
  go_wp2_with fail
  go_ret
  exact ⟨by rw [hcf.out]; rfl, fin.out⟩

set_option maxRecDepth 100000 in
set_option maxHeartbeats 4000000 in
/-- The least of all, by the comparer. -/
theorem minf_ok (bx : Nat) (l : List Nat) (rv : Value) (base : Nat) (hr : Rw base w rv l) (hl : l ≠ []) (hn : l.length ≤ 2097152) (V' : Nat) (R' : Nat → List Nat) (st' : Nat → Nat)
    (hc : ∀ x y, x ∈ l → y ∈ l → ∀ z, Below w.heap.size w z → Calls Tryz.prog 73 #[.int .i64 (x : Int), .int .i64 (y : Int), .pointer (some ⟨bx, 0, none⟩)] z fun r w' => r = .returned (.int .i64 (cfK V' R' st' x y)) ∧ Below z.heap.size z w') :
    Calls Tryz.prog 76 #[rv, .func (.func 73) #[] #[.pointer (some ⟨bx, 0, none⟩)]] w fun r w' => ∃ m : Nat, r = .returned (.int .i64 (m : Int)) ∧ m ∈ l ∧ (∀ x, x ∈ l → 0 ≤ cfK V' R' st' x m) ∧ Below w.heap.size w w' := by
  obtain ⟨n, hnl⟩ : ∃ n, l.length = n := ⟨_, rfl⟩
  have hpos : 0 < n := by rw [← hnl]; exact List.length_pos_iff.2 hl
  rw [hnl] at hn
  obtain ⟨ac, cc, rfl⟩ : ∃ ac cc, rv = .slice ac n cc := by
    obtain ⟨ac, cc, h1, _⟩ := own_any hr
    exact ⟨ac, cc, by rw [h1, hnl]⟩
  obtain ⟨z0, hz0⟩ : ∃ z, l[0]? = some z := ⟨_, List.getElem?_eq_getElem (by rw [hnl]; exact hpos)⟩
  obtain ⟨g3, q3, c3, e3, _, _, _, hI⟩ := hr.nl
  obtain ⟨rfl, rfl, rfl⟩ : ac = g3 ∧ n = q3 ∧ cc = c3 := by simpa using e3
  obtain ⟨b4, o4, rfl, c4⟩ := hI 0 _ hz0
  have hcell : Hid (∀ (j x : Nat), l[j]? = some x → ∀ z, Below w.heap.size w z → z.cell? ⟨b4, o4 + j, none⟩ = some (.int .i64 (x : Int))) := hid (fun j x hj z hz => by
    obtain ⟨b5, o5, e5, c5⟩ := hI j x hj
    simp only [Option.some.injEq, Addr.mk.injEq, and_true] at e5
    obtain ⟨rfl, rfl⟩ := e5
    exact (hz.cell (World.block_lt_of_cell? w _ c5)).trans c5)
  have hst0 : Hid (z0 ∈ l.take 1 ∧ (∀ x, x ∈ l.take 1 → 0 ≤ cfK V' R' st' x z0) ∧ Below w.heap.size w w) := by
    have e1 : l.take 1 = [z0] := by rw [ntake hz0]; rfl
    rw [e1]
    refine ⟨by simp, fun x hx => ?_, Below.refl _ _⟩
    obtain rfl : x = z0 := by simpa using hx
    rw [cfK_ge]; omega
  have hmem : Hid (∀ (j x : Nat), l[j]? = some x → x ∈ l) := hid fun j x hj => List.mem_of_getElem? hj
  have hnh := hid hnl
  replace hc := hid hc
  have t0 : decide ((n : Int) < 1) = false := decide_eq_false (by omega)
  have i0 : (0 : Int) < (n : Int) := by omega
  clear hr hl hnl e3 hI hz0
  rw [Nat.add_zero] at c4
  go_enter Tryz.func76, Tryz.ntmps76
  go_wp2_with fail
  go_loopw [5, 6] (fun mv iv wr => ∃ (i m : Nat), 1 ≤ i ∧ i ≤ n ∧ iv = .int .i64 (i : Int) ∧ mv = .int .i64 (m : Int) ∧ Hid (m ∈ l.take i ∧ (∀ x, x ∈ l.take i → 0 ≤ cfK V' R' st' x m) ∧ Below w.heap.size w wr))
    (fun _ iv _ => n - (intOf iv).toNat)
  case atStart => exact ⟨1, z0, by omega, by omega, by go_num, rfl, hst0⟩
  case round =>
    obtain ⟨i, m, hi1, hin, rfl, rfl, hst⟩ := hrel
    clear hst0 c4
    rcases Nat.lt_or_ge i n with hlt | hge
    · obtain ⟨z, hz⟩ : ∃ z, l[i]? = some z := ⟨_, List.getElem?_eq_getElem (by rw [hnh.out]; exact hlt)⟩
      have ci := hcell.out i z hz wr hst.out.2.2
      have hml : m ∈ l := List.mem_of_mem_take hst.out.1
      have hcall := hid (hc.out z m (hmem.out i z hz) hml wr hst.out.2.2)
      have htk := hid (ntake hz)
      have j1 : (0 : Int) ≤ (i : Int) := by omega
      have j2 : (i : Int) < (n : Int) := by omega
      have hcz := hid (fun z (hz' : Below w.heap.size w z) => hcell.out i _ hz z hz')
      replace hz := hid hz
      clear hml
      obtain ⟨r, hr⟩ : ∃ r, cfK V' R' st' z m = r := ⟨_, rfl⟩
      rw [hr] at hcall
      replace hr := hid hr
      go_wp2_with fail
      refine hcall.out.mono ?_
      rintro x w3 ⟨rfl, b3⟩
      have hb3 := below_thru hst.out.2.2 b3
      have ci3 := hcz.out w3 hb3
      replace hb3 := hid hb3
      clear hcall b3 ci
      by_cases hneg : r < 0
      · have t1 : decide (r < 0) = true := decide_eq_true hneg
        have hnew : Hid (z ∈ l.take (i + 1) ∧ (∀ x, x ∈ l.take (i + 1) → 0 ≤ cfK V' R' st' x z) ∧ Below w.heap.size w w3) := by
          rw [htk.out]
          refine ⟨by simp, fun x hx => ?_, hb3.out⟩
          rcases List.mem_append.1 hx with q | q
          · have h1 := hst.out.2.1 x q
            rw [← hr.out] at hneg
            rw [cfK_lt] at hneg
            rw [cfK_ge] at h1 ⊢
            omega
          · obtain rfl : x = z := by simpa using q
            rw [cfK_ge]; omega
        clear hneg hst hb3
        go_wp2_with fail
        go_roundw
        case rel => exact ⟨i + 1, z, by omega, by omega, by go_num, rfl, hnew⟩
        case measure => simp [intOf]; omega
      · have t1 : decide (r < 0) = false := decide_eq_false hneg
        have hnew : Hid (m ∈ l.take (i + 1) ∧ (∀ x, x ∈ l.take (i + 1) → 0 ≤ cfK V' R' st' x m) ∧ Below w.heap.size w w3) := by
          rw [htk.out]
          refine ⟨List.mem_append_left _ hst.out.1, fun x hx => ?_, hb3.out⟩
          rcases List.mem_append.1 hx with q | q
          · exact hst.out.2.1 x q
          · obtain rfl : x = z := by simpa using q
            rw [hr.out]; omega
        clear hneg hst hb3 ci3
        go_wp2_with fail
        go_roundw
        case rel => exact ⟨i + 1, m, by omega, by omega, by go_num, rfl, hnew⟩
        case measure => simp [intOf]; omega
    · obtain rfl : i = n := by omega
      have fin : Hid (m ∈ l ∧ (∀ x, x ∈ l → 0 ≤ cfK V' R' st' x m) ∧ Below w.heap.size w wr) := by
        have := hst.out
        rw [List.take_of_length_le (by rw [hnh.out]; exact Nat.le_refl _)] at this
        exact hid this
      clear hst
      go_wp2_with fail
      go_ret
      exact ⟨m, rfl, fin.out.1, fin.out.2.1, fin.out.2.2⟩

set_option maxRecDepth 100000 in
set_option maxHeartbeats 4000000 in
theorem nearest_ok (h : TA w0 lo tb V E R) (hw : Tw V E R) (hm : Wm w0.heap.size w0 w wb (some ⟨tb, 0, none⟩) sb V e st) (v : Nat) (hv : v < V) (hne : R v ≠ []) :
    Calls Tryz.prog 43 #[.pointer (some ⟨wb, 0, none⟩), .int .i64 (v : Int)] w fun r w' => ∃ m : Nat, r = .returned (.int .i64 (m : Int)) ∧ m ∈ R v ∧ (∀ x, x ∈ R v → sto V R st m < sto V R st x ∨ (sto V R st m = sto V R st x ∧ m ≤ x)) ∧ Below w.heap.size w w' := by
  have hbel := hm.bel
  have hlf : ∀ x, x ∈ lf (R v) ↔ x ∈ R v := fun x => rot_mem
  have hln : (lf (R v)).length ≤ 2097152 := by
    have h1 : (lf (R v)).length = (R v).length := by unfold lf; rw [rot_len]
    rw [h1]
    have := pig (R v) (List.range (2 * E)) (h.tn.nd v hv) (fun x hx => List.mem_range.2 ((show In V R x from ⟨v, hv, hx⟩).low h.tn))
    have hE := h.hE
    rw [List.length_range] at this
    omega
  have hne2 : lf (R v) ≠ [] := fun q => hne (by
    cases hr : R v with
    | nil => rfl
    | cons a b => have := (hlf a).2 (by rw [hr]; simp); rw [q] at this; simp at this)
  have hba : Below w.heap.size w (w.alloc (.cells #[.pointer (some ⟨wb, 0, none⟩)] 74)) := balloc _ _
  have hm1 := hm.more hba
  have hbx : (w.alloc (.cells #[.pointer (some ⟨wb, 0, none⟩)] 74)).cell? ⟨w.heap.size, 0, none⟩ = some (.pointer (some ⟨wb, 0, none⟩)) := one_new w _ _ 0 _ rfl
  obtain ⟨w1, hw1⟩ : ∃ w1, w.alloc (.cells #[.pointer (some ⟨wb, 0, none⟩)] 74) = w1 := ⟨_, rfl⟩
  rw [hw1] at hba hm1 hbx
  have c0 := hm1.c0
  have har := hid (karound_ok (h.more hm1.bel) v hv)
  have hcmp : Hid (∀ y, Below w1.heap.size w1 y → ∀ p q, p ∈ lf (R v) → q ∈ lf (R v) → ∀ z, Below y.heap.size y z → Calls Tryz.prog 73 #[.int .i64 (p : Int), .int .i64 (q : Int), .pointer (some ⟨w.heap.size, 0, none⟩)] z fun r w' => r = .returned (.int .i64 (cfK V R st p q)) ∧ Below z.heap.size z w') := hid (fun y hy p q hp hq z hz => by
    have hyz := below_thru hy hz
    exact near1_ok h hw (hm1.more hyz) w.heap.size ((hyz.cell (World.block_lt_of_cell? w1 _ hbx)).trans hbx) p q ⟨v, hv, (hlf p).1 hp⟩ ⟨v, hv, (hlf q).1 hq⟩)
  have hfin : Hid (∀ m, m ∈ lf (R v) → (∀ x, x ∈ lf (R v) → 0 ≤ cfK V R st x m) → m ∈ R v ∧ ∀ x, x ∈ R v → sto V R st m < sto V R st x ∨ (sto V R st m = sto V R st x ∧ m ≤ x)) := hid (fun m h1 h2 => ⟨(hlf m).1 h1, fun x hx => by
    have := h2 x ((hlf x).2 hx)
    exact cfK_ge.1 this⟩)
  have hlist := hid (And.intro hne2 hln)
  replace hw1 := hid hw1
  have hbx' := hbx
  replace hba := hid hba
  clear h hw hm hbel hlf hln hne2 hm1 hv hne hbx'
  go_enter Tryz.func43, Tryz.ntmps43
  go_upto_region 1 with fail
  rw [hw1.out]
  go_wp2_with fail
  refine har.out.mono ?_
  rintro r w2 ⟨rv, rfl, hr, b2⟩
  have hcall := hid (minf_ok w.heap.size (lf (R v)) rv w1.heap.size hr hlist.out.1 hlist.out.2 V R st (hcmp.out w2 b2))
  have hb2 := hid (below_thru hba.out b2)
  clear hr b2 har hcmp
  go_wp2_with fail
  refine hcall.out.mono ?_
  rintro r w3 ⟨m, rfl, hm1, hm2, b3⟩
  have fin := hid (And.intro (hfin.out m hm1 hm2) (below_thru hb2.out b3))
  clear hm1 hm2 b3 hcall
  go_wp2_with fail
  go_ret
  exact ⟨m, rfl, fin.out.1.1, fin.out.1.2, fin.out.2⟩
end

end Go.Proofs.YtghpjljnbdjmaaaGreatDoor

namespace Go.Proofs.YtghpjljnbdjmaaaGreatDoor
open Go.RowKit
set_option linter.unusedVariables false

open Pq (fl fl_length fl_succ fl_get fl_congr)

theorem Wm.other {base : Nat} {w0 w w' : World} {wb sb V ob : Nat} {pv : Option Addr} {e : Int} {st : Nat → Nat} (h : Wm base w0 w wb pv sb V e st) (hg : w.grownBy w' (some ob)) (h1 : ob ≠ wb) (h2 : ob ≠ sb) (hb : base ≤ ob) : Wm base w0 w' wb pv sb V e st := by
  refine ⟨?_, h.row.kept hg (.inr ?_), h.bel.grown hg (Nat.le_trans h.low h.bel.size) (fun k hk => ?_), h.low⟩
  · rw [hg.block wb h.lt.1 (by simp; exact fun q => h1 q.symm)]; exact h.blk
  · intro q
    exact h2 (by simpa [Value.ownBlock] using q.symm)
  · simp at hk; omega

set_option maxRecDepth 100000 in
set_option maxHeartbeats 2000000 in
theorem kgroups_nil (w : World) : Calls Tryz.prog 9 #[.pointer none] w fun r w' => ∃ u, r = .returned u ∧ Rw w.heap.size w' u [] ∧ Below w.heap.size w w' := by
  obtain ⟨i0, hif, hz0, hz1, hz2⟩ := info_parts infoInt
  have hn := hid (newwalk_ok w none (-1) 0 0 (by omega) ((sizes_nil w).mono (fun _ _ h => ⟨h.1, 0, h.2.symm⟩)))
  go_enter Tryz.func9, Tryz.ntmps9
  go_wp2_with fail
  refine hn.out.mono ?_
  rintro r w1 ⟨wb, sb, rfl, hge, hm⟩
  have c2 := hm.c2
  have hsz := hm.bel.size
  have hb := hid hm.bel
  clear hm hn hge
  go_wp2_with (at_make; refine wpList_make_full _ rfl (.tmp 14) (.tmp 14) 30 rfl w.heap.size 3 i0 (.int .i64 0) 1 Tryz.underlying30 hif hz0 hz1 .i64 .i64 _ _ 0 rfl rfl rfl rfl (by rw [hz2]; omega) (by unfold maxLen; omega) hsz ?_; intro w2 hown hgrow)
  have hst : Hid (Rw w.heap.size w2 (.slice (some ⟨w1.heap.size, 0, none⟩) 0 0) [] ∧ Below w.heap.size w w2) := by
    rw [ncs_made] at hown
    exact ⟨hown, hb.out.grown hgrow hsz (by simp)⟩
  clear hown hgrow hb c2
  go_wp2_with fail
  go_loopw [18] (fun u wr => u = .int .i64 0 ∧ Hid (Rw w.heap.size wr (.slice (some ⟨w1.heap.size, 0, none⟩) 0 0) [] ∧ Below w.heap.size w wr)) (fun _ _ => 0)
  case atStart => exact ⟨by go_num, hst⟩
  case round =>
    obtain ⟨rfl, hs⟩ := hrel
    clear hst
    go_wp2_with fail
    go_ret
    exact ⟨_, rfl, hs.out.1, hs.out.2⟩

/-- Where Groups stands: the vertices whose least one is below v were met. -/
structure Gq (w wr : World) (wb tb sb ob V : Nat) (L : Nat → Nat) (v : Nat) (st ov : Nat → Nat) : Prop where
  wm : Wm w.heap.size w wr wb (some ⟨tb, 0, none⟩) sb V (-1) st
  row : wr.ownsRow w.heap.size 3 1 (.slice (some ⟨ob, 0, none⟩) V V) V (ncs (fl V ov))
  met : ∀ x, x < V → (st x ≠ far ↔ L x < v)
  is_ : ∀ x, x < V → L x < v → ov x = L x

set_option maxRecDepth 100000 in
set_option maxHeartbeats 8000000 in
theorem kgroups_ok {w : World} {lo tb V E : Nat} {R : Nat → List Nat} (h : TA w lo tb V E R) (hw : Tw V E R) : Calls Tryz.prog 9 #[.pointer (some ⟨tb, 0, none⟩)] w fun r w' => ∃ u, r = .returned u ∧ Rw w.heap.size w' u (fl V (lb V E R)) ∧ Below w.heap.size w w' := by
  obtain ⟨i0, hif, hz0, hz1, hz2⟩ := info_parts infoInt
  have ht := h.tn
  have hV := h.hV
  have hn := hid (newwalk_ok w (some ⟨tb, 0, none⟩) (-1) V E hV (sizes_ok h))
  have hlab := lb_lab V E R
  have hle : Hid (∀ x, lb V E R x ≤ x) := hid hlab.le
  have hff : Hid (∀ x, lb V E R (lb V E R x) = lb V E R x) := hid hlab.ff
  have hcl : Hid (∀ v d, Gn V R (-1) d → lb V E R (og V R d) < v → lb V E R (og V R (tw d)) < v) := hid (fun v d gd q => by rw [← con_tw ht hw gd.1]; exact q)
  have hsp := hid (fun (wr : World) (wb sb : Nat) (st : Nat → Nat) (hm : Wm w.heap.size w wr wb (some ⟨tb, 0, none⟩) sb V (-1) st) (v : Nat) (hv : v < V) (hO : ∀ x, x < V → (st x ≠ far ↔ lb V E R x < v)) (hno : ¬ lb V E R v < v) => spread_ok h hw hm v (-1) hv (fun x => lb V E R x < v) hO (hcl.out v) hno)
  have hmem : Hid (∀ (v : Nat) (l : List Nat) (g : Nat → Nat), v < V → lb V E R v = v → Sp V R (-1) v (-1) l g → (∀ x, x ∈ l ↔ x < V ∧ lb V E R x = v) ∧ (∀ x, x ∈ l → g x < V) ∧ l.length ≤ V) := hid (fun v l g hv hlv sp => by
    have h1 : ∀ x, x ∈ l ↔ x < V ∧ lb V E R x = v := fun x => by
      rw [sp.mem (fun b q => by omega)]
      constructor
      · intro k
        obtain ⟨n, k1⟩ := id k
        exact ⟨k1.lt ht hw hv, by rw [← (kn_lb ht hw).1 k, hlv]⟩
      · rintro ⟨_, q⟩
        exact (kn_lb ht hw).2 (by rw [q, hlv])
    have h2 : l.length ≤ V := by
      have := pig l (List.range V) sp.nd (fun x hx => List.mem_range.2 ((h1 x).1 hx).1)
      simpa using this
    refine ⟨h1, fun x hx => ?_, h2⟩
    obtain ⟨i, hi⟩ := List.getElem?_of_mem hx
    have := sp.bd i x hi
    have := (List.getElem?_eq_some_iff.1 hi).1
    omega)
  have hfr : Hid (far = 9223372036854775807) := hid rfl
  clear h hw ht hlab hcl
  generalize lb V E R = L at *
  go_enter Tryz.func9, Tryz.ntmps9
  go_wp2_with fail
  refine hn.out.mono ?_
  rintro r w1 ⟨wb, sb, rfl, hge, hm⟩
  have c2 := hm.c2
  have hsz := hm.bel.size
  have hlts := hid hm.lt
  have hm1 := hid hm
  clear hm hn hge
  go_wp2_with (at_make; refine wpList_make_full _ rfl (.tmp 14) (.tmp 14) 30 rfl w.heap.size 3 i0 (.int .i64 0) 1 Tryz.underlying30 hif hz0 hz1 .i64 .i64 _ _ V rfl rfl rfl rfl (by rw [hz2]; omega) (by unfold maxLen; omega) hsz ?_; intro w2 hown hgrow)
  have hst : Hid (Gq w w2 wb tb sb w1.heap.size V L 0 (fun _ => far) (fun _ => 0)) := by
    rw [ncs_made] at hown
    exact ⟨hm1.out.more ((Below.refl _ _).grown hgrow (Nat.le_refl _) (by simp)), hown, fun x _ => ⟨fun q => absurd rfl q, fun q => absurd q (Nat.not_lt_zero _)⟩, fun x _ q => absurd q (Nat.not_lt_zero _)⟩
  clear hown hgrow hm1 c2
  obtain ⟨ob, hob⟩ : ∃ ob, w1.heap.size = ob := ⟨_, rfl⟩
  rw [hob] at hst hlts hsz ⊢
  clear hob
  go_wp2_with fail
  go_loopw [5, 7, 18] (fun _ _ u wr => ∃ (v : Nat) (st ov : Nat → Nat), v ≤ V ∧ u = .int .i64 (v : Int) ∧ Hid (Gq w wr wb tb sb ob V L v st ov)) (fun _ _ u _ => V - (intOf u).toNat)
  case atStart => exact ⟨0, _, _, by omega, by go_num, hst⟩
  case round =>
    obtain ⟨v, st, ov, hv, rfl, hs⟩ := hrel
    clear hst
    rcases Nat.lt_or_ge v V with hlt | hge
    · by_cases hr : L v < v
      · have hcall := hid (reached_ok hs.out.wm v true hlt (by simp only [true_iff]; exact (hs.out.met v hlt).2 hr))
        have hne : ∀ x, L x ≠ v := fun x q => by have := hff.out x; rw [q] at this; omega
        have hnew : Hid (Gq w wr wb tb sb ob V L (v + 1) st ov) := hid ⟨hs.out.wm, hs.out.row, fun x hx => by rw [hs.out.met x hx]; have := hne x; omega, fun x hx q => hs.out.is_ x hx (by have := hne x; omega)⟩
        clear hs hr hne
        go_wp2_with fail
        refine hcall.out.mono ?_
        rintro r w3 ⟨rfl, rfl⟩
        clear hcall
        go_wp2_with fail
        go_roundw
        case rel => exact ⟨v + 1, st, ov, by omega, by go_num, hnew⟩
        case measure => simp [intOf]; omega
      · have hLv : L v = v := by have := hle.out v; omega
        have hcall := hid (reached_ok hs.out.wm v false hlt (by
          constructor
          · intro q; simp at q
          · intro q; exact absurd ((hs.out.met v hlt).1 q) hr))
        have hspc := hid (hsp.out wr wb sb st hs.out.wm v hlt hs.out.met hr)
        have hmm := hid (fun l g q => hmem.out v l g hlt hLv q)
        clear hr
        go_wp2_with fail
        refine hcall.out.mono ?_
        rintro r w3 ⟨rfl, rfl⟩
        clear hcall
        go_wp2_with fail
        refine hspc.out.mono ?_
        rintro r w4 ⟨rv, l, g, rfl, hrl, hsp4, hwm4, hgb⟩
        obtain ⟨hl1, hl2, hl3⟩ := hmm.out l g hsp4
        have hrow4 := hs.out.row.kept hgb (.inr (by simp [Value.ownBlock]; have := hlts.out; omega))
        have hobw : ob < wr.heap.size := (hs.out.row.lt ob rfl).2
        have hobb : w.heap.size ≤ ob := hsz
        obtain ⟨n, hn⟩ : ∃ n, l.length = n := ⟨_, rfl⟩
        obtain ⟨al, cl, rfl⟩ : ∃ al cl, rv = .slice al n cl := by
          obtain ⟨al, cl, h1, _⟩ := own_any hrl
          exact ⟨al, cl, by rw [h1, hn]⟩
        rw [hn] at hl3
        have hmet4 : Hid (∀ x, x < V → (mix st l g x ≠ far ↔ L x < v + 1)) := hid (fun x hx => by
          by_cases q : x ∈ l
          · rw [mix_in _ _ q]
            have h1 := hl2 x q
            have h2 := ((hl1 x).1 q).2
            have h3 := hfr.out
            constructor
            · intro _; omega
            · intro _; omega
          · rw [mix_out _ _ q, hs.out.met x hx]
            have : L x ≠ v := fun c => q ((hl1 x).2 ⟨hx, c⟩)
            omega)
        have his4 : Hid (∀ x, x < V → L x < v + 1 → (if x ∈ l then v else ov x) = L x) := hid (fun x hx q => by
          by_cases q1 : x ∈ l
          · rw [if_pos q1]; exact ((hl1 x).1 q1).2.symm
          · rw [if_neg q1]
            have : L x ≠ v := fun c => q1 ((hl1 x).2 ⟨hx, c⟩)
            exact hs.out.is_ x hx (by omega))
        have hlv : Hid (∀ x, x ∈ l → x < V) := hid fun x hx => ((hl1 x).1 hx).1
        have hst4 : Hid (Wm w.heap.size w w4 wb (some ⟨tb, 0, none⟩) sb V (-1) (mix st l g) ∧ w4.ownsRow w.heap.size 3 1 (.slice (some ⟨ob, 0, none⟩) V V) V (ncs (fl V (fun x => if x ∈ l.take 0 then v else ov x))) ∧ Rw wr.heap.size w4 (.slice al n cl) l) := by
          refine ⟨hwm4, ?_, hrl⟩
          rw [fl_congr (g := ov) (fun x _ => by simp)]
          exact hrow4
        replace hn := hid hn
        replace hLv := hid hLv
        clear hs hrl hsp4 hwm4 hgb hl1 hl2 hrow4 hspc hmm
        go_wp2_with fail
        go_loopw [7, 28] (fun _ u wy => ∃ i : Nat, i ≤ n ∧ u = .int .i64 (i : Int) ∧ Hid (Wm w.heap.size w wy wb (some ⟨tb, 0, none⟩) sb V (-1) (mix st l g) ∧ wy.ownsRow w.heap.size 3 1 (.slice (some ⟨ob, 0, none⟩) V V) V (ncs (fl V (fun x => if x ∈ l.take i then v else ov x))) ∧ Rw wr.heap.size wy (.slice al n cl) l)) (fun _ u _ => n - (intOf u).toNat)
        case atStart => exact ⟨0, by omega, by go_num, hst4⟩
        case round =>
          obtain ⟨i, hi, rfl, hst⟩ := hrel
          clear hst4
          rcases Nat.lt_or_ge i n with hlt2 | hge
          · obtain ⟨x, hx⟩ : ∃ x, l[i]? = some x := ⟨_, List.getElem?_eq_getElem (by rw [hn.out]; exact hlt2)⟩
            have hxV := hlv.out x (List.mem_of_getElem? hx)
            obtain ⟨hm, hrow, hR⟩ := hst.out
            obtain ⟨g5, q5, c5, e5, _, _, _, hI⟩ := hR.nl
            obtain ⟨rfl, rfl, rfl⟩ : al = g5 ∧ n = q5 ∧ cl = c5 := by simpa using e5
            obtain ⟨b6, o6, rfl, c6⟩ := hI i _ hx
            have cx : wr.cell? ⟨ob, x, none⟩ = some (.int .i64 (((fun x => if x ∈ l.take i then v else ov x) x : Nat) : Int)) := by rw [hrow.cellAt x (by omega)]; exact ncs_get hxV
            generalize ((fun x => if x ∈ l.take i then v else ov x) x : Nat) = old at cx
            have fx := hrow.frozenAt x
            obtain ⟨s1, s2⟩ := hrow.stored x (.int .i64 (v : Int))
            rw [ncs_set, fl_congr (g := fun y => if y ∈ l.take (i + 1) then v else ov y) (fun y _ => by
              unfold updN
              rw [ntake hx]
              by_cases e1 : y = x
              · simp [e1]
              · simp [e1])] at s1
            have hnew := hid (And.intro (hm.other s2 (by have := hlts.out; omega) (by have := hlts.out; omega) hobb) (And.intro s1 (hR.keptA s2 (fun q q1 q2 => by
              have h1 := (World.ownsRow.lt hR q q1).1
              have h2 : ob = q := by simpa [Value.ownBlock] using q2
              omega))))
            have j1 : (0 : Int) ≤ (i : Int) := by omega
            have j2 : (i : Int) < (n : Int) := by omega
            have j3 : (0 : Int) ≤ (x : Int) := by omega
            have j4 : (x : Int) < (V : Int) := by omega
            replace hx := hid hx
            clear hst hm hrow hR s1 s2 e5 hI
            go_wp2_with fail
            go_roundw
            case rel => exact ⟨i + 1, by omega, by go_num, hnew⟩
            case measure => simp [intOf]; omega
          · obtain rfl : i = n := by omega
            obtain ⟨hm, hrow, hR⟩ := hst.out
            rw [List.take_of_length_le (by rw [hn.out]; exact Nat.le_refl _)] at hrow
            have hnew := hid (show Gq w wr wb tb sb ob V L (v + 1) (mix st l g) (fun x => if x ∈ l then v else ov x) from ⟨hm, hrow, hmet4.out, his4.out⟩)
            clear hst hm hrow hR
            go_wp2_with fail
            go_roundw
            case rel => exact ⟨v + 1, _, _, by omega, by go_num, hnew⟩
            case measure => simp [intOf]; omega
    · obtain rfl : v = V := by omega
      have fin : Hid (Rw w.heap.size wr (.slice (some ⟨ob, 0, none⟩) v v) (fl v L)) := by
        unfold Rw
        rw [fl_length, fl_congr (g := ov) (fun x hx => (hs.out.is_ x hx (by have := hle.out x; omega)).symm)]
        exact hid hs.out.row
      have hb := hid hs.out.wm.bel
      clear hs
      go_wp2_with fail
      go_ret
      exact ⟨_, rfl, fin.out, hb.out⟩

end Go.Proofs.YtghpjljnbdjmaaaGreatDoor

namespace Go.Proofs.YtghpjljnbdjmaaaGreatDoor
open Go.RowKit
set_option linter.unusedVariables false

open Pq (fl fl_length fl_succ fl_get fl_congr)

set_option maxRecDepth 100000 in
set_option maxHeartbeats 1000000 in
theorem kroad_bad1 (tp : Option Addr) (a b z : Int) (w : World) (h1 : Calls Tryz.prog 42 #[.pointer tp, .int .i64 a] w fun x w' => x = .returned (.tuple #[.int .i64 0, .iface 88 (.int .i64 z)]) ∧ Below w.heap.size w w') :
    Calls Tryz.prog 11 #[.pointer tp, .int .i64 a, .int .i64 b] w fun x w' => x = .returned (.tuple #[.slice none 0 0, .iface 88 (.int .i64 z)]) ∧ Below w.heap.size w w' := by
  have hi := hid (fun y => pair_at a b y)
  replace h1 := hid h1
  go_enter Tryz.func11, Tryz.ntmps11
  go_wp2_with fail
  refine wp_loop_rounds 1 ?_
  rw [rounds_succ]
  have hi0 := (hi.out w).1
  go_wp2_with fail
  refine h1.out.mono ?_
  rintro x w1 ⟨rfl, b1⟩
  replace b1 := hid b1
  clear hi0
  go_wp2_with fail
  go_ret2
  exact ⟨rfl, b1.out⟩

set_option maxRecDepth 100000 in
set_option maxHeartbeats 1000000 in
theorem kroad_bad2 (tp : Option Addr) (a b z k : Int) (w : World) (h1 : Calls Tryz.prog 42 #[.pointer tp, .int .i64 a] w fun x w' => x = .returned (.tuple #[.int .i64 k, .nilIface]) ∧ Below w.heap.size w w')
    (h2 : ∀ y, Below w.heap.size w y → Calls Tryz.prog 42 #[.pointer tp, .int .i64 b] y fun x w' => x = .returned (.tuple #[.int .i64 0, .iface 88 (.int .i64 z)]) ∧ Below y.heap.size y w') :
    Calls Tryz.prog 11 #[.pointer tp, .int .i64 a, .int .i64 b] w fun x w' => x = .returned (.tuple #[.slice none 0 0, .iface 88 (.int .i64 z)]) ∧ Below w.heap.size w w' := by
  have hi := hid (fun y => pair_at a b y)
  replace h1 := hid h1
  replace h2 := hid h2
  go_enter Tryz.func11, Tryz.ntmps11
  go_wp2_with fail
  refine wp_loop_rounds 2 ?_
  rw [rounds_succ]
  have hi0 := (hi.out w).1
  go_wp2_with fail
  refine h1.out.mono ?_
  rintro x w1 ⟨rfl, b1⟩
  replace b1 := hid b1
  clear hi0 h1
  go_wp2_with fail
  rw [rounds_succ]
  have hi0 := (hi.out w1).2
  go_wp2_with fail
  refine (h2.out w1 b1.out).mono ?_
  rintro x w2 ⟨rfl, b2⟩
  have b3 := hid (below_thru b1.out b2)
  clear hi0 b2
  go_wp2_with fail
  go_ret2
  exact ⟨rfl, b3.out⟩

section
variable {V E : Nat} {R : Nat → List Nat}

/-- The nearest dart is the least one that leads nearer. -/
theorem near_nd (h : Tn V E R) (t : Tw V E R) {a b : Nat} {l : List Nat} {g : Nat → Nat} (sp : Sp V R (-1) b (a : Int) l g) (ha : a ∈ l) (hg : ∀ x, x ∈ l → g x < far) {v m d : Nat} (hv : v < V) (dn : Dn V R (-1) b v (m + 1)) (hm : m + 1 ≤ g a) (hd : d ∈ R v)
    (hmin : ∀ x, x ∈ R v → sto V R (mix (fun _ => far) l g) d < sto V R (mix (fun _ => far) l g) x ∨ (sto V R (mix (fun _ => far) l g) d = sto V R (mix (fun _ => far) l g) x ∧ d ≤ x)) : Nd V R b v m d := by
  have hin : ∀ x, x ∈ R v → Gn V R (-1) x ∧ og V R x = v := fun x hx => ⟨⟨⟨v, hv, hx⟩, by omega⟩, og_at h hv hx⟩
  have hat : ∀ y, Dn V R (-1) b y m → y ∈ l ∧ g y = m := fun y hy => by
    have h1 := (sp.near a m y ha hy.1 (by omega)).1
    exact ⟨h1, (sp.dn h1).uniq hy⟩
  have hsto : ∀ x, x ∈ R v → Dn V R (-1) b (og V R (tw x)) m → sto V R (mix (fun _ => far) l g) x = m := fun x hx hy => by
    obtain ⟨h1, h2⟩ := hat _ hy
    unfold sto
    rw [mix_in _ _ h1, h2]
  obtain ⟨d0, g0, o0, k0⟩ := dn.back h t
  have hd0 : d0 ∈ R v := by have := (og_is g0.1).2; rw [o0] at this; exact this
  have e0 := hsto d0 hd0 k0
  have hmf : m < far := by
    obtain ⟨h1, h2⟩ := hat _ k0
    have := hg _ h1
    omega
  have hle : sto V R (mix (fun _ => far) l g) d ≤ m := by rcases hmin d0 hd0 with q | ⟨q, _⟩ <;> omega
  have hdl : og V R (tw d) ∈ l := Classical.byContradiction (fun q => by
    unfold sto at hle
    rw [mix_out _ _ q] at hle
    omega)
  have hde : sto V R (mix (fun _ => far) l g) d = g (og V R (tw d)) := by unfold sto; exact mix_in _ _ hdl
  have hdn := sp.dn hdl
  have hge : m ≤ g (og V R (tw d)) := by
    have gt := (hin d hd).1.tw h t
    have := Dn.step gt hdn (m := m + 1) (by rw [tw_tw, (hin d hd).2]; exact dn)
    omega
  have hgm : g (og V R (tw d)) = m := by omega
  refine ⟨hd, by rw [← hgm]; exact hdn, fun x hx hy => ?_⟩
  have e1 := hsto x hx hy
  rcases hmin x hx with q | ⟨_, q⟩
  · omega
  · exact q
end

set_option maxRecDepth 100000 in
set_option maxHeartbeats 8000000 in
theorem kroad_main {w : World} {lo tb V E : Nat} {R : Nat → List Nat} (h : TA w lo tb V E R) (hw : Tw V E R) (a b : Nat) (ha : a < V) (hb : b < V) : Calls Tryz.prog 11 #[.pointer (some ⟨tb, 0, none⟩), .int .i64 (a : Int), .int .i64 (b : Int)] w fun r w' => Below w.heap.size w w' ∧
    ((¬ Kn V R (-1) b a ∧ r = .returned (.tuple #[.slice none 0 0, .iface 88 (.int .i64 21)])) ∨ ∃ u l n, r = .returned (.tuple #[u, .nilIface]) ∧ Rw w.heap.size w' u l ∧ Dn V R (-1) b a n ∧ Rd V R b n a l) := by
  obtain ⟨i0, hif, hz0, hz1, hz2⟩ := info_parts infoInt
  have ht := h.tn
  have hV := h.hV
  have hi := hid (fun y => pair_at (a : Int) (b : Int) y)
  have hda := hid (degree_ok h a ha)
  have hdb := hid (fun y (hy : Below w.heap.size w y) => degree_ok (h.more hy) b hb)
  have hnw := hid (fun y (hy : Below w.heap.size w y) => newwalk_ok y (some ⟨tb, 0, none⟩) (-1) V E hV (sizes_ok (h.more hy)))
  have hfr : Hid (far = 9223372036854775807) := hid rfl
  have hsp := hid (fun (w2 w3 : World) (wb sb : Nat) (hy : Below w.heap.size w w2) (hm : Wm w2.heap.size w2 w3 wb (some ⟨tb, 0, none⟩) sb V (-1) (fun _ => far)) => spread_ok (h.more hy) hw hm b (a : Int) hb (fun _ => False) (fun x _ => ⟨fun q => absurd rfl q, fun q => q.elim⟩) (fun _ _ q => q) (fun q => q))
  have hspb : Hid (∀ l g, Sp V R (-1) b (a : Int) l g → ∀ x, x ∈ l → g x < V ∧ x < V) := hid (fun l g sp x hx => by
    have hlt : ∀ x, x ∈ l → x < V := fun x hx => sp.lt ht hw hb hx
    have h2 : l.length ≤ V := by
      have := pig l (List.range V) sp.nd (fun x hx => List.mem_range.2 (hlt x hx))
      simpa using this
    obtain ⟨i, hi⟩ := List.getElem?_of_mem hx
    have := sp.bd i x hi
    have := (List.getElem?_eq_some_iff.1 hi).1
    exact ⟨by omega, hlt x hx⟩)
  have hnear := hid (fun (w2 w3 : World) (wb sb : Nat) (st : Nat → Nat) (hy : Below w.heap.size w w2) (hm : Wm w2.heap.size w2 w3 wb (some ⟨tb, 0, none⟩) sb V (-1) st) (v : Nat) (hv : v < V) (hne : R v ≠ []) => nearest_ok (h.more hy) hw hm v hv hne)
  have hhead := hid (fun y (hy : Below w.heap.size w y) (d : Nat) (hd : In V R d) => khead_ok (h.more hy) hw d hd)
  have hstep : Hid (∀ l g, Sp V R (-1) b (a : Int) l g → a ∈ l → ∀ v m d, v < V → Dn V R (-1) b v (m + 1) → m + 1 ≤ g a → d ∈ R v → (∀ x, x ∈ R v → sto V R (mix (fun _ => far) l g) d < sto V R (mix (fun _ => far) l g) x ∨ (sto V R (mix (fun _ => far) l g) d = sto V R (mix (fun _ => far) l g) x ∧ d ≤ x)) → Nd V R b v m d) := hid (fun l g sp hal v m d hv dn hm hd hmin => near_nd ht hw sp hal (fun x hx => by have := (hspb.out l g sp x hx).1; have := hfr.out; omega) hv dn hm hd hmin)
  have hback : Hid (∀ v m, Dn V R (-1) b v (m + 1) → R v ≠ []) := hid (fun v m dn q => by
    obtain ⟨d, g1, o1, _⟩ := dn.back ht hw
    have := (og_is g1.1).2
    rw [o1, q] at this
    simp at this)
  have hin : Hid (∀ v d, v < V → d ∈ R v → In V R d ∧ og V R (tw d) < V) := hid (fun v d hv hd => ⟨⟨v, hv, hd⟩, (og_is ((show In V R d from ⟨v, hv, hd⟩).tw ht hw)).1⟩)
  generalize hga : ((R a).length : Int) = Ka at hda
  generalize hgb : ((R b).length : Int) = Kb at hdb
  clear h hw ht hga hgb
  go_enter Tryz.func11, Tryz.ntmps11
  go_wp2_with fail
  refine wp_loop_rounds 3 ?_
  rw [rounds_succ]
  have hi0 := (hi.out w).1
  go_wp2_with fail
  refine hda.out.mono ?_
  rintro x w1 ⟨rfl, b1⟩
  replace b1 := hid b1
  clear hi0 hda
  go_wp2_with fail
  rw [rounds_succ]
  have hi0 := (hi.out w1).2
  go_wp2_with fail
  refine (hdb.out w1 b1.out).mono ?_
  rintro x w2 ⟨rfl, b2⟩
  have b3 := hid (below_thru b1.out b2)
  clear hi0 b2 b1 hdb hi
  go_wp2_with fail
  rw [rounds_succ]
  go_wp2_with fail
  refine (hnw.out w2 b3.out).mono ?_
  rintro x w3 ⟨wb, sb, rfl, hge, hm3⟩
  have hspc := hid (hsp.out w2 w3 wb sb b3.out hm3)
  have hw3 := hid hm3.bel.size
  clear hnw hge hm3 hsp
  go_wp2_with fail
  refine hspc.out.mono ?_
  rintro x w4 ⟨rv, l, g, rfl, hrl, hsp4, hwm4, hgb⟩
  have hb4 : Hid (Below w.heap.size w w4) := hid (b3.out.trans (hwm4.bel.mono b3.out.size))
  have hbd := hid (hspb.out l g hsp4)
  have hsp5 := hid hsp4
  have hwm5 := hid hwm4
  clear hspc hrl hwm4 hgb hspb
  by_cases hal : a ∈ l
  · have hre := hid (reached_ok hwm5.out a true ha (by
      rw [mix_in _ _ hal]
      have h1 := (hbd.out a hal).1
      have h2 := hfr.out
      simp
      omega))
    have hdn := hsp4.dn hal
    obtain ⟨n, hn⟩ : ∃ n, g a = n := ⟨_, rfl⟩
    have hnV : n < V := by rw [← hn]; exact (hbd.out a hal).1
    rw [hn] at hdn
    have hst0 : Hid (Rw w4.heap.size w4 (.slice none 0 0) [] ∧ Dn V R (-1) b a n ∧ a < V ∧ (∀ r, Rd V R b n a r → Rd V R b n a ([] ++ r)) ∧ ([] : List Nat).length + n = n ∧ w4.heap.size ≤ w4.heap.size ∧ Wm w2.heap.size w2 w4 wb (some ⟨tb, 0, none⟩) sb V (-1) (mix (fun _ => far) l g)) :=
      hid ⟨World.ownsRow_nil _ _ _ _, hdn, ha, fun r q => q, by simp, Nat.le_refl _, hwm5.out⟩
    have hstp := hid (hstep.out l g hsp5.out hal)
    rw [hn] at hstp
    replace hn := hid hn
    replace hdn := hid hdn
    have hlts := hid (And.intro hwm5.out.lt hwm5.out.bel.size)
    clear hal hsp4 hsp5 hwm5 hstep
    go_wp2_with fail
    refine hre.out.mono ?_
    rintro x w5 ⟨rfl, rfl⟩
    clear hre
    go_wp2_with fail
    go_loopw [13, 14, 15] (fun ov vv _ wr => ∃ (v m : Nat) (out : List Nat), vv = .int .i64 (v : Int) ∧ Hid (Rw w4.heap.size wr ov out ∧ Dn V R (-1) b v m ∧ v < V ∧ (∀ r, Rd V R b m v r → Rd V R b n a (out ++ r)) ∧ out.length + m = n ∧ w4.heap.size ≤ wr.heap.size ∧ Wm w2.heap.size w2 wr wb (some ⟨tb, 0, none⟩) sb V (-1) (mix (fun _ => far) l g)))
      (fun ov _ _ _ => n - sln ov)
    case atStart => exact ⟨a, n, [], rfl, hst0⟩
    case round =>
      obtain ⟨v, m, out, rfl, hst⟩ := hrel
      clear hst0
      obtain ⟨hrow, hdv, hvV, hrd, hlen, hsz4, hwm⟩ := hst.out
      by_cases hvb : v = b
      · have hm0 : m = 0 := hdv.uniq (Dn.zero.2 hvb.symm)
        subst hm0
        have hfin := hrd [] ⟨hvb, rfl⟩
        rw [List.append_nil] at hfin
        have t1 : ((v : Int) != (b : Int)) = false := by simp [hvb]
        have hbw := b3.out.trans (hwm.bel.mono b3.out.size)
        have fin := hid (And.intro hbw (And.intro (hrow.low hb4.out.size) hfin))
        clear hst hrow hdv hrd hlen hwm hfin hbw hvb
        go_wp2_with fail
        go_ret2
        exact ⟨fin.out.1, .inr ⟨_, out, n, rfl, fin.out.2.1, hdn.out, fin.out.2.2⟩⟩
      · obtain ⟨m, rfl⟩ : ∃ m', m = m' + 1 := by
          cases m with
          | zero => exact absurd (Dn.zero.1 hdv).symm hvb
          | succ m => exact ⟨m, rfl⟩
        have t1 : ((v : Int) != (b : Int)) = true := by simp; omega
        have hcall := hid (hnear.out w2 wr wb sb _ b3.out hwm v hvV (hback.out v m hdv))
        have hnd := hid (fun d q1 q2 => hstp.out v m d hvV hdv (by omega) q1 q2)
        have hln := hid (own_sln hrow)
        replace hrow := hid hrow
        replace hwm := hid hwm
        replace hrd := hid hrd
        replace hlen := hid hlen
        replace hdv := hid hdv
        clear hst hvb
        go_wp2_with fail
        refine hcall.out.mono ?_
        rintro x w6 ⟨d, rfl, hdm, hdmin, b6⟩
        have hNd := hid (hnd.out d hdm hdmin)
        obtain ⟨hdin, hyV⟩ := hin.out v d hvV hdm
        have hrow6 := hrow.out.more b6
        have hwm6 := hwm.out.more b6
        have hb6 := b3.out.trans (hwm6.bel.mono b3.out.size)
        have hsz6 := Nat.le_trans hsz4 b6.size
        have hcf : ∀ y, Below w.heap.size w y → _ := fun y hy => hhead.out y hy d hdin
        have hown : w6.ownsRow w4.heap.size 3 1 u13 out.length (ncs out) := hrow6
        have hol : out.length ≤ 1048576 := by have := hlen.out; omega
        obtain ⟨y, hy⟩ : ∃ y, og V R (tw d) = y := ⟨_, rfl⟩
        rw [hy] at hyV hcf
        have hrd2 := hid (Rd.snoc hrd.out hNd.out)
        rw [hy] at hrd2
        have hdn2 : Hid (Dn V R (-1) b y m) := by rw [← hy]; exact hid hNd.out.2.1
        replace hcf := hid hcf
        have ba := hid (balloc w6 (.cells #[.int .i64 (d : Int)] 3))
        replace hwm6 := hid hwm6
        clear hcall hdmin hrow6 hb6 hrow hwm hnd hdm hdin hy b6
        go_wp2_with (at_builtin; refine wpList_append_own _ rfl (.tmp 50) (.tmp 52) 30 rfl w4.heap.size 3 i0 _ 1 8 Tryz.underlying30 hif hz0 hz1 hz2 rfl (by decide) _ _ _ rfl (hown.alloc _) ⟨w6.heap.size, 0, none⟩ 1 1 [.int .i64 (d : Int)] rfl rfl (one_new w6 _ _) (by simp [Value.oneCell']) (by unfold maxLen; omega) (by omega) (by simp; omega) ?_; intro v7 w7 ho7 hg7 _; refine Hid.out ?_)
        have hwm7 := (hwm6.out.more ba.out).grow (hown.alloc (.cells #[.int .i64 (d : Int)] 3)) hlts.out.2 hlts.out.1.1 hlts.out.1.2 hg7
        have hr7 : Rw w4.heap.size w7 v7 (out ++ [d]) := by
          unfold Rw
          rw [List.length_append, ncs_append]
          exact ho7
        have hb7 := b3.out.trans (hwm7.bel.mono b3.out.size)
        have hsz7 : w4.heap.size ≤ w7.heap.size := Nat.le_trans hsz6 (Nat.le_trans ba.out.size hg7.size)
        have hcall := hid (hcf.out w7 hb7)
        have hln7 := hid (own_sln hr7)
        replace hwm7 := hid hwm7
        replace hr7 := hid hr7
        clear ho7 hg7 hown hb7 hwm6 hcf ba
        refine hid ?_
        go_wp2_with fail
        refine hcall.out.mono ?_
        rintro x w8 ⟨rfl, b8⟩
        have hnew := hid (And.intro (hr7.out.more b8) (And.intro hdn2.out (And.intro hyV (And.intro hrd2.out (And.intro (show (out ++ [d]).length + m = n by rw [List.length_append]; have := hlen.out; simp; omega) (And.intro (Nat.le_trans hsz7 b8.size) (hwm7.out.more b8)))))))
        have hml : Hid (out.length < n) := hid (by have := hlen.out; omega)
        clear hcall hr7 hdn2 hrd2 hwm7 b8 hNd
        go_wp2_with fail
        go_roundw
        case rel => exact ⟨y, m, out ++ [d], rfl, hnew⟩
        case measure =>
          have h1 := hln.out
          have h2 := hln7.out
          have h3 := hml.out
          rw [h1, h2, List.length_append, List.length_cons, List.length_nil]
          omega
  · have hre := hid (reached_ok hwm5.out a false ha (by rw [mix_out _ _ hal]; simp))
    have hno : Hid (¬ Kn V R (-1) b a) := hid (fun q => hal (hsp4.goal.2 q))
    clear hal hsp4 hsp5 hwm5 hstep hbd hhead hnear hback hin
    go_wp2_with fail
    refine hre.out.mono ?_
    rintro x w5 ⟨rfl, rfl⟩
    clear hre
    go_wp2_with fail
    go_ret2
    exact ⟨hb4.out, .inl ⟨hno.out, rfl⟩⟩

end Go.Proofs.YtghpjljnbdjmaaaGreatDoor

namespace Go.Proofs.YtghpjljnbdjmaaaGreatDoor
open Go.RowKit
set_option linter.unusedVariables false

open Pq (fl fl_length fl_succ fl_get fl_congr)

set_option maxRecDepth 100000 in
theorem kbridge_nil (e : Int) (w : World) : Calls Tryz.prog 17 #[.pointer none, .int .i64 e] w fun r w' => r = .returned (.tuple #[.bool false, .iface 88 (.int .i64 1)]) ∧ Below w.heap.size w w' := by
  have b := hid (Below.refl w.heap.size w)
  go_enter Tryz.func17, Tryz.ntmps17
  go_wp2_with fail
  go_ret2
  exact ⟨rfl, b.out⟩

section
variable {w : World} {lo tb V E : Nat} {R : Nat → List Nat}

theorem origin_out (h : TA w lo tb V E R) (k : Nat) (hk : ¬ In V R k) (hl : k < 2 * E) : Calls Tryz.prog 25 #[.pointer (some ⟨tb, 0, none⟩), .int .i64 (k : Int)] w fun x w' => x = .returned (.tuple #[.int .i64 0, .iface 88 (.int .i64 13)]) ∧ Below w.heap.size w w' := by
  obtain ⟨n, p, o, r, ho, _, hn⟩ := two_ok h (k : Int)
  have hc := hn w (Below.refl _ _)
  rcases ho with ⟨_, _, _, _, q⟩ | ⟨rfl, _, _, rfl, _⟩ | ⟨_, j, u, e, h3, h4, _⟩
  · omega
  · exact hc
  · obtain rfl : k = j := by omega
    exact absurd ⟨u, h3, h4⟩ hk

set_option maxRecDepth 100000 in
set_option maxHeartbeats 1000000 in
theorem kbridge_range (h : TA w lo tb V E R) (e : Int) (he : e < 0 ∨ (E : Int) ≤ e) : Calls Tryz.prog 17 #[.pointer (some ⟨tb, 0, none⟩), .int .i64 e] w fun r w' => r = .returned (.tuple #[.bool false, .iface 88 (.int .i64 12)]) ∧ Below w.heap.size w w' := by
  have hs := hid (sizes_ok h)
  clear h
  have ways : decide (e < 0) = true ∨ (decide (e < 0) = false ∧ decide ((E : Int) ≤ e) = true) := by
    by_cases q : e < 0
    · exact .inl (decide_eq_true q)
    · exact .inr ⟨decide_eq_false q, decide_eq_true (by omega)⟩
  clear he
  rcases ways with t1 | ⟨t1, t2⟩
  all_goals
    go_enter Tryz.func17, Tryz.ntmps17
    go_wp2_with fail
    refine hs.out.mono ?_
    rintro x w1 ⟨rfl, m, rfl⟩
    have b := hid (belowN (Below.refl w.heap.size w) m)
    obtain ⟨w1, hw1⟩ : ∃ w1, w.drewN m = w1 := ⟨_, rfl⟩
    rw [hw1] at b ⊢
    clear hs hw1
    go_wp2_with fail
    go_ret2
    exact ⟨rfl, b.out⟩

set_option maxRecDepth 100000 in
set_option maxHeartbeats 1000000 in
theorem kbridge_stale (h : TA w lo tb V E R) (e : Nat) (he : e < E) (hi : ¬ In V R (2 * e)) : Calls Tryz.prog 17 #[.pointer (some ⟨tb, 0, none⟩), .int .i64 (e : Int)] w fun r w' => r = .returned (.tuple #[.bool false, .iface 88 (.int .i64 13)]) ∧ Below w.heap.size w w' := by
  have hE := h.hE
  have hs := hid (sizes_ok h)
  have hsd := hid (fun y => ksides_ok e y (by omega))
  have hor := hid (fun y (hy : Below w.heap.size w y) => origin_out (h.more hy) (2 * e) hi (by omega))
  have t1 : decide ((e : Int) < 0) = false := decide_eq_false (by omega)
  have t2 : decide ((E : Int) ≤ (e : Int)) = false := decide_eq_false (by omega)
  have t3 : decide (E ≤ e) = false := decide_eq_false (by omega)
  obtain ⟨d, hd⟩ : ∃ d, 2 * e = d := ⟨_, rfl⟩
  obtain ⟨d1, hd1⟩ : ∃ d1, 2 * e + 1 = d1 := ⟨_, rfl⟩
  rw [hd] at hor
  rw [hd, show d + 1 = d1 by omega] at hsd
  clear h hi hd hd1
  go_enter Tryz.func17, Tryz.ntmps17
  go_wp2_with fail
  refine hs.out.mono ?_
  rintro x w1 ⟨rfl, m, rfl⟩
  have b := hid (belowN (Below.refl w.heap.size w) m)
  obtain ⟨w1, hw1⟩ : ∃ w1, w.drewN m = w1 := ⟨_, rfl⟩
  rw [hw1] at b ⊢
  clear hs hw1
  go_wp2_with fail
  refine (hsd.out _).mono ?_
  rintro x w2 ⟨rfl, rfl⟩
  go_wp2_with fail
  refine (hor.out _ b.out).mono ?_
  rintro x w3 ⟨rfl, b3⟩
  have fin := hid (below_thru b.out b3)
  clear b3 hor hsd
  go_wp2_with fail
  go_ret2
  exact ⟨rfl, fin.out⟩

set_option maxRecDepth 100000 in
set_option maxHeartbeats 2000000 in
theorem kbridge_ok (h : TA w lo tb V E R) (hw : Tw V E R) (e : Nat) (he : e < E) (hi : In V R (2 * e)) (s : Bool) (hsb : s = true ↔ Br V R e) : Calls Tryz.prog 17 #[.pointer (some ⟨tb, 0, none⟩), .int .i64 (e : Int)] w fun r w' => r = .returned (.tuple #[.bool s, .nilIface]) ∧ Below w.heap.size w w' := by
  have hE := h.hE
  have hV := h.hV
  have ht := h.tn
  have hs := hid (sizes_ok h)
  have hi2 := (hw e he).1 hi
  have hsd := hid (fun y => ksides_ok e y (by omega))
  have hor := hid (fun y (hy : Below w.heap.size w y) => origin_in (h.more hy) (2 * e) hi)
  have hor2 := hid (fun y (hy : Below w.heap.size w y) => korigin_ok (h.more hy) (2 * e + 1) hi2)
  have ha : og V R (2 * e) < V := (og_is hi).1
  have hb : og V R (2 * e + 1) < V := (og_is hi2).1
  have hnw := hid (fun y (hy : Below w.heap.size w y) => newwalk_ok y (some ⟨tb, 0, none⟩) (e : Int) V E hV (sizes_ok (h.more hy)))
  have hfr : Hid (far = 9223372036854775807) := hid rfl
  have hsp := hid (fun (w2 w3 : World) (wb sb : Nat) (hy : Below w.heap.size w w2) (hm : Wm w2.heap.size w2 w3 wb (some ⟨tb, 0, none⟩) sb V (e : Int) (fun _ => far)) => spread_ok (h.more hy) hw hm (og V R (2 * e)) (og V R (2 * e + 1) : Int) ha (fun _ => False) (fun x _ => ⟨fun q => absurd rfl q, fun q => q.elim⟩) (fun _ _ q => q) (fun q => q))
  have hspb : Hid (∀ l g, Sp V R (e : Int) (og V R (2 * e)) (og V R (2 * e + 1) : Int) l g → ((!s) = true ↔ mix (fun _ => far) l g (og V R (2 * e + 1)) ≠ far)) := hid (fun l g sp => by
    have hlt : ∀ x, x ∈ l → x < V := fun x hx => sp.lt ht hw ha hx
    have h2 : l.length ≤ V := by
      have := pig l (List.range V) sp.nd (fun x hx => List.mem_range.2 (hlt x hx))
      simpa using this
    have h3 : (!s) = true ↔ og V R (2 * e + 1) ∈ l := by
      rw [sp.goal]
      unfold Br at hsb
      constructor
      · intro q
        exact Classical.byContradiction (fun c => by have := hsb.2 c; rw [this] at q; simp at q)
      · intro q
        cases hq : s with
        | false => rfl
        | true => exact absurd q (hsb.1 hq)
    rw [h3]
    by_cases q : og V R (2 * e + 1) ∈ l
    · rw [mix_in _ _ q]
      obtain ⟨i, hi⟩ := List.getElem?_of_mem q
      have h4 := sp.bd i _ hi
      have h5 := (List.getElem?_eq_some_iff.1 hi).1
      have h6 := hfr.out
      simp only [q, true_iff]
      omega
    · rw [mix_out _ _ q]; simp [q])
  have t1 : decide ((e : Int) < 0) = false := decide_eq_false (by omega)
  have t2 : decide ((E : Int) ≤ (e : Int)) = false := decide_eq_false (by omega)
  have t3 : decide (E ≤ e) = false := decide_eq_false (by omega)
  obtain ⟨d, hd⟩ : ∃ d, 2 * e = d := ⟨_, rfl⟩
  obtain ⟨d1, hd1⟩ : ∃ d1, 2 * e + 1 = d1 := ⟨_, rfl⟩
  rw [hd1] at hor2 hb hsp hspb hsd
  rw [hd] at hor hsd ha hsp hspb
  obtain ⟨p, hp⟩ : ∃ p, og V R d = p := ⟨_, rfl⟩
  obtain ⟨q, hq⟩ : ∃ q, og V R d1 = q := ⟨_, rfl⟩
  rw [hp] at hor ha hsp hspb
  rw [hq] at hor2 hb hsp hspb
  clear h hw hi hi2 hd hd1 hp hq hsb ht
  go_enter Tryz.func17, Tryz.ntmps17
  go_wp2_with fail
  refine hs.out.mono ?_
  rintro x w1 ⟨rfl, m, rfl⟩
  have b := hid (belowN (Below.refl w.heap.size w) m)
  obtain ⟨w1, hw1⟩ : ∃ w1, w.drewN m = w1 := ⟨_, rfl⟩
  rw [hw1] at b ⊢
  clear hs hw1
  go_wp2_with fail
  refine (hsd.out _).mono ?_
  rintro x w2 ⟨rfl, rfl⟩
  clear hsd
  go_wp2_with fail
  refine (hor.out _ b.out).mono ?_
  rintro x w3 ⟨rfl, b3⟩
  replace b := hid (below_thru b.out b3)
  clear b3 hor
  go_wp2_with fail
  refine (hor2.out _ b.out).mono ?_
  rintro x w4 ⟨rfl, b4⟩
  replace b := hid (below_thru b.out b4)
  clear b4 hor2
  go_wp2_with fail
  refine (hnw.out _ b.out).mono ?_
  rintro x w5 ⟨wb, sb, rfl, hge, hm5⟩
  have hspc := hid (hsp.out w4 w5 wb sb b.out hm5)
  clear hnw hge hm5 hsp
  go_wp2_with fail
  refine hspc.out.mono ?_
  rintro x w6 ⟨rv, l, g, rfl, hrl, hsp6, hwm6, hgb⟩
  have hb6 : Hid (Below w.heap.size w w6) := hid (b.out.trans (hwm6.bel.mono b.out.size))
  have hre := hid (reached_ok hwm6 q (!s) hb (hspb.out l g hsp6))
  clear hspc hrl hsp6 hwm6 hgb hspb
  have hss : Hid ((!!s) = s) := hid (by cases s <;> rfl)
  generalize (!s) = s2 at hre hss
  go_wp2_with fail
  refine hre.out.mono ?_
  rintro x w7 ⟨rfl, rfl⟩
  clear hre
  go_wp2_with fail
  go_ret2
  exact ⟨by rw [hss.out]; rfl, hb6.out⟩
end

end Go.Proofs.YtghpjljnbdjmaaaGreatDoor
