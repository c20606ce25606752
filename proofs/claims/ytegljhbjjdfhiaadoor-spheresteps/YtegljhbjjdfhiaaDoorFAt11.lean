/- face.At, face.together, face.Same, walked. -/
import Derived.Test.YtegljhbjjdfhiaaDoorBpure
import Derived.Test.YtegljhbjjdfhiaaDoorBtakes
import Derived.Test.YtegljhbjjdfhiaaDoorBface
namespace Go.Proofs.YtegljhbjjdfhiaaDoor
open Go.RowKit
set_option linter.unusedVariables false

/-- The dart whose face a corner looks into. -/
noncomputable def fa (V : Nat) (R : Nat → List Nat) (b : Int) : Int := match co b with
  | none => -1
  | some d => (vx V R d : Int)

theorem fa_none (V : Nat) (R : Nat → List Nat) : fa V R (-1) = -1 := by unfold fa; rw [co_none]
theorem fa_some (V : Nat) (R : Nat → List Nat) (d : Nat) : fa V R (d : Int) = (vx V R d : Int) := by unfold fa; rw [co_some]

section
variable {w : World} {lo tb V E : Nat} {R : Nat → List Nat}

set_option maxRecDepth 100000 in
set_option maxHeartbeats 1000000 in
theorem fat_bad {tb : Nat} (a b z : Int) (w : World) (hc : ∀ y, Below w.heap.size w y → Calls Tryd.prog 33 #[.pointer (some ⟨tb, 0, none⟩), .agg #[.int .i64 a, .int .i64 b]] y fun x w' => x = .returned (.iface 66 (.int .i64 z)) ∧ Below y.heap.size y w') :
    Calls Tryd.prog 54 #[.pointer (some ⟨tb, 0, none⟩), .agg #[.int .i64 a, .int .i64 b]] w fun x w' => x = .returned (.tuple #[.int .i64 0, .iface 66 (.int .i64 z)]) ∧ Below w.heap.size w w' := by
  have hb0 := balloc w (.cells #[.int .i64 a, .int .i64 b] 51)
  replace hc := hid (hc _ hb0)
  obtain ⟨c0, c1⟩ := two_new w (.int .i64 a) (.int .i64 b) 51
  obtain ⟨w0, hw0⟩ : ∃ w0, w.alloc (.cells #[.int .i64 a, .int .i64 b] 51) = w0 := ⟨_, rfl⟩
  rw [hw0] at hb0 hc c0 c1
  replace hb0 := hid hb0
  replace hw0 := hid hw0
  go_enter Tryd.func54, Tryd.ntmps54
  go_upto_region 1 with fail
  rw [hw0.out]
  go_wp2_with fail
  refine hc.out.mono ?_
  rintro x w1 ⟨rfl, b1⟩
  have hb1 := hid (hb0.out.trans (b1.mono hb0.out.size))
  clear b1
  go_wp2_with fail
  go_ret2
  exact ⟨rfl, hb1.out⟩

set_option maxRecDepth 100000 in
set_option maxHeartbeats 1000000 in
theorem fat_ok (h : TA w lo tb V E R) (u : Nat) (b : Int) (hco : Co V R (u : Int) b) :
    Calls Tryd.prog 54 #[.pointer (some ⟨tb, 0, none⟩), .agg #[.int .i64 (u : Int), .int .i64 b]] w fun x w' => x = .returned (.tuple #[.int .i64 (fa V R b), .nilIface]) ∧ Below w.heap.size w w' := by
  have hb0 := balloc w (.cells #[.int .i64 (u : Int), .int .i64 b] 51)
  obtain ⟨u', e, hu, hb⟩ := id hco
  obtain rfl : u = u' := by omega
  have hc := hid (check_in (h.more hb0) u b .nilIface hu (.inl ⟨rfl, hco⟩))
  clear e
  obtain ⟨c0, c1⟩ := two_new w (.int .i64 (u : Int)) (.int .i64 b) 51
  obtain ⟨w0, hw0⟩ : ∃ w0, w.alloc (.cells #[.int .i64 (u : Int), .int .i64 b] 51) = w0 := ⟨_, rfl⟩
  rw [hw0] at hb0 hc c0 c1
  replace hb0 := hid hb0
  replace hw0 := hid hw0
  rcases hb with ⟨rfl, _⟩ | ⟨d, rfl, hm⟩
  · rw [fa_none]
    clear h hco hu
    go_enter Tryd.func54, Tryd.ntmps54
    go_upto_region 1 with fail
    rw [hw0.out]
    go_wp2_with fail
    refine hc.out.mono ?_
    rintro x w1 ⟨rfl, b1⟩
    have hb1 := hid (hb0.out.trans (b1.mono hb0.out.size))
    have d1 := (b1.cell (World.block_lt_of_cell? _ _ c1)).trans c1
    clear b1 c0 c1
    go_wp2_with fail
    go_ret2
    exact ⟨rfl, hb1.out⟩
  · rw [fa_some, vx_at h.tn hu hm]
    obtain ⟨n, p, o, r, ho, hn, _⟩ := two_ok h (d : Int)
    obtain ⟨rfl, rfl⟩ : r = .nilIface ∧ n = (nx (R u) d : Int) := by
      rcases ho with ⟨_, _, _, _, q⟩ | ⟨_, _, _, _, k, e1, _, q⟩ | ⟨h1, k, v, e1, e2, e3, e4, _, _⟩
      · have := h.tn.low u d hu hm; omega
      · obtain rfl : d = k := by omega
        exact absurd ⟨u, hu, hm⟩ q
      · obtain rfl : d = k := by omega
        obtain rfl := h.tn.one u v d hu e2 hm e3
        exact ⟨h1, e4⟩
    replace hn := hid hn
    have t1 : ((d : Int) == -1) = false := by simp
    have t2 : ¬ ((d : Int) = -1) := by omega
    clear h hco hu ho hm
    go_enter Tryd.func54, Tryd.ntmps54
    go_upto_region 1 with fail
    rw [hw0.out]
    go_wp2_with fail
    refine hc.out.mono ?_
    rintro x w1 ⟨rfl, b1⟩
    have hb1 := hid (hb0.out.trans (b1.mono hb0.out.size))
    have d1 := (b1.cell (World.block_lt_of_cell? _ _ c1)).trans c1
    clear b1 c0 c1
    go_wp2_with fail
    refine (hn.out _ hb1.out).mono ?_
    rintro x w2 ⟨rfl, b2⟩
    have hb2 := hid (hb1.out.trans (b2.mono hb1.out.size))
    clear b2
    go_wp2_with fail
    go_ret2
    exact ⟨rfl, hb2.out⟩

open Classical in
/-- By how many steps it comes to v. -/
noncomputable def stp (f : Nat → Nat) (x v : Nat) : Nat := if h : ∃ j, j < Pq.per f x ∧ Pq.it f j x = v then h.choose else 0

theorem stp_is {n : Nat} {f : Nat → Nat} (h : Pq.Pm n f) {x j : Nat} (hx : x < n) (hj : j < Pq.per f x) : stp f x (Pq.it f j x) = j := by
  have he : ∃ i, i < Pq.per f x ∧ Pq.it f i x = Pq.it f j x := ⟨j, hj, rfl⟩
  unfold stp
  rw [dif_pos he]
  exact h.apart hx (h.per_is hx).1 he.choose_spec.1 hj he.choose_spec.2

/-- Gone round, and not met. -/
theorem notmet {n : Nat} {f : Nat → Nat} (h : Pq.Pm n f) {x y j : Nat} (hx : x < n) (hj : Pq.it f (j + 1) x = x) (hn : ∀ i, i ≤ j → Pq.it f i x ≠ y) : ¬ Pq.Of1 f x y := by
  rintro ⟨k, hk⟩
  have hper : ∀ m, Pq.it f (m * (j + 1)) x = x := fun m => by
    induction m with
    | zero => simp [Pq.it]
    | succ m ih => rw [Nat.succ_mul, Pq.it_add, hj, ih]
  have e : Pq.it f k x = Pq.it f (k % (j + 1)) x := by
    conv => lhs; rw [← Nat.mod_add_div k (j + 1), Nat.mul_comm, Pq.it_add, hper]
  exact hn (k % (j + 1)) (by have := Nat.mod_lt k (show 0 < j + 1 by omega); omega) (e.symm.trans hk)

set_option maxRecDepth 100000 in
set_option maxHeartbeats 2000000 in
theorem together_ok (h : TA w lo tb V E R) (hw : Tw V E R) (x y : Nat) (s : Bool) (hx : In V R x) (hy : In V R y) (hs : s = true ↔ Pq.Of1 (fx V R) x y) :
    Calls Tryd.prog 55 #[.pointer (some ⟨tb, 0, none⟩), .int .i64 (x : Int), .int .i64 (y : Int)] w fun e w' => e = .returned (.bool s) ∧ Below w.heap.size w w' := by
  have pm := fx_pm h.tn hw
  have hxl := hx.low h.tn
  have hyl := hy.low h.tn
  have hinx := hid (fun k => (it_in h.tn hw (d := x) k).2 hx)
  have hiny := hid (fun k => (it_in h.tn hw (d := y) k).2 hy)
  have hpm := hid pm
  have hbx := hid (fun (z : World) (k : Nat) (hz : Below w.heap.size w z) => behind_ok (h.more hz) hw _ (hinx.out k))
  have hby := hid (fun (z : World) (k : Nat) (hz : Below w.heap.size w z) => behind_ok (h.more hz) hw _ (hiny.out k))
  have hp0 := (pm.per_is hxl).1.pos
  replace hs := hid hs
  clear h hw hx hy pm
  go_enter Tryd.func55, Tryd.ntmps55
  go_wp2_with fail
  go_loopw [7, 8] (fun p q wr => ∃ j : Nat, j < Pq.per (fx V R) x ∧ p = .int .i64 (Pq.it (fx V R) j x : Int) ∧ q = .int .i64 (Pq.it (fx V R) j y : Int) ∧ Hid ((∀ i, i < j → Pq.it (fx V R) i x ≠ y ∧ Pq.it (fx V R) i y ≠ x) ∧ Below w.heap.size w wr))
    (fun p _ _ => Pq.per (fx V R) x - stp (fx V R) x (intOf p).toNat)
  case atStart => exact ⟨0, hp0, rfl, rfl, fun i hi => by omega, Below.refl _ _⟩
  case round =>
    obtain ⟨j, hj, rfl, rfl, hst⟩ := hrel
    have hbx' := hid (hbx.out wr j hst.out.2)
    have hby' := hid (fun z hz => hby.out z j hz)
    have hst1 := hid (stp_is hpm.out hxl hj)
    obtain ⟨p, hp⟩ : ∃ p, Pq.it (fx V R) j x = p := ⟨_, rfl⟩
    obtain ⟨q, hq⟩ : ∃ q, Pq.it (fx V R) j y = q := ⟨_, rfl⟩
    rw [hp] at hbx' hst1
    rw [hq] at hby'
    rw [hp, hq]
    have hph := hid hp
    have hqh := hid hq
    clear hp hq
    by_cases e1 : p = y
    · have t1 : ((p : Int) != (y : Int)) = false := by simp [e1]
      have t1' : ((p : Int) == (y : Int)) = true := by simp [e1]
      obtain rfl : s = true := hs.out.2 ⟨j, hph.out.trans e1⟩
      have hb := hid hst.out.2
      subst e1
      clear hst hbx' hby'
      go_wp2_with fail
      go_ret
      exact ⟨rfl, hb.out⟩
    · have t1 : ((p : Int) != (y : Int)) = true := by simp; omega
      have t1' : ((p : Int) == (y : Int)) = false := by simp; omega
      have t1'' : ¬ ((p : Int) = (y : Int)) := by omega
      by_cases e2 : q = x
      · have t2 : ((q : Int) != (x : Int)) = false := by simp [e2]
        have t2' : ((q : Int) == (x : Int)) = true := by simp [e2]
        obtain rfl : s = true := hs.out.2 (hpm.out.sym hyl ⟨j, hqh.out.trans e2⟩)
        have hb := hid hst.out.2
        subst e2
        clear hst hbx' hby'
        go_wp2_with fail
        go_ret
        exact ⟨rfl, hb.out⟩
      · have t2 : ((q : Int) != (x : Int)) = true := by simp; omega
        have t2' : ((q : Int) == (x : Int)) = false := by simp; omega
        have t2'' : ¬ ((q : Int) = (x : Int)) := by omega
        have hall : Hid (∀ i, i < j + 1 → Pq.it (fx V R) i x ≠ y ∧ Pq.it (fx V R) i y ≠ x) := hid (fun i hi => by
          by_cases hij : i = j
          · subst hij
            rw [hph.out, hqh.out]
            exact ⟨e1, e2⟩
          · exact hst.out.1 i (by omega))
        have hb := hid hst.out.2
        have hpf : Hid (fx V R p = Pq.it (fx V R) (j + 1) x) := by rw [← hph.out]; exact hid rfl
        have hqf : Hid (fx V R q = Pq.it (fx V R) (j + 1) y) := by rw [← hqh.out]; exact hid rfl
        clear hst
        go_wp2_with fail
        refine hbx'.out.mono ?_
        rintro e w1 ⟨rfl, b1⟩
        have hb1 := hid (hb.out.trans (b1.mono hb.out.size))
        clear b1 hbx'
        go_wp2_with fail
        refine (hby'.out w1 hb1.out).mono ?_
        rintro e w2 ⟨rfl, b2⟩
        have hb2 := hid (hb1.out.trans (b2.mono hb1.out.size))
        clear b2 hby' hb hb1
        rw [hpf.out, hqf.out]
        clear hpf hqf
        have hlast : Hid (Pq.it (fx V R) (j + 1) x ≠ x → j + 1 < Pq.per (fx V R) x) := hid (fun hne => by
          rcases Nat.lt_or_ge (j + 1) (Pq.per (fx V R) x) with hl | hl
          · exact hl
          · have : j + 1 = Pq.per (fx V R) x := by omega
            exact absurd (by rw [this]; exact (hpm.out.per_is hxl).1.at_) hne)
        have hst2 : Hid (j + 1 < Pq.per (fx V R) x → stp (fx V R) x (Pq.it (fx V R) (j + 1) x) = j + 1) := hid (fun hl => stp_is hpm.out hxl hl)
        have hn1 : Hid (Pq.it (fx V R) (j + 1) x = x → ¬ Pq.Of1 (fx V R) x y) := hid (fun he => notmet hpm.out hxl he (fun i hi => (hall.out i (by omega)).1))
        have hn2 : Hid (Pq.it (fx V R) (j + 1) y = y → ¬ Pq.Of1 (fx V R) x y) := hid (fun he k => notmet hpm.out hyl he (fun i hi => (hall.out i (by omega)).2) (hpm.out.sym hxl k))
        have hP := hid (rfl : Pq.it (fx V R) (j + 1) x = Pq.it (fx V R) (j + 1) x)
        have hQ := hid (rfl : Pq.it (fx V R) (j + 1) y = Pq.it (fx V R) (j + 1) y)
        obtain ⟨p', hp'⟩ : ∃ p', Pq.it (fx V R) (j + 1) x = p' := ⟨_, rfl⟩
        obtain ⟨q', hq'⟩ : ∃ q', Pq.it (fx V R) (j + 1) y = q' := ⟨_, rfl⟩
        rw [hp'] at hn1 hlast hst2
        rw [hq'] at hn2
        rw [hp', hq']
        replace hp' := hid hp'
        replace hq' := hid hq'
        clear hP hQ
        by_cases e3 : p' = x
        · have t3 : ((p' : Int) == (x : Int)) = true := by simp [e3]
          obtain rfl : s = false := by
            cases s with
            | false => rfl
            | true => exact absurd (hs.out.1 rfl) (hn1.out e3)
          subst e3
          clear hn1 hn2 hlast hst2 hp' hq'
          go_wp2_with fail
          go_ret
          exact ⟨rfl, hb2.out⟩
        · have t3 : ((p' : Int) == (x : Int)) = false := by simp; omega
          have t3' : ¬ ((p' : Int) = (x : Int)) := by omega
          by_cases e4 : q' = y
          · have t4 : ((q' : Int) == (y : Int)) = true := by simp [e4]
            obtain rfl : s = false := by
              cases s with
              | false => rfl
              | true => exact absurd (hs.out.1 rfl) (hn2.out e4)
            subst e4
            clear hn1 hn2 hlast hst2 hp' hq'
            go_wp2_with fail
            go_ret
            exact ⟨rfl, hb2.out⟩
          · have t4 : ((q' : Int) == (y : Int)) = false := by simp; omega
            have t4' : ¬ ((q' : Int) = (y : Int)) := by omega
            have hl := hlast.out e3
            have hm := hid (hst2.out hl)
            clear hn1 hn2 hlast hst2
            go_wp2_with fail
            go_roundw
            case rel => exact ⟨j + 1, hl, by rw [hp'.out], by rw [hq'.out], hall.out, hb2.out⟩
            case measure =>
              simp only [intOf, Int.toNat_natCast]
              rw [hm.out, hst1.out]
              omega
end

/-- Two corners in two blocks. -/
def C2 (s : Nat) (a0 a1 b0 b1 : Int) (y : World) : Prop := y.heap[s]? = some (.cells #[.int .i64 a0, .int .i64 a1] 51 (0, 0)) ∧ y.heap[s + 1]? = some (.cells #[.int .i64 b0, .int .i64 b1] 51 (0, 0))

theorem C2.new (w : World) (a0 a1 b0 b1 : Int) : C2 w.heap.size a0 a1 b0 b1 ((w.alloc (.cells #[.int .i64 a0, .int .i64 a1] 51)).alloc (.cells #[.int .i64 b0, .int .i64 b1] 51)) := by
  refine ⟨(Below.heap_alloc _ _ _ (by simp)).trans (heap_alloc_new w _), ?_⟩
  have := heap_alloc_new (w.alloc (.cells #[.int .i64 a0, .int .i64 a1] 51)) (.cells #[.int .i64 b0, .int .i64 b1] 51)
  simpa using this

theorem C2.below {s : Nat} {a0 a1 b0 b1 : Int} {y y' : World} (h : C2 s a0 a1 b0 b1 y) (hb : Below y.heap.size y y') : C2 s a0 a1 b0 b1 y' :=
  ⟨(hb.block _ (Array.getElem?_eq_some_iff.1 h.1).1).trans h.1, (hb.block _ (Array.getElem?_eq_some_iff.1 h.2).1).trans h.2⟩

theorem C2.cells {s : Nat} {a0 a1 b0 b1 : Int} {y : World} (h : C2 s a0 a1 b0 b1 y) : y.cell? ⟨s, 0, none⟩ = some (.int .i64 a0) ∧ y.cell? ⟨s, 1, none⟩ = some (.int .i64 a1) ∧ y.cell? ⟨s + 1, 0, none⟩ = some (.int .i64 b0) ∧ y.cell? ⟨s + 1, 1, none⟩ = some (.int .i64 b1) := by
  obtain ⟨q0, q1, _, _⟩ := blk2 h.1
  obtain ⟨p0, p1, _, _⟩ := blk2 h.2
  exact ⟨q0, q1, p0, p1⟩

section
variable {w : World} {lo tb V E : Nat} {R : Nat → List Nat}

set_option maxRecDepth 100000 in
set_option maxHeartbeats 1000000 in
theorem fsame_bad1 {tb : Nat} (a0 a1 b0 b1 z : Int) (w : World) (hc : ∀ y, Below w.heap.size w y → Calls Tryd.prog 54 #[.pointer (some ⟨tb, 0, none⟩), .agg #[.int .i64 a0, .int .i64 a1]] y fun x w' => x = .returned (.tuple #[.int .i64 0, .iface 66 (.int .i64 z)]) ∧ Below y.heap.size y w') :
    Calls Tryd.prog 27 #[.pointer (some ⟨tb, 0, none⟩), .agg #[.int .i64 a0, .int .i64 a1], .agg #[.int .i64 b0, .int .i64 b1]] w fun x w' => x = .returned (.tuple #[.bool false, .iface 66 (.int .i64 z)]) ∧ Below w.heap.size w w' := by
  have hk := hid (C2.new w a0 a1 b0 b1)
  have hb0 : Hid (Below w.heap.size w ((w.alloc (.cells #[.int .i64 a0, .int .i64 a1] 51)).alloc (.cells #[.int .i64 b0, .int .i64 b1] 51))) := hid (((Below.refl w.heap.size w).alloc (Nat.le_refl _) _).alloc (by simp) _)
  obtain ⟨w0, hw0⟩ : ∃ w0, (w.alloc (.cells #[.int .i64 a0, .int .i64 a1] 51)).alloc (.cells #[.int .i64 b0, .int .i64 b1] 51) = w0 := ⟨_, rfl⟩
  rw [hw0] at hb0 hk
  replace hw0 := hid hw0
  obtain ⟨c0, c1, c2, c3⟩ := hk.out.cells
  replace hc := hid (hc _ hb0.out)
  go_enter Tryd.func27, Tryd.ntmps27
  go_upto_region 1 with fail
  rw [hw0.out]
  go_wp2_with fail
  refine hc.out.mono ?_
  rintro x w1 ⟨rfl, b1⟩
  have hb1 := hid (hb0.out.trans (b1.mono hb0.out.size))
  clear b1
  go_wp2_with fail
  go_ret2
  exact ⟨rfl, hb1.out⟩

set_option maxRecDepth 100000 in
set_option maxHeartbeats 1000000 in
theorem fsame_bad2 {tb : Nat} (a0 a1 b0 b1 z n : Int) (w : World) (hc : ∀ y, Below w.heap.size w y → Calls Tryd.prog 54 #[.pointer (some ⟨tb, 0, none⟩), .agg #[.int .i64 a0, .int .i64 a1]] y fun x w' => x = .returned (.tuple #[.int .i64 n, .nilIface]) ∧ Below y.heap.size y w') (hd : ∀ y, Below w.heap.size w y → Calls Tryd.prog 54 #[.pointer (some ⟨tb, 0, none⟩), .agg #[.int .i64 b0, .int .i64 b1]] y fun x w' => x = .returned (.tuple #[.int .i64 0, .iface 66 (.int .i64 z)]) ∧ Below y.heap.size y w') :
    Calls Tryd.prog 27 #[.pointer (some ⟨tb, 0, none⟩), .agg #[.int .i64 a0, .int .i64 a1], .agg #[.int .i64 b0, .int .i64 b1]] w fun x w' => x = .returned (.tuple #[.bool false, .iface 66 (.int .i64 z)]) ∧ Below w.heap.size w w' := by
  have hk := hid (C2.new w a0 a1 b0 b1)
  have hb0 : Hid (Below w.heap.size w ((w.alloc (.cells #[.int .i64 a0, .int .i64 a1] 51)).alloc (.cells #[.int .i64 b0, .int .i64 b1] 51))) := hid (((Below.refl w.heap.size w).alloc (Nat.le_refl _) _).alloc (by simp) _)
  obtain ⟨w0, hw0⟩ : ∃ w0, (w.alloc (.cells #[.int .i64 a0, .int .i64 a1] 51)).alloc (.cells #[.int .i64 b0, .int .i64 b1] 51) = w0 := ⟨_, rfl⟩
  rw [hw0] at hb0 hk
  replace hw0 := hid hw0
  obtain ⟨c0, c1, c2, c3⟩ := hk.out.cells
  replace hc := hid (hc _ hb0.out)
  replace hd := hid hd
  go_enter Tryd.func27, Tryd.ntmps27
  go_upto_region 1 with fail
  rw [hw0.out]
  go_wp2_with fail
  refine hc.out.mono ?_
  rintro x w1 ⟨rfl, b1⟩
  have hb1 := hid (hb0.out.trans (b1.mono hb0.out.size))
  obtain ⟨d0, d1, d2, d3⟩ := (hk.out.below b1).cells
  clear b1 c0 c1 c2 c3
  go_wp2_with fail
  refine (hd.out _ hb1.out).mono ?_
  rintro x w2 ⟨rfl, b2⟩
  have hb2 := hid (hb1.out.trans (b2.mono hb1.out.size))
  clear b2
  go_wp2_with fail
  go_ret2
  exact ⟨rfl, hb2.out⟩

set_option maxRecDepth 100000 in
set_option maxHeartbeats 2000000 in
/-- The way through Same, both corners being there. -/
theorem fsame_way {tb : Nat} (a0 a1 b0 b1 n m : Int) (s : Bool) (w : World) (hc : ∀ y, Below w.heap.size w y → Calls Tryd.prog 54 #[.pointer (some ⟨tb, 0, none⟩), .agg #[.int .i64 a0, .int .i64 a1]] y fun x w' => x = .returned (.tuple #[.int .i64 n, .nilIface]) ∧ Below y.heap.size y w') (hd : ∀ y, Below w.heap.size w y → Calls Tryd.prog 54 #[.pointer (some ⟨tb, 0, none⟩), .agg #[.int .i64 b0, .int .i64 b1]] y fun x w' => x = .returned (.tuple #[.int .i64 m, .nilIface]) ∧ Below y.heap.size y w')
    (hs : ((n = -1 ∨ m = -1) ∧ (s = true ↔ a0 = b0 ∧ a1 = b1)) ∨ (n ≠ -1 ∧ m ≠ -1 ∧ ∀ y, Below w.heap.size w y → Calls Tryd.prog 55 #[.pointer (some ⟨tb, 0, none⟩), .int .i64 n, .int .i64 m] y fun e w' => e = .returned (.bool s) ∧ Below y.heap.size y w')) :
    Calls Tryd.prog 27 #[.pointer (some ⟨tb, 0, none⟩), .agg #[.int .i64 a0, .int .i64 a1], .agg #[.int .i64 b0, .int .i64 b1]] w fun x w' => x = .returned (.tuple #[.bool s, .nilIface]) ∧ Below w.heap.size w w' := by
  have hk := hid (C2.new w a0 a1 b0 b1)
  have hb0 : Hid (Below w.heap.size w ((w.alloc (.cells #[.int .i64 a0, .int .i64 a1] 51)).alloc (.cells #[.int .i64 b0, .int .i64 b1] 51))) := hid (((Below.refl w.heap.size w).alloc (Nat.le_refl _) _).alloc (by simp) _)
  obtain ⟨w0, hw0⟩ : ∃ w0, (w.alloc (.cells #[.int .i64 a0, .int .i64 a1] 51)).alloc (.cells #[.int .i64 b0, .int .i64 b1] 51) = w0 := ⟨_, rfl⟩
  rw [hw0] at hb0 hk
  replace hw0 := hid hw0
  obtain ⟨c0, c1, c2, c3⟩ := hk.out.cells
  replace hc := hid (hc _ hb0.out)
  replace hd := hid hd
  replace hs := hid hs
  go_enter Tryd.func27, Tryd.ntmps27
  go_upto_region 1 with fail
  rw [hw0.out]
  go_wp2_with fail
  refine hc.out.mono ?_
  rintro x w1 ⟨rfl, b1⟩
  have hb1 := hid (hb0.out.trans (b1.mono hb0.out.size))
  replace hk := hid (hk.out.below b1)
  obtain ⟨d0, d1, d2, d3⟩ := hk.out.cells
  clear b1 c0 c1 c2 c3
  go_wp2_with fail
  refine (hd.out _ hb1.out).mono ?_
  rintro x w2 ⟨rfl, b2⟩
  have hb2 := hid (hb1.out.trans (b2.mono hb1.out.size))
  obtain ⟨e0, e1, e2, e3⟩ := (hk.out.below b2).cells
  clear b2 d0 d1 d2 d3
  rcases hs.out with ⟨hnm, hs1⟩ | ⟨hn, hm, hs1⟩
  · by_cases hn : n = -1
    · subst hn
      by_cases k1 : a0 = b0
      · subst k1
        by_cases k2 : a1 = b1
        · subst k2
          obtain rfl : s = true := hs1.2 ⟨rfl, rfl⟩
          clear hs1 hnm hs
          go_wp2_with fail
          go_ret2
          exact ⟨rfl, hb2.out⟩
        · obtain rfl : s = false := by
            cases s with
            | false => rfl
            | true => exact absurd (hs1.1 rfl).2 k2
          clear hs1 hnm hs
          go_wp2_with fail
          go_ret2
          exact ⟨rfl, hb2.out⟩
      · obtain rfl : s = false := by
          cases s with
          | false => rfl
          | true => exact absurd (hs1.1 rfl).1 k1
        clear hs1 hnm hs
        go_wp2_with fail
        go_ret2
        exact ⟨rfl, hb2.out⟩
    · have t1 : (n == -1) = false := by simp [hn]
      obtain rfl : m = -1 := by
        rcases hnm with q | q
        · exact absurd q hn
        · exact q
      by_cases k1 : a0 = b0
      · subst k1
        by_cases k2 : a1 = b1
        · subst k2
          obtain rfl : s = true := hs1.2 ⟨rfl, rfl⟩
          clear hs1 hnm hs
          go_wp2_with fail
          go_ret2
          exact ⟨rfl, hb2.out⟩
        · obtain rfl : s = false := by
            cases s with
            | false => rfl
            | true => exact absurd (hs1.1 rfl).2 k2
          clear hs1 hnm hs
          go_wp2_with fail
          go_ret2
          exact ⟨rfl, hb2.out⟩
      · obtain rfl : s = false := by
          cases s with
          | false => rfl
          | true => exact absurd (hs1.1 rfl).1 k1
        clear hs1 hnm hs
        go_wp2_with fail
        go_ret2
        exact ⟨rfl, hb2.out⟩
  · have t1 : (n == -1) = false := by simp [hn]
    have t2 : (m == -1) = false := by simp [hm]
    replace hs1 := hid (hs1 _ hb2.out)
    clear hs
    go_wp2_with fail
    refine hs1.out.mono ?_
    rintro x w3 ⟨rfl, b3⟩
    have hb3 := hid (hb2.out.trans (b3.mono hb2.out.size))
    clear b3
    go_wp2_with fail
    go_ret2
    exact ⟨rfl, hb3.out⟩

theorem fa_in (ht : Tn V E R) {u : Nat} {b : Int} (h : Co V R (u : Int) b) : (b = -1 ∧ co b = none ∧ R u = [] ∧ fa V R b = -1) ∨ ∃ d : Nat, b = (d : Int) ∧ co b = some d ∧ d ∈ R u ∧ u < V ∧ fa V R b = (vx V R d : Int) ∧ In V R (vx V R d) := by
  obtain ⟨u', e, hu, ⟨rfl, h1⟩ | ⟨d, rfl, h1⟩⟩ := h
  · obtain rfl : u = u' := by omega
    exact .inl ⟨rfl, co_none, h1, fa_none V R⟩
  · obtain rfl : u = u' := by omega
    exact .inr ⟨d, rfl, co_some d, h1, hu, fa_some V R d, vx_in ⟨u, hu, h1⟩⟩

/-- What both corners' None says of One. -/
theorem one_none {u v : Nat} {a b : Int} (ht : Tn V E R) (ha : Co V R (u : Int) a) (hb : Co V R (v : Int) b) (hn : fa V R a = -1 ∨ fa V R b = -1) : One V R u v (co a) (co b) ↔ (u : Int) = (v : Int) ∧ a = b := by
  rcases fa_in ht ha with ⟨rfl, e1, e2, e3⟩ | ⟨d, rfl, e1, e2, e2', e3, e4⟩
  · rcases fa_in ht hb with ⟨rfl, g1, g2, g3⟩ | ⟨c, rfl, g1, g2, g2', g3, g4⟩
    · rw [e1]
      show u = v ↔ _
      constructor
      · rintro rfl; exact ⟨rfl, rfl⟩
      · intro q; omega
    · rw [e1, g1]
      show False ↔ _
      constructor
      · intro q; exact q.elim
      · intro q; omega
  · rcases fa_in ht hb with ⟨rfl, g1, g2, g3⟩ | ⟨c, rfl, g1, g2, g2', g3, g4⟩
    · rw [e1, g1]
      show False ↔ _
      constructor
      · intro q; exact q.elim
      · intro q; omega
    · rw [e3, g3] at hn
      omega

theorem fsame_ok (h : TA w lo tb V E R) (hw : Tw V E R) (u v : Nat) (a b : Int) (s : Bool) (ha : Co V R (u : Int) a) (hb : Co V R (v : Int) b) (hs : s = true ↔ One V R u v (co a) (co b)) :
    Calls Tryd.prog 27 #[.pointer (some ⟨tb, 0, none⟩), .agg #[.int .i64 (u : Int), .int .i64 a], .agg #[.int .i64 (v : Int), .int .i64 b]] w fun x w' => x = .returned (.tuple #[.bool s, .nilIface]) ∧ Below w.heap.size w w' := by
  refine fsame_way _ _ _ _ (fa V R a) (fa V R b) s w (fun y hy => fat_ok (h.more hy) u a ha) (fun y hy => fat_ok (h.more hy) v b hb) ?_
  by_cases hn : fa V R a = -1 ∨ fa V R b = -1
  · exact .inl ⟨hn, hs.trans (one_none h.tn ha hb hn)⟩
  · refine .inr ⟨fun q => hn (.inl q), fun q => hn (.inr q), fun y hy => ?_⟩
    rcases fa_in h.tn ha with ⟨_, _, _, e3⟩ | ⟨d, rfl, e1, e2, e2', e3, e4⟩
    · exact absurd (.inl e3) hn
    · rcases fa_in h.tn hb with ⟨_, _, _, g3⟩ | ⟨c, rfl, g1, g2, g2', g3, g4⟩
      · exact absurd (.inr g3) hn
      · rw [e3, g3]
        rw [e1, g1] at hs
        exact together_ok (h.more hy) hw _ _ s e4 g4 hs
end
end Go.Proofs.YtegljhbjjdfhiaaDoor
