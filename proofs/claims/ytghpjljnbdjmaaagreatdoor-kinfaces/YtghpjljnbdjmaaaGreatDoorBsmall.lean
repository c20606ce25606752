/- Where a dart that is laid stands. sphere's small functions: room, ends, bare, own, sum. sphere's joined: the vertices, united by the edges. -/
import Derived.Test.YtghpjljnbdjmaaaGreatDoorBface
import Derived.Test.YtghpjljnbdjmaaaGreatDoorBlink
import Derived.Test.YtghpjljnbdjmaaaGreatDoorBtakes
import Derived.Test.YtghpjljnbdjmaaaGreatDoorParts12
namespace Go.Proofs.YtghpjljnbdjmaaaGreatDoor
open Go.RowKit
set_option linter.unusedVariables false

section
variable {w : World} {lo tb V E : Nat} {R : Nat → List Nat}

theorem origin_in (h : TA w lo tb V E R) (k : Nat) (hk : In V R k) : Calls Tryz.prog 25 #[.pointer (some ⟨tb, 0, none⟩), .int .i64 (k : Int)] w fun x w' => x = .returned (.tuple #[.int .i64 (og V R k : Int), .nilIface]) ∧ Below w.heap.size w w' := by
  obtain ⟨n, p, o, r, ho, _, hn⟩ := two_ok h (k : Int)
  have hl := hk.low h.tn
  rcases ho with ⟨_, _, _, _, q⟩ | ⟨_, _, _, _, j, e1, _, q⟩ | ⟨rfl, j, v, e1, e2, e3, e4, _, rfl⟩
  · omega
  · obtain rfl : k = j := by omega
    exact absurd hk q
  · obtain rfl : k = j := by omega
    rw [og_at h.tn e2 e3]
    exact hn w (Below.refl _ _)

end
end Go.Proofs.YtghpjljnbdjmaaaGreatDoor

namespace Go.Proofs.YtghpjljnbdjmaaaGreatDoor
open Go.RowKit
set_option linter.unusedVariables false

section
variable {w : World} {lo tb V E : Nat} {R : Nat → List Nat}

set_option maxRecDepth 100000 in
theorem room_ok (h : TA w lo tb V E R) : Calls Tryz.prog 88 #[.pointer (some ⟨tb, 0, none⟩)] w fun x w' => x = .returned (.int .i64 (E : Int)) ∧ Below w.heap.size w w' := by
  have hs := hid (sizes_ok h)
  clear h
  go_enter Tryz.func88, Tryz.ntmps88
  go_wp2_with fail
  refine hs.out.mono ?_
  rintro e w1 ⟨rfl, m, rfl⟩
  have b := hid (belowN (Below.refl w.heap.size w) m)
  obtain ⟨w1, hw1⟩ : ∃ w1, w.drewN m = w1 := ⟨_, rfl⟩
  rw [hw1] at b ⊢
  clear hs hw1
  go_wp2_with fail
  go_ret
  exact ⟨rfl, b.out⟩

set_option maxRecDepth 100000 in
theorem ends_no (h : TA w lo tb V E R) (e : Nat) (he : e < E) (hi : ¬ In V R (2 * e)) : Calls Tryz.prog 89 #[.pointer (some ⟨tb, 0, none⟩), .int .i64 (e : Int)] w fun x w' => x = .returned (.tuple #[.int .i64 0, .int .i64 0, .bool false]) ∧ Below w.heap.size w w' := by
  have hs := hid (has_ok h e false he (by simp [hi]))
  clear h hi
  go_enter Tryz.func89, Tryz.ntmps89
  go_wp2_with fail
  refine hs.out.mono ?_
  rintro x w1 ⟨rfl, b1⟩
  replace b1 := hid b1
  clear hs
  go_wp2_with fail
  go_ret3
  exact ⟨rfl, b1.out⟩

set_option maxRecDepth 100000 in
set_option maxHeartbeats 1000000 in
theorem ends_yes (h : TA w lo tb V E R) (hw : Tw V E R) (e : Nat) (he : e < E) (hi : In V R (2 * e)) : Calls Tryz.prog 89 #[.pointer (some ⟨tb, 0, none⟩), .int .i64 (e : Int)] w fun x w' => x = .returned (.tuple #[.int .i64 (og V R (2 * e) : Int), .int .i64 (og V R (2 * e + 1) : Int), .bool true]) ∧ Below w.heap.size w w' := by
  have hE := h.hE
  have hs := hid (has_ok h e true he (by simp [hi]))
  have hi2 := (hw e he).1 hi
  have hor := hid (fun (k : Nat) (hk : In V R k) y (hy : Below w.heap.size w y) => origin_in (h.more hy) k hk)
  obtain ⟨p, hp⟩ : ∃ p, og V R (2 * e) = p := ⟨_, rfl⟩
  obtain ⟨q, hq⟩ : ∃ q, og V R (2 * e + 1) = q := ⟨_, rfl⟩
  have h1 : Hid (∀ y, Below w.heap.size w y → Calls Tryz.prog 25 #[.pointer (some ⟨tb, 0, none⟩), .int .i64 (2 * (e : Int))] y fun x w' => x = .returned (.tuple #[.int .i64 (p : Int), .nilIface]) ∧ Below y.heap.size y w') := hid (fun y hy => by
    have := hor.out (2 * e) hi y hy
    rw [hp, show ((2 * e : Nat) : Int) = 2 * (e : Int) by omega] at this
    exact this)
  have h2 : Hid (∀ y, Below w.heap.size w y → Calls Tryz.prog 25 #[.pointer (some ⟨tb, 0, none⟩), .int .i64 (2 * (e : Int) + 1)] y fun x w' => x = .returned (.tuple #[.int .i64 (q : Int), .nilIface]) ∧ Below y.heap.size y w') := hid (fun y hy => by
    have := hor.out (2 * e + 1) hi2 y hy
    rw [hq, show ((2 * e + 1 : Nat) : Int) = 2 * (e : Int) + 1 by omega] at this
    exact this)
  rw [hp, hq]
  clear h hi hi2 hw hor hp hq
  go_enter Tryz.func89, Tryz.ntmps89
  go_wp2_with fail
  refine hs.out.mono ?_
  rintro x w1 ⟨rfl, b1⟩
  replace b1 := hid b1
  clear hs
  go_wp2_with fail
  refine (h1.out _ b1.out).mono ?_
  rintro x w2 ⟨rfl, b2⟩
  replace b2 := hid (b1.out.trans (b2.mono b1.out.size))
  clear h1
  go_wp2_with fail
  refine (h2.out _ b2.out).mono ?_
  rintro x w3 ⟨rfl, b3⟩
  replace b3 := hid (b2.out.trans (b3.mono b2.out.size))
  clear h2
  go_wp2_with fail
  go_ret3
  exact ⟨rfl, b3.out⟩

set_option maxRecDepth 100000 in
theorem bare_ok (h : TA w lo tb V E R) (v : Nat) (hv : v < V) (s : Bool) (hs : s = true ↔ R v = []) : Calls Tryz.prog 120 #[.pointer (some ⟨tb, 0, none⟩), .int .i64 (v : Int)] w fun x w' => x = .returned (.bool s) ∧ Below w.heap.size w w' := by
  have hd := hid (degree_ok h v hv)
  obtain ⟨n, hn⟩ : ∃ n, (R v).length = n := ⟨_, rfl⟩
  have hs' : Hid (s = decide (n = 0)) := hid (by
    cases s
    · have : R v ≠ [] := fun e => by have := hs.2 e; cases this
      have : n ≠ 0 := fun e => this (List.eq_nil_of_length_eq_zero (hn.trans e))
      simp [this]
    · have := hs.1 rfl
      rw [this] at hn
      simp [← hn])
  rw [hn] at hd
  clear h hn hs
  go_enter Tryz.func120, Tryz.ntmps120
  go_wp2_with fail
  refine hd.out.mono ?_
  rintro x w1 ⟨rfl, b1⟩
  replace b1 := hid b1
  clear hd
  go_wp2_with fail
  go_ret
  refine ⟨?_, b1.out⟩
  rw [hs'.out]
  congr 2
  by_cases q : n = 0
  · subst q; rfl
  · simp [q]

def ownQ (s : Bool) : Qd := (1, 0, if s then 1 else 0, 0)

set_option maxRecDepth 100000 in
theorem own_ok (h : TA w lo tb V E R) (v : Nat) (hv : v < V) (s : Bool) (hs : s = true ↔ R v = []) : Calls Tryz.prog 87 #[.pointer (some ⟨tb, 0, none⟩), .int .i64 (v : Int)] w fun x w' => x = .returned (mkC (ownQ s)) ∧ Below w.heap.size w w' := by
  have hb0 := hid ((Below.refl w.heap.size w).alloc (Nat.le_refl _) (.cells #[.int .i64 0, .int .i64 0, .int .i64 0, .int .i64 0] 51))
  obtain ⟨w0, hw0⟩ : ∃ w0, w.alloc (.cells #[.int .i64 0, .int .i64 0, .int .i64 0, .int .i64 0] 51) = w0 := ⟨_, rfl⟩
  have hblk : w0.heap[w.heap.size]? = some (.cells #[.int .i64 0, .int .i64 0, .int .i64 0, .int .i64 0] 51 (0, 0)) := by rw [← hw0]; exact (MapKept.heap_alloc w _).1
  rw [hw0] at hb0
  replace hw0 := hid hw0
  have hd := hid (bare_ok (h.more hb0.out) v hv s hs)
  clear h hs
  obtain ⟨z, hz⟩ : ∃ z : Int, (if s then 1 else 0) = z := ⟨_, rfl⟩
  have hq : Hid (mkC (ownQ s) = .agg #[.int .i64 1, .int .i64 0, .int .i64 z, .int .i64 0]) := hid (by rw [← hz]; rfl)
  rw [hq.out]
  clear hq
  cases s
  all_goals
    simp only [Bool.false_eq_true, if_true, if_false] at hz
    subst hz
    go_enter Tryz.func87, Tryz.ntmps87
    go_upto_region 1 with fail
    rw [hw0.out]
    go_wp2_with fail
    refine hd.out.mono ?_
    rintro x w1 ⟨rfl, b1⟩
    have hb1 := hid (hb0.out.trans (b1.mono hb0.out.size))
    have hlt : w.heap.size < w0.heap.size := (Array.getElem?_eq_some_iff.1 hblk).1
    have hbk : w1.heap[w.heap.size]? = some (.cells #[.int .i64 0, .int .i64 0, .int .i64 0, .int .i64 0] 51 (0, 0)) := (b1.block _ hlt).trans hblk
    obtain ⟨⟨d0, d1, d2, d3⟩, f0, f1, f2, f3⟩ := blk4 hbk
    have hb2 := hid (fun x y z u => below4 (g := w.heap.size) hb1.out (Nat.le_refl _) x y z u)
    have hfin := hid (fun x y z u => set4_block hbk x y z u)
    clear b1 hblk hd hbk
    go_wp2_with fail
    refine bodyPost_ret (results_cell_row rfl _ _ w.heap.size 51 _ (0, 0) _ rfl (hfin.out _ _ _ _) Tryz.underlying51 rfl (by kernel_rfl)) rfl ?_
    exact ⟨rfl, hb2.out _ _ _ _⟩
end

def addQ (a b : Qd) : Qd := (a.1 + b.1, a.2.1 + b.2.1, a.2.2.1 + b.2.2.1, a.2.2.2 + b.2.2.2)
def smQ (a : Qd) : Prop := (0 ≤ a.1 ∧ a.1 ≤ 1152921504606846976) ∧ (0 ≤ a.2.1 ∧ a.2.1 ≤ 1152921504606846976) ∧ (0 ≤ a.2.2.1 ∧ a.2.2.1 ≤ 1152921504606846976) ∧ (0 ≤ a.2.2.2 ∧ a.2.2.2 ≤ 1152921504606846976)

set_option maxRecDepth 100000 in
set_option maxHeartbeats 2000000 in
theorem sum_ok (p q : Qd) (w : World) (hp : smQ p) (hq : smQ q) : Calls Tryz.prog 54 #[mkC p, mkC q] w fun x w' => x = .returned (mkC (addQ p q)) ∧ Below w.heap.size w w' := by
  obtain ⟨p0, p1, p2, p3⟩ := p
  obtain ⟨q0, q1, q2, q3⟩ := q
  obtain ⟨⟨a0, a0'⟩, ⟨a1, a1'⟩, ⟨a2, a2'⟩, ⟨a3, a3'⟩⟩ := hp
  obtain ⟨⟨b0, b0'⟩, ⟨b1, b1'⟩, ⟨b2, b2'⟩, ⟨b3, b3'⟩⟩ := hq
  simp only at a0 a0' a1 a1' a2 a2' a3 a3' b0 b0' b1 b1' b2 b2' b3 b3'
  show Calls _ _ #[.agg #[.int .i64 p0, .int .i64 p1, .int .i64 p2, .int .i64 p3], .agg #[.int .i64 q0, .int .i64 q1, .int .i64 q2, .int .i64 q3]] w fun x w' => x = .returned (.agg #[.int .i64 (p0 + q0), .int .i64 (p1 + q1), .int .i64 (p2 + q2), .int .i64 (p3 + q3)]) ∧ Below w.heap.size w w'
  obtain ⟨wa, hwa⟩ : ∃ wa, w.alloc (.cells #[.int .i64 p0, .int .i64 p1, .int .i64 p2, .int .i64 p3] 51) = wa := ⟨_, rfl⟩
  have k1 : wa.heap[w.heap.size]? = some (.cells #[.int .i64 p0, .int .i64 p1, .int .i64 p2, .int .i64 p3] 51 (0, 0)) := by rw [← hwa]; exact (MapKept.heap_alloc w _).1
  have sa : wa.heap.size = w.heap.size + 1 := by rw [← hwa]; simp
  have ba : Below w.heap.size w wa := by rw [← hwa]; exact (Below.refl w.heap.size w).alloc (Nat.le_refl _) _
  obtain ⟨wb, hwb⟩ : ∃ wb, wa.alloc (.cells #[.int .i64 q0, .int .i64 q1, .int .i64 q2, .int .i64 q3] 51) = wb := ⟨_, rfl⟩
  have k2 : wb.heap[wa.heap.size]? = some (.cells #[.int .i64 q0, .int .i64 q1, .int .i64 q2, .int .i64 q3] 51 (0, 0)) := by rw [← hwb]; exact (MapKept.heap_alloc wa _).1
  have bb : Below wa.heap.size wa wb := by rw [← hwb]; exact (Below.refl wa.heap.size wa).alloc (Nat.le_refl _) _
  have sb : wb.heap.size = w.heap.size + 2 := by rw [← hwb]; simp; omega
  have k1b := (bb.block _ (by omega)).trans k1
  obtain ⟨wc, hwc⟩ : ∃ wc, wb.alloc (.cells #[.int .i64 0, .int .i64 0, .int .i64 0, .int .i64 0] 51) = wc := ⟨_, rfl⟩
  have k3 : wc.heap[wb.heap.size]? = some (.cells #[.int .i64 0, .int .i64 0, .int .i64 0, .int .i64 0] 51 (0, 0)) := by rw [← hwc]; exact (MapKept.heap_alloc wb _).1
  have bc : Below wb.heap.size wb wc := by rw [← hwc]; exact (Below.refl wb.heap.size wb).alloc (Nat.le_refl _) _
  have k1c := (bc.block _ (by omega)).trans k1b
  have k2c := (bc.block _ (by omega)).trans k2
  have hall := hid (ba.trans ((bb.mono (show w.heap.size ≤ wa.heap.size by omega)).trans (bc.mono (show w.heap.size ≤ wb.heap.size by omega))))
  rw [sa] at k2c
  rw [sb] at k3
  obtain ⟨⟨c0, c1, c2, c3⟩, _⟩ := blk4 k1c
  obtain ⟨⟨d0, d1, d2, d3⟩, _⟩ := blk4 k2c
  obtain ⟨⟨e0, e1, e2, e3⟩, f0, f1, f2, f3⟩ := blk4 k3
  have hfin := hid (fun x y z u => below4 (g := w.heap.size + 2) hall.out (by omega) x y z u)
  have hrow := hid (fun x y z u => set4_block k3 x y z u)
  replace hwa := hid hwa
  replace hwb := hid hwb
  replace hwc := hid hwc
  clear k1 k1b k1c k2 k2c k3 ba bb bc
  go_enter Tryz.func54, Tryz.ntmps54
  go_upto_region 1 with fail
  rw [hwa.out, hwb.out, hwc.out]
  try rw [sa]
  try rw [sb]
  clear sa sb
  go_wp2_with fail
  refine bodyPost_ret (results_cell_row rfl _ _ (w.heap.size + 2) 51 _ (0, 0) _ rfl (hrow.out _ _ _ _) Tryz.underlying51 rfl (by kernel_rfl)) rfl ?_
  exact ⟨rfl, hfin.out _ _ _ _⟩
end Go.Proofs.YtghpjljnbdjmaaaGreatDoor

namespace Go.Proofs.YtghpjljnbdjmaaaGreatDoor
open Go.RowKit
set_option linter.unusedVariables false

section
variable {w : World} {lo tb V E : Nat} {R : Nat → List Nat}

set_option maxRecDepth 100000 in
set_option maxHeartbeats 4000000 in
theorem joined_ok (h : TA w lo tb V E R) (hw : Tw V E R) (hE8 : E ≤ 1000) (hV1 : 1 ≤ V) :
    Calls Tryz.prog 84 #[.pointer (some ⟨tb, 0, none⟩)] w fun e w' => ∃ gb, e = .returned (.tuple #[.pointer (some ⟨gb, 0, none⟩), .nilIface]) ∧ Gd w gb V (lb V E R) w' := by
  have hV := h.hV
  have hs := hid (sizes_ok h)
  have hrm := hid (fun y (hy : Below w.heap.size w y) => room_ok (h.more hy))
  have heY := hid (fun (e : Nat) (he : e < E) (hi : In V R (2 * e)) y (hy : Below w.heap.size w y) => ends_yes (h.more hy) hw e he hi)
  have heN := hid (fun (e : Nat) (he : e < E) (hi : ¬ In V R (2 * e)) y (hy : Below w.heap.size w y) => ends_no (h.more hy) e he hi)
  have hw' := hid hw
  clear h hw
  go_enter Tryz.func84, Tryz.ntmps84
  go_wp2_with fail
  refine hs.out.mono ?_
  rintro e w1 ⟨rfl, m1, rfl⟩
  have b1 := hid (belowN (Below.refl w.heap.size w) m1)
  obtain ⟨w1, hw1⟩ : ∃ w1, w.drewN m1 = w1 := ⟨_, rfl⟩
  rw [hw1] at b1 ⊢
  clear hs hw1
  go_wp2_with fail
  refine (gd_new V _ hV1 (by omega)).mono ?_
  rintro e w2 ⟨rfl, hg0⟩
  have hg : Hid (Gd w w1.heap.size V (Un.jl (EA V R) (EB V R) (fun x => x) (es V R 0)) w2) := hid (by
    have := hg0.since (u := w) (by exact b1.out)
    simpa [es, Un.jl] using this)
  clear hg0
  go_wp2_with fail
  refine (hrm.out _ hg.out.bel).mono ?_
  rintro e w3 ⟨rfl, b3⟩
  replace hg := hid (hg.out.more b3)
  clear b3 hrm
  go_wp2_with fail
  go_loopw [8, 9, 10, 11, 12, 13, 29] (fun _ _ _ _ _ _ u wr => ∃ x : Nat, x ≤ E ∧ u = .int .i64 (x : Int) ∧ Hid (Gd w w1.heap.size V (Un.jl (EA V R) (EB V R) (fun x => x) (es V R x)) wr)) (fun _ _ _ _ _ _ u _ => E - (intOf u).toNat)
  case atStart => exact ⟨0, by omega, by go_num, hg⟩
  case round =>
    obtain ⟨x, hx, rfl, hst⟩ := hrel
    clear hg
    have hE : E < 1001 := by omega
    have hby := hid hst.out.bel
    rcases Nat.lt_or_ge x E with hlt | hge
    · have v1 : decide ((x : Int) < (E : Int)) = true := decide_eq_true (by omega)
      by_cases hi : In V R (2 * x)
      · have hi2 := (hw'.out x hlt).1 hi
        have o1 := (og_is hi).1
        have o2 := (og_is hi2).1
        have hc := hid (heY.out x hlt hi wr hby.out)
        have hstep := hid (lb_step_yes hi)
        obtain ⟨p, hp⟩ : ∃ p, og V R (2 * x) = p := ⟨_, rfl⟩
        obtain ⟨q, hq⟩ : ∃ q, og V R (2 * x + 1) = q := ⟨_, rfl⟩
        rw [hp] at o1 hstep hc
        rw [hq] at o2 hstep hc
        clear hi hi2 hp hq
        go_wp2_with fail
        refine hc.out.mono ?_
        rintro e w3 ⟨rfl, b3⟩
        have hst3 := hid (hst.out.more b3)
        clear b3 hc
        go_wp2_with fail
        refine (hst3.out.join p q o1 o2).mono ?_
        rintro e w6 ⟨t, rfl, hg6⟩
        rw [← hstep.out] at hg6
        replace hg6 := hid hg6
        go_wp2_with fail
        go_roundw
        case rel => exact ⟨x + 1, by omega, by go_num, hg6⟩
        case measure => simp [intOf]; omega
      · have hc := hid (heN.out x hlt hi wr hby.out)
        have hstep := hid (lb_step_no hi)
        rw [← hstep.out] at hst
        clear hi hstep
        go_wp2_with fail
        refine hc.out.mono ?_
        rintro e w3 ⟨rfl, b3⟩
        have hst3 := hid (hst.out.more b3)
        clear b3 hc
        go_wp2_with fail
        go_roundw
        case rel => exact ⟨x + 1, by omega, by go_num, hst3⟩
        case measure => simp [intOf]; omega
    · obtain rfl : x = E := by omega
      have v1 : decide ((x : Int) < (x : Int)) = false := decide_eq_false (by omega)
      go_wp2_with fail
      go_ret2
      exact ⟨_, rfl, hst.out⟩
end
end Go.Proofs.YtghpjljnbdjmaaaGreatDoor
