/- 'grown', walked: a Forest by some acts, and the values. -/
import Derived.Test.YtbdcddkiioehcabDoorLaws6
namespace Go.Proofs.YtbdcddkiioehcabDoor
open Go.RowKit
set_option linter.unusedVariables false

theorem infoI64 : (Tryd.prog.info? 2).map (fun i => (i.zero, i.size, i.bytes)) = some (some (.int .i64 0), 1, 8) := by kernel_rfl

set_option maxRecDepth 100000 in
theorem make_vals (M : Nat) (hM : M ≤ 8388700) (w : World) :
    (Instr.makeSlice 26 (.int .i64 (M : Int)) (.int .i64 (M : Int))).run Tryd.prog w = .ok (.slice (some ⟨w.heap.size, 0, none⟩) M M) (w.alloc (.cells (Array.replicate M (.int .i64 0)) 2)) := by
  obtain ⟨i0, hi, hz0, hz1, hz2⟩ := info_parts infoI64
  have h := run_make (P := Tryd.prog) w 26 2 i0 _ Tryd.underlying26 hi hz0 .i64 .i64 M M (by omega) (Int.le_refl _) (by rw [hz2]; omega) (by omega)
  rw [h]
  simp only [Int.toNat_natCast, hz1]
  congr 3
  apply Array.ext
  · simp [madeCells]
  · intro j h1 h2
    simp [madeCells, Value.cells, Nat.mod_one]

theorem vb_new (w : World) (K : Nat) : VB (w.alloc (.cells (Array.replicate K (.int .i64 0)) 2)) w.heap.size K zero := by
  unfold VB
  rw [heap_alloc_new]
  congr 2
  apply Array.ext
  · simp [vals]
  · intro j h1 h2
    simp [vals, zero]

set_option maxRecDepth 100000 in
set_option maxHeartbeats 4000000 in
theorem grown_ok (K : Nat) (ad : Option Addr) (qs : List Act4) (cap : Nat) (w : World) (hK1 : 1 ≤ K) (hK2 : K ≤ 100) (hq : Acts w ad qs) :
    Calls Tryd.prog 4 #[.int .i64 (K : Int), .slice ad qs.length cap] w fun e w' => ∃ fb vb, e = .returned (.tuple #[.pointer (some ⟨fb, 0, none⟩), .slice (some ⟨vb, 0, none⟩) K K]) ∧ ∃ v adj, Rng v ∧ FS w.heap.size w fb K v adj w' ∧ VB w' vb K v := by
  have hql := hq.bound
  have hq := hid hq
  have hmk := make_vals K (by omega)
  go_enter Tryd.func4, Tryd.ntmps4
  go_wp2_with fail
  refine (new_ok K w (by omega) (by omega)).mono ?_
  rintro e w1 ⟨fb, rfl, h1⟩
  have hsz := h1.below.size
  have st1 : Hid (∃ v adj, Rng v ∧ FS w.heap.size w fb K v adj (w1.alloc (.cells (Array.replicate K (.int .i64 0)) 2)) ∧ VB (w1.alloc (.cells (Array.replicate K (.int .i64 0)) 2)) w1.heap.size K v) := ⟨zero, noE, rng_zero, h1.alloc _, vb_new w1 K⟩
  have hvl : Hid (w.heap.size ≤ w1.heap.size) := hid hsz
  clear h1 hsz
  go_wp2_with fail
  generalize w1.alloc (.cells (Array.replicate K (.int .i64 0)) 2) = w2 at st1 ⊢
  generalize w1.heap.size = vb at st1 hvl ⊢
  clear hmk
  go_loopw [9, 10, 11, 60] (fun u _ _ _ wr => ∃ t : Nat, t ≤ qs.length ∧ t ≤ 80 ∧ u = .int .i64 (t : Int) ∧ Hid (∃ v adj, Rng v ∧ FS w.heap.size w fb K v adj wr ∧ VB wr vb K v)) (fun u _ _ _ _ => 80 - (intOf u).toNat)
  case atStart => exact ⟨0, by omega, by omega, by go_num, st1⟩
  case round =>
    clear st1
    obtain ⟨t, ht1, ht2, rfl, hst⟩ := hrel
    by_cases hgo : t < qs.length ∧ t < 80
    · obtain ⟨hgo1, hgo2⟩ := hgo
      obtain ⟨q, hqt⟩ : ∃ q, qs[t]? = some q := ⟨_, List.getElem?_eq_getElem hgo1⟩
      obtain ⟨v, adj, hrg, h1, hvb⟩ := hst.out
      cases ad with
      | none => have := hq.out.nil rfl; subst this; simp at hgo1
      | some a0 =>
        obtain ⟨c0, c1, c2, c3⟩ := (hq.out.below h1.below).at hqt
        have hqv := hid (hq.out.rng q (List.mem_of_getElem? hqt))
        have h1 := hid h1
        have hvb := hid hvb
        have hrg := hid hrg
        obtain ⟨a, ha, haK⟩ := mod_inN q.a K hK1 (by omega)
        obtain ⟨b, hb, hbK⟩ := mod_inN q.b K hK1 (by omega)
        obtain ⟨κ, hκ⟩ : ∃ κ, q.k.tmod 5 = κ := ⟨_, rfl⟩
        have i1 : (0 : Int) ≤ (t : Int) := by omega
        have i2 : (t : Int) < (qs.length : Int) := by omega
        have j1 : (0 : Int) ≤ (a : Int) := by omega
        have j2 : (a : Int) < (K : Int) := by omega
        have hqt := hid hqt
        clear hst
        go_wp2_with fail
        go_region
        rw [ha, hb]
        have h2 := hid (h1.out.drew)
        have vb2 : Hid (VB wr.drew vb K v) := hid hvb.out
        generalize hwd : wr.drew = w2 at h2 vb2 ⊢
        have d0 : w2.cell? (a0.add (t * 4)) = some (.int .i64 q.k) := by rw [← hwd]; exact c0
        have d3 : w2.cell? ⟨(a0.add (t * 4)).block, (a0.add (t * 4)).off + 3, none⟩ = some (.int .i64 q.v) := by rw [← hwd]; exact c3
        clear h1 hvb c0 c1 c2 c3 ha hb hwd
        by_cases k0 : κ = 0
        · have k0' : (κ == 0) = true := by rw [k0]; rfl
          clear k0
          go_wp2_with fail
          refine (h2.out.cutAny a b haK hbK).mono ?_
          rintro e w3 ⟨r3, rfl, ⟨adj3, h3⟩, kp⟩
          have st4 : Hid (∃ v adj, Rng v ∧ FS w.heap.size w fb K v adj w3 ∧ VB w3 vb K v) := ⟨_, _, hrg.out, h3, vb2.out.keep kp⟩
          clear h2 h3 d0 d3 hκ vb2 kp
          go_wp2_with fail
          go_roundw
          case rel => exact ⟨t + 1, by omega, by omega, by go_num, st4⟩
          case measure => simp [intOf]; omega
        · have k0' : (κ == 0) = false := by rw [beq_eq_false_iff_ne]; exact k0
          clear k0
          by_cases k1 : κ = 1
          · have k1' : (κ == 1) = true := by rw [k1]; rfl
            clear k1
            go_wp2_with fail
            refine (h2.out.set a haK q.v).mono ?_
            rintro e w3 ⟨rfl, h3, kp⟩
            have vb3 := vb2.out.keep kp
            have e3 := ((hq.out.below h3.below).at hqt.out).2.2.2
            have cv := vb3.cell a haK
            have fv := vb3.fro a
            have h4 := h3.other vb3 (by decide) (by decide) hvl.out a (.int .i64 q.v)
            have vb4 := vb3.set a q.v
            have st4 : Hid (∃ v adj, Rng v ∧ FS w.heap.size w fb K v adj (w3.setCell ⟨vb, a, none⟩ (.int .i64 q.v)) ∧ VB (w3.setCell ⟨vb, a, none⟩ (.int .i64 q.v)) vb K v) := ⟨_, _, rng_set hrg.out hqv.out, h4, vb4⟩
            clear h2 h3 d0 d3 hκ vb2 kp vb3 h4 vb4
            go_wp2_with fail
            generalize w3.setCell ⟨vb, a, none⟩ (.int .i64 q.v) = w4 at st4 ⊢
            go_roundw
            case rel => exact ⟨t + 1, by omega, by omega, by go_num, st4⟩
            case measure => simp [intOf]; omega
          · have k1' : (κ == 1) = false := by rw [beq_eq_false_iff_ne]; exact k1
            clear k1
            go_wp2_with fail
            refine (h2.out.linkAny a b haK hbK).mono ?_
            rintro e w3 ⟨r3, rfl, ⟨adj3, h3⟩, kp⟩
            have st4 : Hid (∃ v adj, Rng v ∧ FS w.heap.size w fb K v adj w3 ∧ VB w3 vb K v) := ⟨_, _, hrg.out, h3, vb2.out.keep kp⟩
            clear h2 h3 d0 d3 hκ vb2 kp
            go_wp2_with fail
            go_roundw
            case rel => exact ⟨t + 1, by omega, by omega, by go_num, st4⟩
            case measure => simp [intOf]; omega
    · have hstop : qs.length ≤ t ∨ (t < qs.length ∧ 80 ≤ t) := by omega
      clear hgo
      rcases hstop with hstop | ⟨hstop1, hstop2⟩
      all_goals
        go_wp2_with fail
        go_ret2
        obtain ⟨v, adj, x1, x2, x3⟩ := hst.out
        exact ⟨fb, vb, rfl, v, adj, x1, x2, x3⟩

end Go.Proofs.YtbdcddkiioehcabDoor
