/- 'look', walked: are there these items? -/
import Derived.Test.YtpelpcplagfdiaaDoorReach
namespace Go.Proofs.YtpelpcplagfdiaaDoor
open Go.RowKit
set_option linter.unusedVariables false

/-- The block holds these numbers. -/
def Nums (w : World) (b : Nat) (xs : List Int) : Prop := w.heap[b]? = some (.cells (xs.map (fun z => Value.int .i64 z)).toArray 3 (0, 0))

theorem Nums.cell {w : World} {b j : Nat} {xs : List Int} {z : Int} (h : Nums w b xs) (hz : xs[j]? = some z) : w.cell? ⟨b, j, none⟩ = some (.int .i64 z) := by
  unfold World.cell?
  rw [h]
  simp [hz]

set_option maxRecDepth 100000 in
set_option maxHeartbeats 1000000 in
theorem look_nil (s : Value) (w : World) : Calls Tryd.prog 19 #[.pointer none, s] w fun e w' => e = .returned (.iface 50 (.int .i64 1)) ∧ w = w' := by
  go_enter Tryd.func19, Tryd.ntmps19
  go_wp2_with fail
  go_ret
  exact ⟨rfl, rfl⟩

set_option maxRecDepth 100000 in
set_option maxHeartbeats 1000000 in
theorem look_bad (fb b n : Nat) (xs : List Int) (w : World) (hn : w.cell? ⟨fb, 0, none⟩ = some (.int .i64 (n : Int))) (hb : Nums w b xs) (hl : xs.length ≤ 2) (hbad : ¬ ∀ z ∈ xs, 0 ≤ z ∧ z < (n : Int)) :
    Calls Tryd.prog 19 #[.pointer (some ⟨fb, 0, none⟩), .slice (some ⟨b, 0, none⟩) xs.length xs.length] w fun e w' => e = .returned (.iface 50 (.int .i64 12)) ∧ w = w' := by
  have hbh := hid hb
  have hbad := hid hbad
  clear hb
  go_enter Tryd.func19, Tryd.ntmps19
  go_wp2_with fail
  go_loop [6, 14] (fun _ u => ∃ j : Nat, j ≤ xs.length ∧ u = .int .i64 (j : Int) ∧ Hid (∀ k z, k < j → xs[k]? = some z → 0 ≤ z ∧ z < (n : Int))) (fun _ u => xs.length - (intOf u).toNat)
  case atStart => exact ⟨0, by omega, by go_num, fun k z hk => by omega⟩
  case round =>
    obtain ⟨j, hj, rfl, hok⟩ := hrel
    rcases Nat.lt_or_ge j xs.length with hlt | hge
    · obtain ⟨z, hz⟩ : ∃ z, xs[j]? = some z := ⟨_, List.getElem?_eq_getElem hlt⟩
      have hc := hbh.out.cell hz
      have hzh := hid hz
      clear hz
      by_cases h0 : z < 0
      · have t1 : decide (z < 0) = true := decide_eq_true h0
        go_wp2_with fail
        go_ret
        exact ⟨rfl, rfl⟩
      · have t1 : decide (z < 0) = false := decide_eq_false h0
        by_cases h1 : (n : Int) ≤ z
        · have t2 : decide ((n : Int) ≤ z) = true := decide_eq_true h1
          go_wp2_with fail
          go_ret
          exact ⟨rfl, rfl⟩
        · have t2 : decide ((n : Int) ≤ z) = false := decide_eq_false h1
          go_wp2_with fail
          go_round
          case rel =>
            refine ⟨j + 1, by omega, by go_num, fun k z' hk hz' => ?_⟩
            rcases Nat.lt_or_ge k j with h2 | h2
            · exact hok.out k z' h2 hz'
            · obtain rfl : k = j := by omega
              rw [hzh.out] at hz'
              cases hz'
              omega
          case measure => simp [intOf]; omega
    · refine absurd (fun z hz => ?_) hbad.out
      obtain ⟨k, hk⟩ := List.mem_iff_getElem?.1 hz
      exact hok.out k z (by have := (List.getElem?_eq_some_iff.1 hk).1; omega) hk

set_option maxRecDepth 100000 in
set_option maxHeartbeats 2000000 in
theorem look_ok (fb nb b n N : Nat) (T : Tb) (xs : List Int) (w : World) (h : Fo w fb nb n N T) (hz : ∀ i, N ≤ i → T i = nd0) (hN1 : 1 ≤ N) (hNn : N ≤ n + 1) (hn : n ≤ 8388608) (hb : Nums w b xs) (hl : xs.length ≤ 2) (hok : ∀ z ∈ xs, 0 ≤ z ∧ z < (n : Int)) :
    Calls Tryd.prog 19 #[.pointer (some ⟨fb, 0, none⟩), .slice (some ⟨b, 0, none⟩) xs.length xs.length] w fun e w' => e = .returned .nilIface ∧ ∃ nb' N', Fo w' fb nb' n N' T ∧ N ≤ N' ∧ N' ≤ n + 1 ∧ (∀ z ∈ xs, z + 1 < (N' : Int)) ∧ (nb' = nb ∨ w.heap.size ≤ nb') ∧ Turned (fun k => k = fb) w w' := by
  have c0 := h.c0
  have hbne : b ≠ fb := fun e => by
    have h1 := h.self
    rw [← e, hb] at h1
    injection h1 with h1
    injection h1 with _ h1
    cases h1
  have hh := hid h
  have hbh := hid hb
  have hokh := hid hok
  have hzh := hid hz
  clear h hb hok hz
  go_enter Tryd.func19, Tryd.ntmps19
  go_wp2_with fail
  go_loop [6, 14] (fun _ u => ∃ j : Nat, j ≤ xs.length ∧ u = .int .i64 (j : Int)) (fun _ u => xs.length - (intOf u).toNat)
  case atStart => exact ⟨0, by omega, by go_num⟩
  case round =>
    obtain ⟨j, hj, rfl⟩ := hrel
    rcases Nat.lt_or_ge j xs.length with hlt | hge
    · obtain ⟨z, hz⟩ : ∃ z, xs[j]? = some z := ⟨_, List.getElem?_eq_getElem hlt⟩
      have hc := hbh.out.cell hz
      have hzz := hokh.out z (List.mem_of_getElem? hz)
      have t1 : decide (z < 0) = false := decide_eq_false (by omega)
      have t2 : decide ((n : Int) ≤ z) = false := decide_eq_false (by omega)
      clear hz hzz
      go_wp2_with fail
      go_round
      case rel => exact ⟨j + 1, by omega, by go_num⟩
      case measure => simp [intOf]; omega
    · obtain rfl : j = xs.length := by omega
      clear hge hj
      go_wp2_with fail
      go_loopw [8, 32] (fun _ u wr => ∃ j : Nat, j ≤ xs.length ∧ u = .int .i64 (j : Int) ∧ Hid (∃ nb' N', Fo wr fb nb' n N' T ∧ N ≤ N' ∧ N' ≤ n + 1 ∧ (∀ k z, k < j → xs[k]? = some z → z + 1 < (N' : Int)) ∧ (nb' = nb ∨ w.heap.size ≤ nb') ∧ Turned (fun k => k = fb) w wr)) (fun _ u _ => xs.length - (intOf u).toNat)
      case atStart => exact ⟨0, by omega, by go_num, ⟨nb, N, hh.out, Nat.le_refl _, hNn, fun k z hk => by omega, Or.inl rfl, Turned.refl _ _⟩⟩
      case round =>
        obtain ⟨j, hj, rfl, hst⟩ := hrel
        obtain ⟨nb', N', g1, g2, g3, g4, g5, g6⟩ := hst.out
        rcases Nat.lt_or_ge j xs.length with hlt | hge
        · obtain ⟨z, hz⟩ : ∃ z, xs[j]? = some z := ⟨_, List.getElem?_eq_getElem hlt⟩
          obtain ⟨x, rfl⟩ : ∃ x : Nat, z = (x : Int) := ⟨z.toNat, by have := hokh.out z (List.mem_of_getElem? hz); omega⟩
          have hx := hokh.out _ (List.mem_of_getElem? hz)
          have hc : wr.cell? ⟨b, j, none⟩ = some (.int .i64 (x : Int)) := g6.cell (hbh.out.cell hz) hbne
          have hzz := hid hz
          have G := hid (And.intro g1 (And.intro g4 (And.intro g5 g6)))
          clear hz g1 g4 g5 g6 hst c0
          go_wp2_with fail
          refine (reach_ok fb nb' n N' x T _ G.out.1 (fun i hi => hzh.out i (by omega)) (by omega) g3 hn (by omega)).mono ?_
          rintro e w2 ⟨rfl, nb2, N2, r1, r2, r3, r4, r5, r6⟩
          have st2 : Hid (∃ nb' N', Fo w2 fb nb' n N' T ∧ N ≤ N' ∧ N' ≤ n + 1 ∧ (∀ k z, k < j + 1 → xs[k]? = some z → z + 1 < (N' : Int)) ∧ (nb' = nb ∨ w.heap.size ≤ nb') ∧ Turned (fun k => k = fb) w w2) := by
            refine ⟨nb2, N2, r1, by omega, r3, fun k z' hk hz' => ?_, ?_, G.out.2.2.2.trans r6⟩
            · rcases Nat.lt_or_ge k j with h2 | h2
              · have := G.out.2.1 k z' h2 hz'; omega
              · obtain rfl : k = j := by omega
                rw [hzz.out] at hz'
                cases hz'
                omega
            · rcases r5 with rfl | r5
              · exact G.out.2.2.1
              · exact Or.inr (by have := G.out.2.2.2.size; omega)
          clear r1 r4 r5 r6
          go_wp2_with fail
          go_roundw
          case rel => exact ⟨j + 1, by omega, by go_num, st2⟩
          case measure => simp [intOf]; omega
        · have fin : Hid (∃ nb' N', Fo wr fb nb' n N' T ∧ N ≤ N' ∧ N' ≤ n + 1 ∧ (∀ z ∈ xs, z + 1 < (N' : Int)) ∧ (nb' = nb ∨ w.heap.size ≤ nb') ∧ Turned (fun k => k = fb) w wr) := ⟨nb', N', g1, g2, g3, fun z hz => by
            obtain ⟨k, hk⟩ := List.mem_iff_getElem?.1 hz
            exact g4 k z (by have := (List.getElem?_eq_some_iff.1 hk).1; omega) hk, g5, g6⟩
          clear g1 g4 g5 g6 hst
          go_wp2_with fail
          go_ret
          exact ⟨rfl, fin.out⟩

end Go.Proofs.YtpelpcplagfdiaaDoor
