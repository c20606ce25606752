/- The document's Check, walked. -/
import Derived.Test.YtmmpkhoejcfdmaaDoorHas19
namespace Go.Proofs.YtmmpkhoejcfdmaaDoor
open Go.RowKit
set_option linter.unusedVariables false

theorem idxR (a b c d : Int) (w : World) : (Instr.index 25 (.agg #[.int .u32 a, .int .u32 b, .int .u32 c, .int .u32 d]) (.int .i64 0)).run Tryd.prog w = .ok (.agg #[.int .u32 a, .int .u32 b]) w := by kernel_rfl

set_option maxRecDepth 100000 in
set_option maxHeartbeats 8000000 in
theorem rcheck_some {p : Pt} (c : Cm) (hp : pt c.code = some p) (ad : Option Addr) (n cap : Nat) (hn : c.d.length = n) (w : World) :
    Calls Tryd.prog 11 #[cv c (.slice ad n cap)] w fun e w' => e = .returned (.int .i64 (chk c)) ∧ Below w.heap.size w w' := by
  obtain ⟨E, hE⟩ : ∃ E, chk c = E := ⟨_, rfl⟩
  rw [hE]
  rw [chk_some hp] at hE
  have hk := pt_lt hp
  have k1 : ¬ c.code < 1 := by omega
  have k2 : ¬ (17 : Int) < c.code := by omega
  have hh := has_some hp
  obtain ⟨K, a0, p0, a1, p1, s0, s1, wt, l⟩ := c
  dsimp only at hn hE hp hh k1 k2
  clear hk
  rcases pt_eight hp with rfl | rfl | rfl | rfl | rfl | rfl | rfl | rfl
  all_goals
    clear hp
    have hl : Hid (l = [] ↔ n = 0) := by rw [← List.length_eq_zero_iff, hn]; exact Iff.rfl
    rw [hn] at hE
    replace hE := hid hE
    clear hn
    have hB1 := RB.mk (new_of w (ccs ⟨K, a0, p0, a1, p1, s0, s1, wt, l⟩ (.slice ad n cap)) 29)
    have b1 := balloc w (.cells (ccs ⟨K, a0, p0, a1, p1, s0, s1, wt, l⟩ (.slice ad n cap)) 29)
    go_enter Tryd.func11, Tryd.ntmps11
    go_wp2_with fail
    refine (hh _).mono ?_
    rintro e w2 ⟨rfl, b2⟩
    have hB2 := hB1.more b2
    have bz2 := hid (b1.trans (b2.mono b1.size))
    obtain ⟨c0, c1, c2, c3, c4, c5, c6, c7, c8⟩ := hB2.cells
    replace hB2 := hid hB2
    clear b2 hB1 b1 hh
    simp (decide := true) only [sd, if_true, if_false]
    go_wp2_with fail
    refine wp_loop_rounds 3 ?_
    rw [rounds_succ]
    go_wp2_with fail
    all_goals try (rw [rounds_succ]; go_wp2_with fail)
    all_goals try (rw [rounds_succ]; go_wp2_with fail)
    all_goals try (refine wp_loop_rounds 3 ?_; rw [rounds_succ]; go_wp2_with fail)
    all_goals try (rw [rounds_succ]; go_wp2_with fail)
    all_goals try (rw [rounds_succ]; go_wp2_with fail)
    all_goals
      go_ret
      refine ⟨congrArg (fun z => Ending.returned (Value.int .i64 z)) ?_, bz2.out⟩
      have e := hE.out
      have hl' := hl.out
      rw [← e]
      clear hE hl e c0 c1 c2 c3 c4 c5 c6 c7 c8 bz2
      repeat' split
      all_goals first | rfl | (exfalso; simp only [fit_iff, all_iff] at *; simp_all; try omega)

end Go.Proofs.YtmmpkhoejcfdmaaDoor
