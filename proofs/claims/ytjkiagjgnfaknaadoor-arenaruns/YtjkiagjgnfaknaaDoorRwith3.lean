/- The reference's Find and with. -/
import Derived.Test.YtjkiagjgnfaknaaDoorStand3
namespace Go.Proofs.YtjkiagjgnfaknaaDoor
open Go.RowKit
set_option linter.unusedVariables false

theorem infoRPlace : (Tryd.prog.info? 50).map (fun i => (i.zero, i.size, i.bytes)) = some (some (.agg #[.int .u32 0, .int .i64 0]), 2, 16) := by kernel_rfl

theorem RB.ofRow {w : World} {base lo : Nat} {v : Value} {ps : List (Int × Int)} (h : w.ownsRow base 50 2 v ps.length (pcs ps)) (hn : ∀ (j : Nat) p, ps[j]? = some p → 0 ≤ p.1 ∧ p.1 < 4294967296) (hl : lo ≤ base) :
    ∃ ad cap, v = .slice ad ps.length cap ∧ (ad = none → cap = 0) ∧ RB lo w ad ps := by
  have hc := fun g => h.cells (g := g)
  obtain ⟨_, h2⟩ := h
  rcases h2 with ⟨rfl, h0⟩ | ⟨g, cap, cur, rfl, hg, hh, hc1, hc2, hc3, hc4⟩
  · have : ps = [] := List.eq_nil_of_length_eq_zero h0
    subst this
    exact ⟨none, 0, rfl, fun _ => rfl, ⟨fun _ => rfl, by simp, by simp, by simp⟩, by simp⟩
  · refine ⟨_, cap, rfl, by simp, ⟨by simp, by unfold maxLen at hc2; omega, hn, fun a ha j p hp => ?_⟩, fun a ha => ?_⟩
    · cases ha
      obtain ⟨h1, h2⟩ := pcs_get ps j p hp
      exact ⟨hc _ rfl _ _ h1, hc _ rfl _ _ h2⟩
    · cases ha
      exact ⟨by simp; omega, cur, _, hh⟩

theorem pcs_two_newR (w : World) (a s : Int) : ∀ j u, (pcs [(a, s)])[j]? = some u → (w.alloc (.cells #[.int .u32 a, .int .i64 s] 50)).cell? ((⟨w.heap.size, 0, none⟩ : Addr).add j) = some u := by
  intro j u hu
  rw [add0]
  have hn := heap_alloc_new w (.cells #[.int .u32 a, .int .i64 s] 50)
  unfold World.cell?
  rw [hn]
  simpa [pcs] using hu

set_option maxRecDepth 100000 in
set_option maxHeartbeats 4000000 in
theorem rfind_ok (K : Nat) (ad : Option Addr) (ps : List (Int × Int)) (cap : Nat) (age : Int) (x : Nat) (w : World) (h : Prow w ad ps) (hl : ps.length ≤ K) (hK : K ≤ 1000) (hx : x < 4294967296) (c : Nat) (hc : (K ≤ x ∧ c = 12) ∨ (x < K ∧ atP ps x ≠ (age, 1) ∧ c = 13) ∨ (atP ps x = (age, 1) ∧ c = 0)) :
    Calls Tryd.prog 11 #[ra K ad ps.length cap, .int .u32 age, .int .u32 (x : Int)] w fun e w' => e = .returned (.int .i64 (c : Int)) ∧ Below w.heap.size w w' := by
  have hb0 : Below w.heap.size w (w.alloc (.cells #[.int .i64 K, .slice ad ps.length cap] 33)) := (Below.refl _ _).alloc (Nat.le_refl _) _
  have hp0 := hid (h.below hb0)
  replace hb0 := hid hb0
  clear h
  by_cases hKx : K ≤ x
  · obtain rfl : c = 12 := by
      rcases hc with ⟨_, h⟩ | ⟨h, _⟩ | ⟨h, _⟩
      · exact h
      · omega
      · have := live_lt (show (atP ps x).2 = 1 by rw [h]); omega
    have t1 : decide ((K : Int) ≤ (x : Int)) = true := decide_eq_true (by omega)
    have t1' : decide (K ≤ x) = true := decide_eq_true (by omega)
    clear hc
    go_enter Tryd.func11, Tryd.ntmps11
    go_wp2_with fail
    go_ret
    exact ⟨rfl, hb0.out⟩
  · have t1 : decide ((K : Int) ≤ (x : Int)) = false := decide_eq_false (by omega)
    have t1' : decide (K ≤ x) = false := decide_eq_false (by omega)
    by_cases hlx : ps.length ≤ x
    · have e0 := atP_none hlx
      obtain rfl : c = 13 := by
        rcases hc with ⟨h, _⟩ | ⟨_, _, h⟩ | ⟨h, _⟩
        · omega
        · exact h
        · rw [e0] at h; simp at h
      have t2 : decide ((ps.length : Int) ≤ (x : Int)) = true := decide_eq_true (by omega)
      have t2' : decide (ps.length ≤ x) = true := decide_eq_true (by omega)
      clear hc e0
      go_enter Tryd.func11, Tryd.ntmps11
      go_wp2_with fail
      go_ret
      exact ⟨rfl, hb0.out⟩
    · have t2 : decide ((ps.length : Int) ≤ (x : Int)) = false := decide_eq_false (by omega)
      have t2' : decide (ps.length ≤ x) = false := decide_eq_false (by omega)
      obtain ⟨⟨a, s⟩, hp⟩ : ∃ z, ps[x]? = some z := ⟨_, List.getElem?_eq_getElem (by omega)⟩
      have e0 := atP_some hp
      have hxl : x < ps.length := by omega
      cases ad with
      | none => have := hp0.out.nil rfl; subst this; simp at hxl
      | some ad =>
        have hc0 := hp0.out.first hp
        have hc1 := hp0.out.second hp
        rw [e0] at hc
        clear hp e0 hp0
        by_cases hs : s = 1
        · subst hs
          by_cases ha : a = age
          · subst ha
            obtain rfl : c = 0 := by
              rcases hc with ⟨h, _⟩ | ⟨_, h, _⟩ | ⟨_, h⟩
              · omega
              · exact absurd rfl h
              · exact h
            clear hc
            go_enter Tryd.func11, Tryd.ntmps11
            go_wp2_with fail
            go_ret
            exact ⟨rfl, hb0.out⟩
          · obtain rfl : c = 13 := by
              rcases hc with ⟨h, _⟩ | ⟨_, _, h⟩ | ⟨h, _⟩
              · omega
              · exact h
              · exact absurd (congrArg Prod.fst h) ha
            have t4 : (a == age) = false := by simpa using ha
            have t4' : (a != age) = true := by simpa using ha
            clear hc
            go_enter Tryd.func11, Tryd.ntmps11
            go_wp2_with fail
            go_ret
            exact ⟨rfl, hb0.out⟩
        · obtain rfl : c = 13 := by
            rcases hc with ⟨h, _⟩ | ⟨_, _, h⟩ | ⟨h, _⟩
            · omega
            · exact h
            · exact absurd (congrArg Prod.snd h) hs
          have t3 : (s == 1) = false := by simpa using hs
          have t3' : (s != 1) = true := by simpa using hs
          clear hc
          go_enter Tryd.func11, Tryd.ntmps11
          go_wp2_with fail
          go_ret
          exact ⟨rfl, hb0.out⟩

end Go.Proofs.YtjkiagjgnfaknaaDoor
