/- Numbers held against one another. -/
import Derived.Test.YtiiklklokkcnpaaDoorNew4
import Derived.Test.YtiiklklokkcnpaaDoorList4
namespace Go.Proofs.YtiiklklokkcnpaaDoor
open Go.RowKit
set_option linter.unusedVariables false

/-- The value is a slice of these numbers. -/
def Ns (w : World) (v : Value) (zs : List Int) : Prop := ∃ ad cap, v = .slice ad zs.length cap ∧ (ad = none → zs = []) ∧ zs.length ≤ 4294967296 ∧ ∀ a, ad = some a → ∀ (j : Nat) z, zs[j]? = some z → w.cell? (a.add j) = some (.int .i64 z)

theorem Ns.below {w w' : World} {v : Value} {zs : List Int} (h : Ns w v zs) (hb : Below w.heap.size w w') : Ns w' v zs := by
  obtain ⟨ad, cap, h1, h2, h3, h4⟩ := h
  refine ⟨ad, cap, h1, h2, h3, fun a ha j z hz => ?_⟩
  have hc := h4 a ha j z hz
  rw [hb.cell (World.block_lt_of_cell? w _ hc)]
  exact hc

/-- The items of nodes. -/
def items (l : List Nat) : List Int := l.map (fun d : Nat => (d : Int) - 1)

theorem items_length (l : List Nat) : (items l).length = l.length := by simp [items]

theorem Rw.ns {w : World} {v : Value} {l : List Nat} (h : Rw w v l) (hl : l.length ≤ 4294967296) : Ns w v (items l) := by
  obtain ⟨ad, cap, h1, h2, h3⟩ := h.form
  refine ⟨ad, cap, by rw [items_length]; exact h1, fun e => by rw [h2 e]; rfl, by rw [items_length]; exact hl, fun a ha j z hz => ?_⟩
  obtain ⟨g, rfl, hc⟩ := h3 a ha
  unfold items at hz
  rw [List.getElem?_map] at hz
  cases hd : l[j]? with
  | none => rw [hd] at hz; cases hz
  | some d =>
    rw [hd] at hz
    rw [show (⟨g, 0, none⟩ : Addr).add j = ⟨g, j, none⟩ from by unfold Addr.add; split <;> simp_all, hc j d hd]
    simp at hz
    subst hz
    rfl

set_option maxRecDepth 100000 in
set_option maxHeartbeats 2000000 in
theorem ints_ok (u v : Value) (zs : List Int) (w : World) (ha : Ns w u zs) (hb : Ns w v zs) :
    Calls Tryd.prog 27 #[u, v] w fun e w' => e = .returned (.bool true) ∧ Below w.heap.size w w' := by
  obtain ⟨a, ca, rfl, na, hl, ha⟩ := ha
  obtain ⟨b, cb, rfl, nb, _, hb⟩ := hb
  have ha := hid ha
  have hb := hid hb
  go_enter Tryd.func27, Tryd.ntmps27
  go_wp2_with fail
  go_loopw [5] (fun u wr => ∃ j : Nat, j ≤ zs.length ∧ u = .int .i64 (j : Int) ∧ Below w.heap.size w wr)
    (fun u _ => zs.length - (intOf u).toNat)
  case atStart => exact ⟨0, by omega, by go_num, Below.refl _ _⟩
  case round =>
    obtain ⟨j, hj, rfl, hbr⟩ := hrel
    rcases Nat.lt_or_ge j zs.length with hlt | hge
    · obtain ⟨z, hz⟩ : ∃ z, zs[j]? = some z := ⟨_, List.getElem?_eq_getElem hlt⟩
      cases a with
      | none => have := na rfl; subst this; simp at hlt
      | some a =>
        cases b with
        | none => have := nb rfl; subst this; simp at hlt
        | some b =>
          have hca : wr.cell? (a.add j) = some (.int .i64 z) := by
            have hc := ha.out a rfl j z hz
            rw [hbr.cell (World.block_lt_of_cell? w _ hc)]; exact hc
          have hcb : wr.cell? (b.add j) = some (.int .i64 z) := by
            have hc := hb.out b rfl j z hz
            rw [hbr.cell (World.block_lt_of_cell? w _ hc)]; exact hc
          clear hz
          go_wp2_with fail
          go_region
          go_wp2_with fail
          go_roundw
          case rel => exact ⟨j + 1, by omega, by go_num, hbr.drew⟩
          case measure => simp [intOf]; omega
    · go_wp2_with fail
      go_ret
      exact ⟨rfl, hbr⟩

end Go.Proofs.YtiiklklokkcnpaaDoor
