/- Numbers held against one another; 'sure' of the laws. -/
import Derived.Test.YtnkgpjjlgbggcaaDoorNew6
import Derived.Test.YtnkgpjjlgbggcaaDoorErrAs
namespace Go.Proofs.YtnkgpjjlgbggcaaDoor
open Go.RowKit
set_option linter.unusedVariables false

/-- The value is a slice of these numbers. -/
def Ns (w : World) (v : Value) (zs : List Int) : Prop := ∃ ad cap, v = .slice ad zs.length cap ∧ (ad = none → zs = []) ∧ zs.length ≤ 4294967296 ∧ ∀ a, ad = some a → ∀ (j : Nat) z, zs[j]? = some z → w.cell? (a.add j) = some (.int .i64 z)

theorem Ns.below {w w' : World} {v : Value} {zs : List Int} (h : Ns w v zs) (hb : Below w.heap.size w w') : Ns w' v zs := by
  obtain ⟨ad, cap, h1, h2, h3, h4⟩ := h
  refine ⟨ad, cap, h1, h2, h3, fun a ha j z hz => ?_⟩
  have hc := h4 a ha j z hz
  rw [hb.cell (World.block_lt_of_cell? w _ hc)]
  exact hc

/-- The items of nodes. -/
def items (l : List Nat) : List Int := l.map (fun d : Nat => (d : Int) - 1)

theorem items_length (l : List Nat) : (items l).length = l.length := by simp [items]

theorem Rb.ns {w : World} {v : Value} {l : List Nat} (h : Rb w v l) (hl : l.length ≤ 4294967296) : Ns w v (items l) := by
  obtain ⟨b, rfl, hb⟩ := h
  refine ⟨_, _, by rw [items_length], fun e => (by cases e), by rw [items_length]; exact hl, fun a ha j z hz => ?_⟩
  cases ha
  unfold items at hz
  rw [List.getElem?_map] at hz
  cases hd : l[j]? with
  | none => rw [hd] at hz; cases hz
  | some d =>
    rw [hd] at hz
    rw [show (⟨b, 0, none⟩ : Addr).add j = ⟨b, j, none⟩ from by unfold Addr.add; split <;> simp_all]
    unfold World.cell?
    rw [hb]
    simp at hz
    subst hz
    simp [hd, itm]

set_option maxRecDepth 100000 in
set_option maxHeartbeats 2000000 in
theorem ints_ok (u v : Value) (zs : List Int) (w : World) (ha : Ns w u zs) (hb : Ns w v zs) :
    Calls Tryd.prog 34 #[u, v] w fun e w' => e = .returned (.bool true) ∧ Below w.heap.size w w' := by
  obtain ⟨a, ca, rfl, na, hl, ha⟩ := ha
  obtain ⟨b, cb, rfl, nb, _, hb⟩ := hb
  have ha := hid ha
  have hb := hid hb
  go_enter Tryd.func34, Tryd.ntmps34
  go_wp2_with fail
  go_loopw [5] (fun u wr => ∃ j : Nat, j ≤ zs.length ∧ u = .int .i64 (j : Int) ∧ Below w.heap.size w wr)
    (fun u _ => zs.length - (intOf u).toNat)
  case atStart => exact ⟨0, by omega, by go_num, Below.refl _ _⟩
  case round =>
    obtain ⟨j, hj, rfl, hbr⟩ := hrel
    rcases Nat.lt_or_ge j zs.length with hlt | hge
    · obtain ⟨z, hz⟩ : ∃ z, zs[j]? = some z := ⟨_, List.getElem?_eq_getElem hlt⟩
      cases a with
      | none => have := na rfl; subst this; simp at hlt
      | some a =>
        cases b with
        | none => have := nb rfl; subst this; simp at hlt
        | some b =>
          have hca : wr.cell? (a.add j) = some (.int .i64 z) := by
            have hc := ha.out a rfl j z hz
            rw [hbr.cell (World.block_lt_of_cell? w _ hc)]; exact hc
          have hcb : wr.cell? (b.add j) = some (.int .i64 z) := by
            have hc := hb.out b rfl j z hz
            rw [hbr.cell (World.block_lt_of_cell? w _ hc)]; exact hc
          clear hz
          go_wp2_with fail
          go_region
          go_wp2_with fail
          go_roundw
          case rel => exact ⟨j + 1, by omega, by go_num, hbr.drew⟩
          case measure => simp [intOf]; omega
    · go_wp2_with fail
      go_ret
      exact ⟨rfl, hbr⟩

theorem Handle.belowB {w w' : World} {B : Nat} (h : Handle w) (hb : Below B w w') (h0 : 0 < B) : Handle w' := by
  unfold Handle at *
  rw [hb.cell (p := ⟨0, 0, none⟩) h0]
  exact h

theorem FS.handle {lo fb n : Nat} {w wr : World} {v : Nat → Int} {adj : Nat → Nat → Prop} (h : FS lo w fb n v adj wr) (hg : Handle w) (hlo : lo = w.heap.size) : Handle wr := hg.belowB h.below (by rw [hlo]; exact World.block_lt_of_cell? w _ hg)

theorem Wk.lone {adj : Nat → Nat → Prop} {a b : Nat} {l : List Nat} (h : Wk adj a b l) : (∀ x, ¬ adj x b) → a = b := by
  induction h with
  | one a _ => exact fun _ => rfl
  | step a c b l _ ha _ ih => exact fun hn => absurd (ih hn ▸ ha) (hn a)

theorem no_road {adj : Nat → Nat → Prop} {a b : Nat} (hn : ∀ x, ¬ adj x b) (hne : a ≠ b) : ∀ l, ¬ Rd adj a b l := fun l h => hne (h.wk.lone hn)

def chain3 : Nat → Nat → Prop := addE (addE noE 1 2) 2 3

theorem road3 : Rd chain3 1 3 [1, 2, 3] :=
  ⟨Wk.step 1 2 3 [2, 3] (by decide) (Or.inl (Or.inr (Or.inl ⟨rfl, rfl⟩))) (Wk.step 2 3 3 [3] (by decide) (Or.inr (Or.inl ⟨rfl, rfl⟩)) (Wk.one 3 (by decide))), by decide⟩

set_option maxRecDepth 100000 in
set_option maxHeartbeats 4000000 in
theorem sure_ok (w : World) (hg : Handle w) : Calls Tryd.prog 14 #[] w fun e w' => e = .returned (.bool true) ∧ Below w.heap.size w w' := by
  have hg := hid hg
  go_enter Tryd.func14, Tryd.ntmps14
  go_wp2_with fail
  refine (new_ok 3 w (by decide) (by decide)).mono ?_
  rintro e w1 ⟨fb, rfl, h1⟩
  have h1 := hid h1
  go_wp2_with fail
  refine (h1.out.link 0 1 (by decide) (by decide) (no_road (fun x h => h) (by decide))).mono ?_
  rintro e w2 ⟨rfl, h2, k2⟩
  have h2 := hid h2
  clear h1 k2
  go_wp2_with fail
  refine (h2.out.link 1 2 (by decide) (by decide) (no_road (fun x h => by rcases h with h | ⟨_, h⟩ | ⟨_, h⟩; exact h; cases h; cases h) (by decide))).mono ?_
  rintro e w3 ⟨rfl, h3, k3⟩
  have h3 : Hid (FS w.heap.size w fb 3 zero chain3 w3) := hid h3
  clear h2 k3
  go_wp2_with fail
  refine (h3.out.set 1 (by decide) (-5)).mono ?_
  rintro e w4 ⟨rfl, h4, k4⟩
  have h4 : Hid (FS w.heap.size w fb 3 (setV zero 2 (-5)) chain3 w4) := hid h4
  clear h3 k4
  go_wp2_with fail
  refine (h4.out.leastY 0 2 (by decide) (by decide) [1, 2, 3] road3 (fun z hz => by unfold setV zero; split <;> omega)).mono ?_
  rintro e w5 ⟨d, ⟨A, B, hA, hd, _⟩, rfl, h5, k5⟩
  have e1 : d = 1 := by
    have hm : d + 1 ∈ [1, 2, 3] := by rw [hA]; simp
    have hv : setV zero 2 (-5) (d + 1) = -5 := hd
    unfold setV zero at hv
    split at hv
    · omega
    · cases hv
  subst e1
  have h5 := hid h5
  clear h4 k5 hA hd
  go_wp2_with fail
  refine (h5.out.lenY 0 2 (by decide) (by decide) [1, 2, 3] road3).mono ?_
  rintro e w6 ⟨rfl, h6, k6⟩
  have h6 := hid h6
  clear h5 k6
  go_wp2_with fail
  refine (h6.out.link_same 0 2 (by decide) (by decide) [1, 2, 3] road3).mono ?_
  rintro e w7 ⟨rfl, h7, k7⟩
  have h7 := hid h7
  clear h6 k7
  go_wp2_with fail
  refine (num_err 20 _ (h7.out.handle hg.out rfl)).mono ?_
  rintro e w8 ⟨rfl, b8⟩
  have h8 := hid (h7.out.more b8)
  clear h7 b8
  go_wp2_with fail
  go_ret
  exact ⟨rfl, h8.out.below⟩

end Go.Proofs.YtnkgpjjlgbggcaaDoor
