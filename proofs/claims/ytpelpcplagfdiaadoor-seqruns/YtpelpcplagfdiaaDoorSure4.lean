/- Numbers held against one another; 'sure' of the laws. -/
import Derived.Test.YtpelpcplagfdiaaDoorNew4
import Derived.Test.YtpelpcplagfdiaaDoorList4
import Derived.Test.YtpelpcplagfdiaaDoorErrAs
namespace Go.Proofs.YtpelpcplagfdiaaDoor
open Go.RowKit
set_option linter.unusedVariables false

/-- The value is a slice of these numbers. -/
def Ns (w : World) (v : Value) (zs : List Int) : Prop := ∃ ad cap, v = .slice ad zs.length cap ∧ (ad = none → zs = []) ∧ zs.length ≤ 4294967296 ∧ ∀ a, ad = some a → ∀ (j : Nat) z, zs[j]? = some z → w.cell? (a.add j) = some (.int .i64 z)

theorem Ns.below {w w' : World} {v : Value} {zs : List Int} (h : Ns w v zs) (hb : Below w.heap.size w w') : Ns w' v zs := by
  obtain ⟨ad, cap, h1, h2, h3, h4⟩ := h
  refine ⟨ad, cap, h1, h2, h3, fun a ha j z hz => ?_⟩
  have hc := h4 a ha j z hz
  rw [hb.cell (World.block_lt_of_cell? w _ hc)]
  exact hc

/-- The items of nodes. -/
def items (l : List Nat) : List Int := l.map (fun d : Nat => (d : Int) - 1)

theorem items_length (l : List Nat) : (items l).length = l.length := by simp [items]

theorem Rw.ns {w : World} {v : Value} {l : List Nat} (h : Rw w v l) (hl : l.length ≤ 4294967296) : Ns w v (items l) := by
  obtain ⟨ad, cap, h1, h2, h3⟩ := h.form
  refine ⟨ad, cap, by rw [items_length]; exact h1, fun e => by rw [h2 e]; rfl, by rw [items_length]; exact hl, fun a ha j z hz => ?_⟩
  obtain ⟨g, rfl, hc⟩ := h3 a ha
  unfold items at hz
  rw [List.getElem?_map] at hz
  cases hd : l[j]? with
  | none => rw [hd] at hz; cases hz
  | some d =>
    rw [hd] at hz
    rw [show (⟨g, 0, none⟩ : Addr).add j = ⟨g, j, none⟩ from by unfold Addr.add; split <;> simp_all, hc j d hd]
    simp at hz
    subst hz
    rfl

set_option maxRecDepth 100000 in
set_option maxHeartbeats 2000000 in
theorem ints_ok (u v : Value) (zs : List Int) (w : World) (ha : Ns w u zs) (hb : Ns w v zs) :
    Calls Tryd.prog 39 #[u, v] w fun e w' => e = .returned (.bool true) ∧ Below w.heap.size w w' := by
  obtain ⟨a, ca, rfl, na, hl, ha⟩ := ha
  obtain ⟨b, cb, rfl, nb, _, hb⟩ := hb
  have ha := hid ha
  have hb := hid hb
  go_enter Tryd.func39, Tryd.ntmps39
  go_wp2_with fail
  go_loopw [5] (fun u wr => ∃ j : Nat, j ≤ zs.length ∧ u = .int .i64 (j : Int) ∧ Below w.heap.size w wr)
    (fun u _ => zs.length - (intOf u).toNat)
  case atStart => exact ⟨0, by omega, by go_num, Below.refl _ _⟩
  case round =>
    obtain ⟨j, hj, rfl, hbr⟩ := hrel
    rcases Nat.lt_or_ge j zs.length with hlt | hge
    · obtain ⟨z, hz⟩ : ∃ z, zs[j]? = some z := ⟨_, List.getElem?_eq_getElem hlt⟩
      cases a with
      | none => have := na rfl; subst this; simp at hlt
      | some a =>
        cases b with
        | none => have := nb rfl; subst this; simp at hlt
        | some b =>
          have hca : wr.cell? (a.add j) = some (.int .i64 z) := by
            have hc := ha.out a rfl j z hz
            rw [hbr.cell (World.block_lt_of_cell? w _ hc)]; exact hc
          have hcb : wr.cell? (b.add j) = some (.int .i64 z) := by
            have hc := hb.out b rfl j z hz
            rw [hbr.cell (World.block_lt_of_cell? w _ hc)]; exact hc
          clear hz
          go_wp2_with fail
          go_region
          go_wp2_with fail
          go_roundw
          case rel => exact ⟨j + 1, by omega, by go_num, hbr.drew⟩
          case measure => simp [intOf]; omega
    · go_wp2_with fail
      go_ret
      exact ⟨rfl, hbr⟩

theorem Handle.belowB {w w' : World} {B : Nat} (h : Handle w) (hb : Below B w w') (h0 : 0 < B) : Handle w' := by
  unfold Handle at *
  rw [hb.cell (p := ⟨0, 0, none⟩) h0]
  exact h

theorem FS.handle {lo fb n : Nat} {w wr : World} {v : Nat → Int} {seq : Nat → List Nat} (h : FS lo w fb n v seq wr) (hg : Handle w) (hlo : lo = w.heap.size) : Handle wr := hg.belowB h.below (by rw [hlo]; exact World.block_lt_of_cell? w _ hg)

set_option maxRecDepth 100000 in
set_option maxHeartbeats 4000000 in
theorem sure_ok (w : World) (hg : Handle w) : Calls Tryd.prog 17 #[] w fun e w' => e = .returned (.bool true) ∧ Below w.heap.size w w' := by
  have hg := hid hg
  go_enter Tryd.func17, Tryd.ntmps17
  go_wp2_with fail
  refine (new_ok 3 w (by decide) (by decide)).mono ?_
  rintro e w1 ⟨fb, rfl, h1⟩
  have h1 := hid h1
  go_wp2_with fail
  refine (h1.out.join 0 1 (by decide) (by decide) (by decide)).mono ?_
  rintro e w2 ⟨rfl, h2, k2⟩
  have h2 := hid h2
  clear h1 k2
  go_wp2_with fail
  refine (h2.out.join 0 2 (by decide) (by decide) (by decide)).mono ?_
  rintro e w3 ⟨rfl, h3, k3⟩
  have h3 := hid h3
  clear h2 k3
  go_wp2_with fail
  refine (h3.out.reverse 0 (by decide)).mono ?_
  rintro e w4 ⟨rfl, h4, k4⟩
  have h4 := hid h4
  clear h3 k4
  go_wp2_with fail
  refine (h4.out.list 1 (by decide)).mono ?_
  rintro e w5 ⟨u, rfl, hr, h5, k5⟩
  have h5 := hid h5
  have hr : Hid (Rw w5 u [3, 2, 1]) := hid hr
  clear h4 k5
  have hlit : Hid (Ns (w5.alloc (.cells #[.int .i64 2, .int .i64 1, .int .i64 0] 3)) (.slice (some ⟨w5.heap.size, 0, none⟩) 3 3) [2, 1, 0]) := by
    refine ⟨_, 3, rfl, fun e => (by cases e), by decide, fun a ha j z hz => ?_⟩
    cases ha
    rw [show (⟨w5.heap.size, 0, none⟩ : Addr).add j = ⟨w5.heap.size, j, none⟩ from by unfold Addr.add; split <;> simp_all]
    unfold World.cell?
    rw [heap_alloc_new]
    have hj := (List.getElem?_eq_some_iff.1 hz).1
    match j, hj, hz with
    | 0, _, hz => cases hz; rfl
    | 1, _, hz => cases hz; rfl
    | 2, _, hz => cases hz; rfl
  have hrn : Hid (Ns (w5.alloc (.cells #[.int .i64 2, .int .i64 1, .int .i64 0] 3)) u [2, 1, 0]) := hid ((hr.out.below ((Below.refl _ _).alloc (Nat.le_refl _) _)).ns (by decide))
  have h6 := hid (h5.out.alloc (.cells #[.int .i64 2, .int .i64 1, .int .i64 0] 3))
  clear hr h5
  go_wp2_with fail
  refine (ints_ok _ _ _ _ hrn.out hlit.out).mono ?_
  rintro e w6 ⟨rfl, b6⟩
  have h7 := hid (h6.out.more b6)
  clear hrn hlit h6 b6
  go_wp2_with fail
  refine (h7.out.join_same 0 2 (by decide) (by decide) (by decide)).mono ?_
  rintro e w7 ⟨rfl, h8, k8⟩
  have h8 := hid h8
  clear h7 k8
  go_wp2_with fail
  refine (num_err 20 _ (h8.out.handle hg.out rfl)).mono ?_
  rintro e w8 ⟨rfl, b8⟩
  have h9 := hid (h8.out.more b8)
  clear h8 b8
  go_wp2_with fail
  go_ret
  exact ⟨rfl, h9.out.below⟩

end Go.Proofs.YtpelpcplagfdiaaDoor
