/- What place, Len, Full, Find and Handle of an Arena answer. -/
import Derived.Test.YtjkiagjgnfaknaaDoorLoad
import Derived.Deep.RegionHeld3
import Derived.Handy
namespace Go.Proofs.YtjkiagjgnfaknaaDoor
open Go.RowKit

theorem infoHandle : (Tryd.prog.info? 43).map (fun i => (i.zero, i.size, i.bytes)) = some (some (.agg #[.int .u32 0, .int .u32 0]), 2, 8) := by kernel_rfl

theorem Fair.num {n : Nat} {ps : List (Int × Int)} (h : Fair n ps) : ∀ (j : Nat) p, ps[j]? = some p → 0 ≤ p.1 ∧ p.1 < 4294967296 := fun j p hp => ⟨(h.ok j p hp).1, (h.ok j p hp).2.1⟩

/-- The places' slice, to read. -/
theorem Arena.slice {w : World} {lo hi ab n : Nat} {ob : Option Nat} {ps : List (Int × Int)} (h : Arena w lo hi ab ob n ps) :
    ∃ ad cap, w.cell? ⟨ab, 2, none⟩ = some (.slice ad ps.length cap) ∧ Prow w ad ps ∧ ob = ad.map (·.block) ∧ (ad = none → cap = 0) := by
  obtain ⟨⟨sb, hh⟩, hf⟩ := h
  obtain ⟨hs, pv, h1, h2, h3, h4, _⟩ := hh.row
  have hr := h3.2
  obtain ⟨ad, cap, rfl, h6, h7⟩ := Prow.ofRow h3 hf.num
  refine ⟨ad, cap, h1, h7, by rw [← h4, h6], fun e => ?_⟩
  subst e
  rcases hr with ⟨e, _⟩ | ⟨g, c, cur, e, _⟩
  · injection e
  · injection e with e1; cases e1

theorem Arena.slots {w : World} {lo hi ab n : Nat} {ob : Option Nat} {ps : List (Int × Int)} (h : Arena w lo hi ab ob n ps) :
    ∃ hs sb, w.cell? ⟨ab, 0, none⟩ = some (.pointer (some ⟨sb, 0, none⟩)) ∧ w.cell? ⟨ab, 1, none⟩ = some (.int .i64 ((wornN ps : Nat) : Int)) ∧ Slots w lo hs sb (held n ps) ∧ hs ≤ ab := by
  obtain ⟨⟨sb, hh⟩, hf⟩ := h
  obtain ⟨hs, hsl, hle, _⟩ := hh.slots
  exact ⟨hs, sb, hh.cell0, hh.cell1.1, hsl, hle⟩

set_option maxHeartbeats 1000000 in
theorem place_ok (lo hi ab n x : Nat) (ob : Option Nat) (ps : List (Int × Int)) (w : World) (h : Arena w lo hi ab ob n ps) (_hx : x < 4611686018427387904) :
    Calls Tryd.prog 30 #[.pointer (some ⟨ab, 0, none⟩), .int .i64 (x : Int)] w fun e w' => e = .returned (.agg #[.int .u32 (atP ps x).1, .int .i64 (atP ps x).2]) ∧ Below w.heap.size w w' := by
  obtain ⟨ad, cap, hc, hp, _, _⟩ := h.slice
  have hpl := hp.bound
  have hlt := World.block_lt_of_cell? w _ hc
  have hps := h.2.le
  have hn := h.pos.2.1
  clear h
  rcases Nat.lt_or_ge x ps.length with hl | hg
  · obtain ⟨⟨a, s⟩, hxp⟩ : ∃ p, ps[x]? = some p := ⟨_, List.getElem?_eq_getElem hl⟩
    rw [atP_some hxp]
    cases ad with
    | none => have := hp.nil rfl; subst this; simp at hl
    | some ad =>
      have hc0 := (hp.below ((Below.refl w.heap.size w).alloc (Nat.le_refl _) (.cells #[.int .u32 0, .int .i64 0] 70))).first hxp
      have hc1 := (hp.below ((Below.refl w.heap.size w).alloc (Nat.le_refl _) (.cells #[.int .u32 0, .int .i64 0] 70))).second hxp
      clear hxp hp
      go_enter Tryd.func30, Tryd.ntmps30
      go_wp2_with fail
      go_returns
      exact ⟨rfl, (Below.refl _ _).alloc (Nat.le_refl _) _⟩
  · rw [atP_none hg]
    clear hp
    go_enter Tryd.func30, Tryd.ntmps30
    go_wp2_with fail
    go_returns
    exact ⟨rfl, (Below.refl _ _).alloc (Nat.le_refl _) _⟩

set_option maxHeartbeats 1000000 in
theorem len3_ok (lo hi ab n : Nat) (ob : Option Nat) (ps : List (Int × Int)) (w : World) (h : Arena w lo hi ab ob n ps) :
    Calls Tryd.prog 17 #[.pointer (some ⟨ab, 0, none⟩)] w fun e w' => e = .returned (.int .i64 ((liveN ps : Nat) : Int)) ∧ Below w.heap.size w w' := by
  obtain ⟨hs, sb, hc0, hc1, hsl, hle⟩ := h.slots
  have hlen : Hid (∀ x, Below w.heap.size w x → Calls Tryd.prog 32 #[.pointer (some ⟨sb, 0, none⟩)] x fun e w' => e = .returned (.int .i64 ((heldN ps : Nat) : Int)) ∧ x = w') := fun x hx => by
    have := len_ok _ _ _ _ _ (hsl.of (Within.ofBelow hx w.heap.size w.heap.size) (Or.inl hsl.pos.2.2.1))
    rw [held_count] at this
    exact this
  have hsp := h.2.split
  have hhl := heldN_le ps
  have hn := h.pos.2.1
  have hps := h.2.le
  have HS : Hid (∀ x, Below w.heap.size w x → Below w.heap.size w x ∧ x.cell? ⟨ab, 0, none⟩ = some (.pointer (some ⟨sb, 0, none⟩)) ∧ x.cell? ⟨ab, 1, none⟩ = some (.int .i64 ((wornN ps : Nat) : Int))) := fun x hx =>
    ⟨hx, (hx.cell (World.block_lt_of_cell? w _ hc0)).trans hc0, (hx.cell (World.block_lt_of_cell? w _ hc1)).trans hc1⟩
  obtain ⟨a, ha⟩ : ∃ a, heldN ps = a := ⟨_, rfl⟩
  obtain ⟨b, hb⟩ : ∃ b, wornN ps = b := ⟨_, rfl⟩
  obtain ⟨c, hc⟩ : ∃ c, liveN ps = c := ⟨_, rfl⟩
  rw [ha] at hlen hsp hhl
  rw [hb] at hsp hc1 HS
  rw [hc] at hsp
  rw [hc]
  subst hsp
  have hle2 : c + b ≤ 1048576 := by omega
  clear hsl ha hb hc h hc0 hc1 hle hhl hps hn
  go_enter Tryd.func17, Tryd.ntmps17
  go_wp2_with fail
  go_region_held3 (fun x => Below w.heap.size w x ∧ x.cell? ⟨ab, 0, none⟩ = some (.pointer (some ⟨sb, 0, none⟩)) ∧ x.cell? ⟨ab, 1, none⟩ = some (.int .i64 (b : Int)))
    (first | exact HS.out _ (Below.refl _ _).drew | exact HS.out _ (Below.refl _ _) | assumption | exact HS.out _ (by assumption))
    ((go_at_call 32; refine (hlen.out _ (by first | assumption | exact (And.left (by assumption)))).mono ?_; rintro e w' ⟨rfl, rfl⟩))
  all_goals
    go_wp2_with fail
    go_ret
    refine ⟨?_, by first | assumption | exact (And.left (by assumption))⟩
    simp
    rw [IntKind.wrap_i64]
    omega

/-- Is no place free? -/
def fullB (n : Nat) (ps : List (Int × Int)) : Bool := (heldN ps : Int) == (n : Int)

set_option maxHeartbeats 1000000 in
theorem full3_ok (lo hi ab n : Nat) (ob : Option Nat) (ps : List (Int × Int)) (w : World) (h : Arena w lo hi ab ob n ps) :
    Calls Tryd.prog 19 #[.pointer (some ⟨ab, 0, none⟩)] w fun e w' => e = .returned (.bool (fullB n ps)) ∧ Below w.heap.size w w' := by
  obtain ⟨hs, sb, hc0, hc1, hsl, hle⟩ := h.slots
  have hlen : Hid (∀ x, Below w.heap.size w x → Calls Tryd.prog 32 #[.pointer (some ⟨sb, 0, none⟩)] x fun e w' => e = .returned (.int .i64 ((heldN ps : Nat) : Int)) ∧ x = w') := fun x hx => by
    have := len_ok _ _ _ _ _ (hsl.of (Within.ofBelow hx w.heap.size w.heap.size) (Or.inl hsl.pos.2.2.1))
    rw [held_count] at this
    exact this
  have hsize : Hid (∀ x, Below w.heap.size w x → Calls Tryd.prog 29 #[.pointer (some ⟨sb, 0, none⟩)] x fun e w' => e = .returned (.int .i64 (n : Int)) ∧ x = w') := fun x hx => by
    have := size_ok _ _ _ _ _ (hsl.of (Within.ofBelow hx w.heap.size w.heap.size) (Or.inl hsl.pos.2.2.1))
    rw [held_length h.2.le] at this
    exact this
  have HS : Hid (∀ x, Below w.heap.size w x → Below w.heap.size w x ∧ x.cell? ⟨ab, 0, none⟩ = some (.pointer (some ⟨sb, 0, none⟩))) := fun x hx =>
    ⟨hx, (hx.cell (World.block_lt_of_cell? w _ hc0)).trans hc0⟩
  clear hsl h hc0 hc1 hle
  go_enter Tryd.func19, Tryd.ntmps19
  go_wp2_with fail
  go_region_held3 (fun x => Below w.heap.size w x ∧ x.cell? ⟨ab, 0, none⟩ = some (.pointer (some ⟨sb, 0, none⟩)))
    (first | exact HS.out _ (Below.refl _ _).drew | exact HS.out _ (Below.refl _ _) | assumption | exact HS.out _ (by assumption))
    (first
      | (go_at_call 32; refine (hlen.out _ (by first | assumption | exact (And.left (by assumption)))).mono ?_; rintro e w' ⟨rfl, rfl⟩)
      | (go_at_call 29; refine (hsize.out _ (by first | assumption | exact (And.left (by assumption)))).mono ?_; rintro e w' ⟨rfl, rfl⟩))
  all_goals
    go_wp2_with fail
    go_ret
    exact ⟨rfl, by first | assumption | exact (And.left (by assumption))⟩

end Go.Proofs.YtjkiagjgnfaknaaDoor
