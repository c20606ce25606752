/- 'All' of an Arena; 'sure' of the laws. -/
import Derived.Test.YtjkiagjgnfaknaaDoorDrop3
import Derived.Test.YtjkiagjgnfaknaaDoorOpenInts
namespace Go.Proofs.YtjkiagjgnfaknaaDoor
open Go.RowKit

def ic (i : Nat) : Value := .int .i64 (i : Int)

theorem infoInt : (Tryd.prog.info? 3).map (fun i => (i.zero, i.size, i.bytes)) = some (some (.int .i64 0), 1, 8) := by kernel_rfl

/-- What a row of one's own holds, as a slice. -/
theorem Ints.ofRow {w : World} {base : Nat} {v : Value} {ns : List Nat} (h : w.ownsRow base 3 1 v ns.length (ns.map ic)) (hb : ∀ x ∈ ns, x < 9223372036854775808) (hl : ns.length ≤ 1048576) :
    ∃ ad cap, v = .slice ad ns.length cap ∧ (∀ a, ad = some a → base ≤ a.block) ∧ Ints w ad (ns.map (fun i : Nat => (i : Int))) := by
  obtain ⟨_, h2⟩ := h
  rcases h2 with ⟨rfl, h0⟩ | ⟨g, cap, cur, rfl, hg, hh, hc1, hc2, hc3, hc4⟩
  · have : ns = [] := List.eq_nil_of_length_eq_zero h0
    subst this
    exact ⟨none, 0, rfl, by simp, fun _ => rfl, by simp, by simp, by simp⟩
  · refine ⟨_, cap, rfl, fun a ha => by cases ha; exact hg, by simp, by simp; omega, fun z hz => ?_, fun a ha j z hj => ?_⟩
    · obtain ⟨x, hx, rfl⟩ := List.mem_map.1 hz
      have := hb x hx
      omega
    · cases ha
      rw [List.getElem?_map] at hj
      obtain ⟨x, hx, rfl⟩ := Option.map_eq_some_iff.1 hj
      have hjl := (List.getElem?_eq_some_iff.1 hx).1
      have h3 : (cur.toList.take (ns.length * 1))[j]? = some (ic x) := by rw [hc4]; simp [hx]
      rw [List.getElem?_take, if_pos (by omega)] at h3
      rw [show Addr.add ⟨g, 0, none⟩ j = ⟨g, j, none⟩ from by simp [Addr.add]; omega]
      unfold World.cell?
      rw [hh]
      simpa [ic] using h3

/-- How far the walk over the held places has still to go. -/
def left : Value → Value → Nat
  | .int _ q, .bool true => 1048577 - q.toNat
  | _, _ => 0

/-- The live places as numbers. -/
def livesI (ps : List (Int × Int)) : List Int := (lives ps).map (fun i : Nat => (i : Int))

theorem livesI_length (ps : List (Int × Int)) : (livesI ps).length = liveN ps := by simp [livesI, lives_count]

theorem lv_after (ps : List (Int × Int)) (f : Nat) (h : ps.length ≤ f) : lv ps f = lives ps :=
  lv_skip ps ps.length f h (fun y h1 _ h3 => by rw [atP_none h1] at h3; cases h3)

/-- From a held place to the next: what is live between. -/
theorem lv_step {n : Nat} {ps : List (Int × Int)} (h : ps.length ≤ n) {f x : Nat} (hx : Least (fun i => (held n ps)[i]? = some true) f x) : lv ps x = lv ps f ∧ x < ps.length ∧ f ≤ x := by
  have h0 : (held n ps)[x]? = some true := hx.1
  rw [held_is h] at h0
  refine ⟨lv_skip ps f x hx.2.1 (fun y h1 h2 h3 => ?_), ?_, hx.2.1⟩
  · have hy : (held n ps)[y]? = some true := (held_is h _ _).2 ⟨by omega, by unfold heldB; rw [live_get h3]; simp [h3]⟩
    have := hx.2.2 y hy h1
    omega
  · rcases Nat.lt_or_ge x ps.length with h1 | h1
    · exact h1
    · unfold heldB at h0; rw [List.getElem?_eq_none h1] at h0; simp at h0

theorem lv_end {n : Nat} {ps : List (Int × Int)} (h : ps.length ≤ n) {f : Nat} (hx : ∀ x : Nat, (held n ps)[x]? = some true → ¬ f ≤ x) : lv ps f = lives ps := by
  rcases Nat.lt_or_ge f ps.length with h1 | h1
  · refine (lv_skip ps f ps.length (by omega) (fun y h2 h3 h4 => ?_)).symm
    exact hx y ((held_is h _ _).2 ⟨by omega, by unfold heldB; rw [live_get h4]; simp [h4]⟩) h2
  · exact lv_after ps f h1



end Go.Proofs.YtjkiagjgnfaknaaDoor
