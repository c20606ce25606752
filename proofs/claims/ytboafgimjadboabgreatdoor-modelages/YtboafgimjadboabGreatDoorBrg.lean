/- The document's Groups, walked. The document's Next and Walk round a face, walked. The document's All, walked. -/
import Derived.Test.YtboafgimjadboabGreatDoorBdoc
import Derived.Test.YtboafgimjadboabGreatDoorBface
import Derived.Test.YtboafgimjadboabGreatDoorBpure
import Derived.Test.YtboafgimjadboabGreatDoorRef7
namespace Go.Proofs.YtboafgimjadboabGreatDoor
open Go.RowKit
set_option linter.unusedVariables false

/-- The edges whose first darts a list has. -/
def evs (l : List Nat) : List Nat := (l.filter (fun d => d % 2 == 0)).map (· / 2)

theorem evs_yes {l : List Nat} {d : Nat} (h : d % 2 = 0) : evs (l ++ [d]) = evs l ++ [d / 2] := by
  unfold evs
  rw [List.filter_append, List.map_append]
  simp [h]
theorem evs_no {l : List Nat} {d : Nat} (h : d % 2 ≠ 0) : evs (l ++ [d]) = evs l := by
  unfold evs
  rw [List.filter_append, List.map_append]
  simp [h]

theorem evs_laid (V : Nat) (R : Nat → List Nat) : ∀ E, evs (laid V R (2 * E)) = es V R E
  | 0 => by classical simp [evs, laid, es]
  | E + 1 => by
    classical
    have ih := evs_laid V R E
    have e2 : es V R (E + 1) = es V R E ++ (if In V R (2 * E) then [E] else []) := by
      unfold es
      rw [List.range_succ, List.filter_append]
      by_cases q : In V R (2 * E)
      · simp [q]
      · simp [q]
    rw [show 2 * (E + 1) = 2 * E + 1 + 1 by omega, e2]
    by_cases q1 : In V R (2 * E)
    · by_cases q2 : In V R (2 * E + 1)
      · rw [laid_yes q2, evs_no (by omega), laid_yes q1, evs_yes (by omega), ih, if_pos q1, show 2 * E / 2 = E by omega]
      · rw [laid_no q2, laid_yes q1, evs_yes (by omega), ih, if_pos q1, show 2 * E / 2 = E by omega]
    · by_cases q2 : In V R (2 * E + 1)
      · rw [laid_yes q2, evs_no (by omega), laid_no q1, ih, if_neg q1, List.append_nil]
      · rw [laid_no q2, laid_no q1, ih, if_neg q1, List.append_nil]

theorem evs_even {l : List Nat} {i d : Nat} (hd : l[i]? = some d) (h : d % 2 = 0) : evs (l.take (i + 1)) = evs (l.take i) ++ [d / 2] := by
  rw [List.take_add_one, hd]
  exact evs_yes h
theorem evs_odd {l : List Nat} {i d : Nat} (hd : l[i]? = some d) (h : d % 2 ≠ 0) : evs (l.take (i + 1)) = evs (l.take i) := by
  rw [List.take_add_one, hd]
  exact evs_no h

theorem At.og {V E : Nat} {R : Nat → List Nat} (h : Tn V E R) {d : Nat} (hd : In V R d) {r s : Int} (ha : At V R (d : Int) r s) : r = (og V R d : Int) := by
  obtain ⟨h1, h2⟩ := og_is hd
  exact (At.found h h1 h2 ha).1



end Go.Proofs.YtboafgimjadboabGreatDoor

namespace Go.Proofs.YtboafgimjadboabGreatDoor
open Go.RowKit
set_option linter.unusedVariables false

open Pq (fl fl_length fl_succ)





end Go.Proofs.YtboafgimjadboabGreatDoor

namespace Go.Proofs.YtboafgimjadboabGreatDoor
open Go.RowKit
set_option linter.unusedVariables false

open Classical in
/-- The faces whose least darts these are. -/
noncomputable def frl (f : Nat → Nat) (l : List Nat) : List (List Nat) := (l.filter (fun x => decide (Pq.lst f x))).map (Pq.orb f)

theorem frl_yes {f : Nat → Nat} {l : List Nat} {x : Nat} (h : Pq.lst f x) : frl f (l ++ [x]) = frl f l ++ [Pq.orb f x] := by
  classical
  unfold frl
  rw [List.filter_append, List.map_append]
  simp [h]
theorem frl_no {f : Nat → Nat} {l : List Nat} {x : Nat} (h : ¬ Pq.lst f x) : frl f (l ++ [x]) = frl f l := by
  classical
  unfold frl
  rw [List.filter_append, List.map_append]
  simp [h]
theorem frl_le (f : Nat → Nat) (l : List Nat) : (frl f l).length ≤ l.length := by
  classical
  unfold frl
  rw [List.length_map]
  exact List.length_filter_le _ _

theorem frl_fcs (V : Nat) (R : Nat → List Nat) : ∀ n, frl (fx V R) (laid V R n) = fcs V R n
  | 0 => by classical simp [frl, laid, fcs]
  | n + 1 => by
    by_cases hi : In V R n
    · rw [laid_yes hi]
      by_cases hl : Pq.lst (fx V R) n
      · rw [frl_yes hl, fcs_yes hi hl, frl_fcs V R n]
      · rw [frl_no hl, fcs_no (fun q => hl q.2), frl_fcs V R n]
    · rw [laid_no hi, fcs_no (fun q => hi q.1), frl_fcs V R n]



end Go.Proofs.YtboafgimjadboabGreatDoor
