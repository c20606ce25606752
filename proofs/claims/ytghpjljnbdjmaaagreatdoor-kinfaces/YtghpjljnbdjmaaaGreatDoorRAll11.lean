/- The document's All, walked. -/
import Derived.Test.YtghpjljnbdjmaaaGreatDoorRWalk11
namespace Go.Proofs.YtghpjljnbdjmaaaGreatDoor
open Go.RowKit
set_option linter.unusedVariables false

open Classical in
/-- The faces whose least darts these are. -/
noncomputable def frl (f : Nat → Nat) (l : List Nat) : List (List Nat) := (l.filter (fun x => decide (Pq.lst f x))).map (Pq.orb f)

theorem frl_yes {f : Nat → Nat} {l : List Nat} {x : Nat} (h : Pq.lst f x) : frl f (l ++ [x]) = frl f l ++ [Pq.orb f x] := by
  classical
  unfold frl
  rw [List.filter_append, List.map_append]
  simp [h]
theorem frl_no {f : Nat → Nat} {l : List Nat} {x : Nat} (h : ¬ Pq.lst f x) : frl f (l ++ [x]) = frl f l := by
  classical
  unfold frl
  rw [List.filter_append, List.map_append]
  simp [h]
theorem frl_le (f : Nat → Nat) (l : List Nat) : (frl f l).length ≤ l.length := by
  classical
  unfold frl
  rw [List.length_map]
  exact List.length_filter_le _ _

theorem frl_fcs (V : Nat) (R : Nat → List Nat) : ∀ n, frl (fx V R) (laid V R n) = fcs V R n
  | 0 => by classical simp [frl, laid, fcs]
  | n + 1 => by
    by_cases hi : In V R n
    · rw [laid_yes hi]
      by_cases hl : Pq.lst (fx V R) n
      · rw [frl_yes hl, fcs_yes hi hl, frl_fcs V R n]
      · rw [frl_no hl, fcs_no (fun q => hl q.2), frl_fcs V R n]
    · rw [laid_no hi, fcs_no (fun q => hi q.1), frl_fcs V R n]



end Go.Proofs.YtghpjljnbdjmaaaGreatDoor
