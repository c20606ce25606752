/- The document's Next, walked. -/
import Derived.Test.YtdlggnibgnflnabDoorWith10
namespace Go.Proofs.YtdlggnibgnflnabDoor
open Go.RowKit
set_option linter.unusedVariables false

theorem pv_at {l : List Nat} {x i : Nat} (hn : l.Nodup) (hi : l[i]? = some x) : l[(i + l.length - 1) % l.length]? = some (pv l x) := by
  obtain ⟨hlt, hxe⟩ := List.getElem?_eq_some_iff.1 hi
  have hk : (i + l.length - 1) % l.length < l.length := Nat.mod_lt _ (by omega)
  have hy : l[(i + l.length - 1) % l.length]? = some l[(i + l.length - 1) % l.length] := List.getElem?_eq_getElem hk
  have := nx_at hn hy
  rw [Nat.mod_add_mod, show i + l.length - 1 + 1 = i + l.length from by omega, Nat.add_mod_right, Nat.mod_eq_of_lt hlt, hi] at this
  rw [hy, Option.some.inj this, pv_nx hn (List.mem_of_getElem? hy)]

/-- So many steps on, by places: what the document reckons. -/
theorem step_at (n i : Nat) (by' : Int) (hn : 0 < n) (hi : i < n) (hb : by' = 1 ∨ by' = -1) (hs : n ≤ 1000) : ∃ k : Nat, k < n ∧ (IntKind.i64.wrap (IntKind.i64.wrap ((i : Int) + by') + (n : Int))).tmod (n : Int) = (k : Int) ∧ (by' = 1 → k = (i + 1) % n) ∧ (by' = -1 → k = (i + n - 1) % n) := by
  have w1 : IntKind.i64.wrap ((i : Int) + by') = (i : Int) + by' := by rw [IntKind.wrap_i64]; omega
  have w2 : IntKind.i64.wrap ((i : Int) + by' + (n : Int)) = (i : Int) + by' + (n : Int) := by rw [IntKind.wrap_i64]; omega
  rw [w1, w2, Int.tmod_eq_emod_of_nonneg (by omega)]
  rcases hb with rfl | rfl
  · refine ⟨(i + 1) % n, Nat.mod_lt _ hn, ?_, fun _ => rfl, fun h => by omega⟩
    rw [show (i : Int) + 1 + (n : Int) = ((i + 1 + n : Nat) : Int) from by omega, ← Int.natCast_emod, Nat.add_mod_right]
  · refine ⟨(i + n - 1) % n, Nat.mod_lt _ hn, ?_, fun h => by omega, fun _ => rfl⟩
    rw [show (i : Int) + -1 + (n : Int) = ((i + n - 1 : Nat) : Int) from by omega, ← Int.natCast_emod]



end Go.Proofs.YtdlggnibgnflnabDoor
