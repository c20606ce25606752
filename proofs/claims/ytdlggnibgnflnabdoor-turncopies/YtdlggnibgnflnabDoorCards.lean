/-
  DERIVED. GIVEN WITH THE SEED: THE CARDS: each row of YtdlggnibgnflnabDoorRows.lean that lists a variable, with what it lists TIED to the program's text (the seventh form; the later family's looks); each row that meets fmt, with fmt's text TOLD by the authors' own Lean function (tested against real Go, not proved from fmt's source: count such statements apart). THE CARD IS WHAT COUNTS. Prove the row's statement (the work); the ties are given (YtdlggnibgnflnabDoorTie.lean); close each card by the builder's one call (the guide's Derived/Test/ToyasCard.lean, 'card_holds'). Laid BY PROGRAM, IN A SANDBOX (cutbox-door.mjs). By AI agents, Wed Nov 11 2026. No macro, syntax, notation, axiom, sorry.
-/
import Derived.Test.YtdlggnibgnflnabDoorRows
import GoSem.ClaimSeven
namespace Go.Proofs.YtdlggnibgnflnabDoor
namespace Rows

/-- THE TIED CARD OF 'plaitlaw10.TurnCopies'. -/
def turnCopiesCard : Claim7 := { stood := { row := turnCopiesRow, standIns := [], harness := (true, "a719d67818d34111306fba2842a7fe099964e3009cf146f03b1bdba80e09aac1"), looks := true }, kinds := [], alts := [], laidByText := true, laidKinds := [.handle], laidTests := true, laidLooks := .later }
def TurnCopiesCardSaid : Prop := Claim7.holds Tryd.pinned (.plain (OpenSpec.ofChange turnCopiesSpec)) turnCopiesCard

/-- THE SECOND FORM's CARD OF 'plaitlaw10.TurnCopies'. -/
def turnCopiesUptoCard : Claim7 := { stood := { row := turnCopiesUptoRow, standIns := [], harness := (true, "a719d67818d34111306fba2842a7fe099964e3009cf146f03b1bdba80e09aac1"), looks := true }, kinds := [], alts := [], laidByText := true, laidKinds := [.handle], laidTests := true, laidLooks := .later }
def TurnCopiesUptoCardSaid : Prop := Claim7.holds Tryd.pinned (.plain (OpenSpec.upto turnCopiesSpec)) turnCopiesUptoCard
end Rows
end Go.Proofs.YtdlggnibgnflnabDoor
