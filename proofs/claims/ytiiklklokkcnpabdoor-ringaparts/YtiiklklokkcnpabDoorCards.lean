/-
  DERIVED. GIVEN WITH THE SEED: THE CARDS: each row of YtiiklklokkcnpabDoorRows.lean that lists a variable, with what it lists TIED to the program's text (the seventh form; the later family's looks); each row that meets fmt, with fmt's text TOLD by the authors' own Lean function (tested against real Go, not proved from fmt's source: count such statements apart). THE CARD IS WHAT COUNTS. Prove the row's statement (the work); the ties are given (YtiiklklokkcnpabDoorTie.lean); close each card by the builder's one call (the guide's Derived/Test/ToyasCard.lean, 'card_holds'). Laid BY PROGRAM, IN A SANDBOX (cutbox-door.mjs). By AI agents, Wed Nov 11 2026. No macro, syntax, notation, axiom, sorry.
-/
import Derived.Test.YtiiklklokkcnpabDoorRows
import GoSem.ClaimSeven
namespace Go.Proofs.YtiiklklokkcnpabDoor
namespace Rows

/-- THE TIED CARD OF 'plaitlaw05.RingAparts'. -/
def ringApartsCard : Claim7 := { stood := { row := ringApartsRow, standIns := [], harness := (true, "a60221de4f57923c480068893b77eb261dbedab37a0fd01ea3dbc4d670bb7420"), looks := true }, kinds := [], alts := [], laidByText := true, laidKinds := [.handle], laidTests := true, laidLooks := .later }
def RingApartsCardSaid : Prop := Claim7.holds Tryd.pinned (.plain (OpenSpec.ofChange ringApartsSpec)) ringApartsCard

/-- THE SECOND FORM's CARD OF 'plaitlaw05.RingAparts'. -/
def ringApartsUptoCard : Claim7 := { stood := { row := ringApartsUptoRow, standIns := [], harness := (true, "a60221de4f57923c480068893b77eb261dbedab37a0fd01ea3dbc4d670bb7420"), looks := true }, kinds := [], alts := [], laidByText := true, laidKinds := [.handle], laidTests := true, laidLooks := .later }
def RingApartsUptoCardSaid : Prop := Claim7.holds Tryd.pinned (.plain (OpenSpec.upto ringApartsSpec)) ringApartsUptoCard
end Rows
end Go.Proofs.YtiiklklokkcnpabDoor
