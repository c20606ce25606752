/-
  DERIVED. GIVEN WITH THE SEED: THE CARDS: each row of YtcngcomckoiklabDoorRows.lean that lists a variable, with what it lists TIED to the program's text (the seventh form; the later family's looks); each row that meets fmt, with fmt's text TOLD by the authors' own Lean function (tested against real Go, not proved from fmt's source: count such statements apart). THE CARD IS WHAT COUNTS. Prove the row's statement (the work); the ties are given (YtcngcomckoiklabDoorTie.lean); close each card by the builder's one call (the guide's Derived/Test/ToyasCard.lean, 'card_holds'). Laid BY PROGRAM, IN A SANDBOX (cutbox-door.mjs). By AI agents, Wed Nov 11 2026. No macro, syntax, notation, axiom, sorry.
-/
import Derived.Test.YtcngcomckoiklabDoorRows
import GoSem.ClaimSeven
namespace Go.Proofs.YtcngcomckoiklabDoor
namespace Rows

/-- THE TIED CARD OF 'plaitlaw03.ArenaWorn'. -/
def arenaWornCard : Claim7 := { stood := { row := arenaWornRow, standIns := [], harness := (true, "ac27dcaad32069dc47e22a508f992fee348be513292a133de4ba7f399c43a332"), looks := true }, kinds := [], alts := [], laidByText := true, laidKinds := [.data, .handle], laidTests := true, laidLooks := .later }
def ArenaWornCardSaid : Prop := Claim7.holds Tryd.pinned (.plain (OpenSpec.ofChange arenaWornSpec)) arenaWornCard

/-- THE TIED CARD OF 'plaitlaw03.ArenaFinds'. -/
def arenaFindsCard : Claim7 := { stood := { row := arenaFindsRow, standIns := [], harness := (true, "ac27dcaad32069dc47e22a508f992fee348be513292a133de4ba7f399c43a332"), looks := true }, kinds := [], alts := [], laidByText := true, laidKinds := [.data, .handle], laidTests := true, laidLooks := .later }
def ArenaFindsCardSaid : Prop := Claim7.holds Tryd.pinned (.plain (OpenSpec.ofChange arenaFindsSpec)) arenaFindsCard

/-- THE SECOND FORM's CARD OF 'plaitlaw03.ArenaWorn'. -/
def arenaWornUptoCard : Claim7 := { stood := { row := arenaWornUptoRow, standIns := [], harness := (true, "ac27dcaad32069dc47e22a508f992fee348be513292a133de4ba7f399c43a332"), looks := true }, kinds := [], alts := [], laidByText := true, laidKinds := [.data, .handle], laidTests := true, laidLooks := .later }
def ArenaWornUptoCardSaid : Prop := Claim7.holds Tryd.pinned (.plain (OpenSpec.upto arenaWornSpec)) arenaWornUptoCard

/-- THE SECOND FORM's CARD OF 'plaitlaw03.ArenaFinds'. -/
def arenaFindsUptoCard : Claim7 := { stood := { row := arenaFindsUptoRow, standIns := [], harness := (true, "ac27dcaad32069dc47e22a508f992fee348be513292a133de4ba7f399c43a332"), looks := true }, kinds := [], alts := [], laidByText := true, laidKinds := [.data, .handle], laidTests := true, laidLooks := .later }
def ArenaFindsUptoCardSaid : Prop := Claim7.holds Tryd.pinned (.plain (OpenSpec.upto arenaFindsSpec)) arenaFindsUptoCard
end Rows
end Go.Proofs.YtcngcomckoiklabDoor
