/-
  DERIVED. GIVEN WITH THE SEED: THE CARDS: each row of YtmjbmhkiedeioaaDoorRows.lean that lists a variable, with what it lists TIED to the program's text (the seventh form; the later family's looks); each row that meets fmt, with fmt's text TOLD by the authors' own Lean function (tested against real Go, not proved from fmt's source: count such statements apart). THE CARD IS WHAT COUNTS. Prove the row's statement (the work); the ties are given (YtmjbmhkiedeioaaDoorTie.lean); close each card by the builder's one call (the guide's Derived/Test/ToyasCard.lean, 'card_holds'). Laid BY PROGRAM, IN A SANDBOX (cutbox-door.mjs). By AI agents, Wed Nov 11 2026. No macro, syntax, notation, axiom, sorry.
-/
import Derived.Test.YtmjbmhkiedeioaaDoorRows
import GoSem.ClaimSeven
namespace Go.Proofs.YtmjbmhkiedeioaaDoor
namespace Rows

/-- THE TIED CARD OF 'plaitlaw13.EdgesKeys'. -/
def edgesKeysCard : Claim7 := { stood := { row := edgesKeysRow, standIns := [], harness := (true, "a21e23f3361d29fc642ae0b58486e16d463f27aff6db1aba339f0c5001484b7d"), looks := true }, kinds := [], alts := [], laidByText := true, laidKinds := [.handle], laidTests := true, laidLooks := .later }
def EdgesKeysCardSaid : Prop := Claim7.holds Tryd.pinned (.plain (OpenSpec.ofChange edgesKeysSpec)) edgesKeysCard

/-- THE TIED CARD OF 'plaitlaw13.EdgesFar'. -/
def edgesFarCard : Claim7 := { stood := { row := edgesFarRow, standIns := [], harness := (true, "a21e23f3361d29fc642ae0b58486e16d463f27aff6db1aba339f0c5001484b7d"), looks := true }, kinds := [], alts := [], laidByText := true, laidKinds := [.handle], laidTests := true, laidLooks := .later }
def EdgesFarCardSaid : Prop := Claim7.holds Tryd.pinned (.plain (OpenSpec.ofChange edgesFarSpec)) edgesFarCard

/-- THE SECOND FORM's CARD OF 'plaitlaw13.EdgesKeys'. -/
def edgesKeysUptoCard : Claim7 := { stood := { row := edgesKeysUptoRow, standIns := [], harness := (true, "a21e23f3361d29fc642ae0b58486e16d463f27aff6db1aba339f0c5001484b7d"), looks := true }, kinds := [], alts := [], laidByText := true, laidKinds := [.handle], laidTests := true, laidLooks := .later }
def EdgesKeysUptoCardSaid : Prop := Claim7.holds Tryd.pinned (.plain (OpenSpec.upto edgesKeysSpec)) edgesKeysUptoCard

/-- THE SECOND FORM's CARD OF 'plaitlaw13.EdgesFar'. -/
def edgesFarUptoCard : Claim7 := { stood := { row := edgesFarUptoRow, standIns := [], harness := (true, "a21e23f3361d29fc642ae0b58486e16d463f27aff6db1aba339f0c5001484b7d"), looks := true }, kinds := [], alts := [], laidByText := true, laidKinds := [.handle], laidTests := true, laidLooks := .later }
def EdgesFarUptoCardSaid : Prop := Claim7.holds Tryd.pinned (.plain (OpenSpec.upto edgesFarSpec)) edgesFarUptoCard
end Rows
end Go.Proofs.YtmjbmhkiedeioaaDoor
