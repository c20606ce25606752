/-
  DERIVED. GIVEN WITH THE SEED: THE CARDS: each row of YtiiklklokkcnpaaDoorRows.lean that lists a variable, with what it lists TIED to the program's text (the seventh form; the later family's looks); each row that meets fmt, with fmt's text TOLD by the authors' own Lean function (tested against real Go, not proved from fmt's source: count such statements apart). THE CARD IS WHAT COUNTS. Prove the row's statement (the work); the ties are given (YtiiklklokkcnpaaDoorTie.lean); close each card by the builder's one call (the guide's Derived/Test/ToyasCard.lean, 'card_holds'). Laid BY PROGRAM, IN A SANDBOX (cutbox-door.mjs). By AI agents, Wed Nov 11 2026. No macro, syntax, notation, axiom, sorry.
-/
import Derived.Test.YtiiklklokkcnpaaDoorRows
import GoSem.ClaimSeven
namespace Go.Proofs.YtiiklklokkcnpaaDoor
namespace Rows

/-- THE TIED CARD OF 'plaitlaw05.RingRuns'. -/
def ringRunsCard : Claim7 := { stood := { row := ringRunsRow, standIns := [], harness := (true, "48352bbbaaf5246341b7388f5e206928a8c9476a8e87926a1cc8c37ed015d7ae"), looks := true }, kinds := [], alts := [], laidByText := true, laidKinds := [.handle], laidTests := true, laidLooks := .later }
def RingRunsCardSaid : Prop := Claim7.holds Tryd.pinned (.plain (OpenSpec.ofChange ringRunsSpec)) ringRunsCard

/-- THE TIED CARD OF 'plaitlaw05.RingNew'. -/
def ringNewCard : Claim7 := { stood := { row := ringNewRow, standIns := [], harness := (true, "48352bbbaaf5246341b7388f5e206928a8c9476a8e87926a1cc8c37ed015d7ae"), looks := true }, kinds := [], alts := [], laidByText := true, laidKinds := [.handle], laidTests := true, laidLooks := .later }
def RingNewCardSaid : Prop := Claim7.holds Tryd.pinned (.plain (OpenSpec.ofChange ringNewSpec)) ringNewCard

/-- THE TIED CARD OF 'plaitlaw05.RingMerges'. -/
def ringMergesCard : Claim7 := { stood := { row := ringMergesRow, standIns := [], harness := (true, "48352bbbaaf5246341b7388f5e206928a8c9476a8e87926a1cc8c37ed015d7ae"), looks := true }, kinds := [], alts := [], laidByText := true, laidKinds := [.handle], laidTests := true, laidLooks := .later }
def RingMergesCardSaid : Prop := Claim7.holds Tryd.pinned (.plain (OpenSpec.ofChange ringMergesSpec)) ringMergesCard

/-- THE TIED CARD OF 'plaitlaw05.RingSplits'. -/
def ringSplitsCard : Claim7 := { stood := { row := ringSplitsRow, standIns := [], harness := (true, "48352bbbaaf5246341b7388f5e206928a8c9476a8e87926a1cc8c37ed015d7ae"), looks := true }, kinds := [], alts := [], laidByText := true, laidKinds := [.handle], laidTests := true, laidLooks := .later }
def RingSplitsCardSaid : Prop := Claim7.holds Tryd.pinned (.plain (OpenSpec.ofChange ringSplitsSpec)) ringSplitsCard

/-- THE SECOND FORM's CARD OF 'plaitlaw05.RingRuns'. -/
def ringRunsUptoCard : Claim7 := { stood := { row := ringRunsUptoRow, standIns := [], harness := (true, "48352bbbaaf5246341b7388f5e206928a8c9476a8e87926a1cc8c37ed015d7ae"), looks := true }, kinds := [], alts := [], laidByText := true, laidKinds := [.handle], laidTests := true, laidLooks := .later }
def RingRunsUptoCardSaid : Prop := Claim7.holds Tryd.pinned (.plain (OpenSpec.upto ringRunsSpec)) ringRunsUptoCard

/-- THE SECOND FORM's CARD OF 'plaitlaw05.RingNew'. -/
def ringNewUptoCard : Claim7 := { stood := { row := ringNewUptoRow, standIns := [], harness := (true, "48352bbbaaf5246341b7388f5e206928a8c9476a8e87926a1cc8c37ed015d7ae"), looks := true }, kinds := [], alts := [], laidByText := true, laidKinds := [.handle], laidTests := true, laidLooks := .later }
def RingNewUptoCardSaid : Prop := Claim7.holds Tryd.pinned (.plain (OpenSpec.upto ringNewSpec)) ringNewUptoCard

/-- THE SECOND FORM's CARD OF 'plaitlaw05.RingMerges'. -/
def ringMergesUptoCard : Claim7 := { stood := { row := ringMergesUptoRow, standIns := [], harness := (true, "48352bbbaaf5246341b7388f5e206928a8c9476a8e87926a1cc8c37ed015d7ae"), looks := true }, kinds := [], alts := [], laidByText := true, laidKinds := [.handle], laidTests := true, laidLooks := .later }
def RingMergesUptoCardSaid : Prop := Claim7.holds Tryd.pinned (.plain (OpenSpec.upto ringMergesSpec)) ringMergesUptoCard

/-- THE SECOND FORM's CARD OF 'plaitlaw05.RingSplits'. -/
def ringSplitsUptoCard : Claim7 := { stood := { row := ringSplitsUptoRow, standIns := [], harness := (true, "48352bbbaaf5246341b7388f5e206928a8c9476a8e87926a1cc8c37ed015d7ae"), looks := true }, kinds := [], alts := [], laidByText := true, laidKinds := [.handle], laidTests := true, laidLooks := .later }
def RingSplitsUptoCardSaid : Prop := Claim7.holds Tryd.pinned (.plain (OpenSpec.upto ringSplitsSpec)) ringSplitsUptoCard
end Rows
end Go.Proofs.YtiiklklokkcnpaaDoor
