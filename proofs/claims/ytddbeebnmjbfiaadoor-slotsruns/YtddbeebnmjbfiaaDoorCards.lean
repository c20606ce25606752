/-
  DERIVED. GIVEN WITH THE SEED: THE CARDS: each row of YtddbeebnmjbfiaaDoorRows.lean that lists a variable, with what it lists TIED to the program's text (the seventh form; the later family's looks); each row that meets fmt, with fmt's text TOLD by the authors' own Lean function (tested against real Go, not proved from fmt's source: count such statements apart). THE CARD IS WHAT COUNTS. Prove the row's statement (the work); the ties are given (YtddbeebnmjbfiaaDoorTie.lean); close each card by the builder's one call (the guide's Derived/Test/ToyasCard.lean, 'card_holds'). Laid BY PROGRAM, IN A SANDBOX (cutbox-door.mjs). By AI agents, Wed Nov 11 2026. No macro, syntax, notation, axiom, sorry.
-/
import Derived.Test.YtddbeebnmjbfiaaDoorRows
import GoSem.ClaimSeven
namespace Go.Proofs.YtddbeebnmjbfiaaDoor
namespace Rows

/-- THE TIED CARD OF 'plaitlaw02.SlotsRuns'. -/
def slotsRunsCard : Claim7 := { stood := { row := slotsRunsRow, standIns := [], harness := (true, "21e0fb2aa83d49d7fd132ab3ad8fefa4ee32d45baea96c0fc041237f065dbf06"), looks := true }, kinds := [], alts := [], laidByText := true, laidKinds := [.data, .handle], laidTests := true, laidLooks := .later }
def SlotsRunsCardSaid : Prop := Claim7.holds Tryd.pinned (.plain (OpenSpec.ofChange slotsRunsSpec)) slotsRunsCard

/-- THE TIED CARD OF 'plaitlaw02.SlotsNew'. -/
def slotsNewCard : Claim7 := { stood := { row := slotsNewRow, standIns := [], harness := (true, "21e0fb2aa83d49d7fd132ab3ad8fefa4ee32d45baea96c0fc041237f065dbf06"), looks := true }, kinds := [], alts := [], laidByText := true, laidKinds := [.data, .handle], laidTests := true, laidLooks := .later }
def SlotsNewCardSaid : Prop := Claim7.holds Tryd.pinned (.plain (OpenSpec.ofChange slotsNewSpec)) slotsNewCard

/-- THE TIED CARD OF 'plaitlaw02.SlotsNexts'. -/
def slotsNextsCard : Claim7 := { stood := { row := slotsNextsRow, standIns := [], harness := (true, "21e0fb2aa83d49d7fd132ab3ad8fefa4ee32d45baea96c0fc041237f065dbf06"), looks := true }, kinds := [], alts := [], laidByText := true, laidKinds := [.data], laidTests := true, laidLooks := .later }
def SlotsNextsCardSaid : Prop := Claim7.holds Tryd.pinned (.plain (OpenSpec.ofChange slotsNextsSpec)) slotsNextsCard

/-- THE TIED CARD OF 'plaitlaw02.SlotsLowest'. -/
def slotsLowestCard : Claim7 := { stood := { row := slotsLowestRow, standIns := [], harness := (true, "21e0fb2aa83d49d7fd132ab3ad8fefa4ee32d45baea96c0fc041237f065dbf06"), looks := true }, kinds := [], alts := [], laidByText := true, laidKinds := [.data, .handle], laidTests := true, laidLooks := .later }
def SlotsLowestCardSaid : Prop := Claim7.holds Tryd.pinned (.plain (OpenSpec.ofChange slotsLowestSpec)) slotsLowestCard

/-- THE TIED CARD OF 'plaitlaw02.SlotsOrder'. -/
def slotsOrderCard : Claim7 := { stood := { row := slotsOrderRow, standIns := [], harness := (true, "21e0fb2aa83d49d7fd132ab3ad8fefa4ee32d45baea96c0fc041237f065dbf06"), looks := true }, kinds := [], alts := [], laidByText := true, laidKinds := [.data], laidTests := true, laidLooks := .later }
def SlotsOrderCardSaid : Prop := Claim7.holds Tryd.pinned (.plain (OpenSpec.ofChange slotsOrderSpec)) slotsOrderCard

/-- THE TIED CARD OF 'plaitlaw02.SlotsBack'. -/
def slotsBackCard : Claim7 := { stood := { row := slotsBackRow, standIns := [], harness := (true, "21e0fb2aa83d49d7fd132ab3ad8fefa4ee32d45baea96c0fc041237f065dbf06"), looks := true }, kinds := [], alts := [], laidByText := true, laidKinds := [.data, .handle], laidTests := true, laidLooks := .later }
def SlotsBackCardSaid : Prop := Claim7.holds Tryd.pinned (.plain (OpenSpec.ofChange slotsBackSpec)) slotsBackCard

/-- THE SECOND FORM's CARD OF 'plaitlaw02.SlotsRuns'. -/
def slotsRunsUptoCard : Claim7 := { stood := { row := slotsRunsUptoRow, standIns := [], harness := (true, "21e0fb2aa83d49d7fd132ab3ad8fefa4ee32d45baea96c0fc041237f065dbf06"), looks := true }, kinds := [], alts := [], laidByText := true, laidKinds := [.data, .handle], laidTests := true, laidLooks := .later }
def SlotsRunsUptoCardSaid : Prop := Claim7.holds Tryd.pinned (.plain (OpenSpec.upto slotsRunsSpec)) slotsRunsUptoCard

/-- THE SECOND FORM's CARD OF 'plaitlaw02.SlotsNew'. -/
def slotsNewUptoCard : Claim7 := { stood := { row := slotsNewUptoRow, standIns := [], harness := (true, "21e0fb2aa83d49d7fd132ab3ad8fefa4ee32d45baea96c0fc041237f065dbf06"), looks := true }, kinds := [], alts := [], laidByText := true, laidKinds := [.data, .handle], laidTests := true, laidLooks := .later }
def SlotsNewUptoCardSaid : Prop := Claim7.holds Tryd.pinned (.plain (OpenSpec.upto slotsNewSpec)) slotsNewUptoCard

/-- THE SECOND FORM's CARD OF 'plaitlaw02.SlotsNexts'. -/
def slotsNextsUptoCard : Claim7 := { stood := { row := slotsNextsUptoRow, standIns := [], harness := (true, "21e0fb2aa83d49d7fd132ab3ad8fefa4ee32d45baea96c0fc041237f065dbf06"), looks := true }, kinds := [], alts := [], laidByText := true, laidKinds := [.data], laidTests := true, laidLooks := .later }
def SlotsNextsUptoCardSaid : Prop := Claim7.holds Tryd.pinned (.plain (OpenSpec.upto slotsNextsSpec)) slotsNextsUptoCard

/-- THE SECOND FORM's CARD OF 'plaitlaw02.SlotsLowest'. -/
def slotsLowestUptoCard : Claim7 := { stood := { row := slotsLowestUptoRow, standIns := [], harness := (true, "21e0fb2aa83d49d7fd132ab3ad8fefa4ee32d45baea96c0fc041237f065dbf06"), looks := true }, kinds := [], alts := [], laidByText := true, laidKinds := [.data, .handle], laidTests := true, laidLooks := .later }
def SlotsLowestUptoCardSaid : Prop := Claim7.holds Tryd.pinned (.plain (OpenSpec.upto slotsLowestSpec)) slotsLowestUptoCard

/-- THE SECOND FORM's CARD OF 'plaitlaw02.SlotsOrder'. -/
def slotsOrderUptoCard : Claim7 := { stood := { row := slotsOrderUptoRow, standIns := [], harness := (true, "21e0fb2aa83d49d7fd132ab3ad8fefa4ee32d45baea96c0fc041237f065dbf06"), looks := true }, kinds := [], alts := [], laidByText := true, laidKinds := [.data], laidTests := true, laidLooks := .later }
def SlotsOrderUptoCardSaid : Prop := Claim7.holds Tryd.pinned (.plain (OpenSpec.upto slotsOrderSpec)) slotsOrderUptoCard

/-- THE SECOND FORM's CARD OF 'plaitlaw02.SlotsBack'. -/
def slotsBackUptoCard : Claim7 := { stood := { row := slotsBackUptoRow, standIns := [], harness := (true, "21e0fb2aa83d49d7fd132ab3ad8fefa4ee32d45baea96c0fc041237f065dbf06"), looks := true }, kinds := [], alts := [], laidByText := true, laidKinds := [.data, .handle], laidTests := true, laidLooks := .later }
def SlotsBackUptoCardSaid : Prop := Claim7.holds Tryd.pinned (.plain (OpenSpec.upto slotsBackSpec)) slotsBackUptoCard
end Rows
end Go.Proofs.YtddbeebnmjbfiaaDoor
