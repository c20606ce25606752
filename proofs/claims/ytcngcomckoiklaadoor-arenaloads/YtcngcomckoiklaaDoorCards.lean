/-
  DERIVED. GIVEN WITH THE SEED: THE CARDS: each row of YtcngcomckoiklaaDoorRows.lean that lists a variable, with what it lists TIED to the program's text (the seventh form; the later family's looks); each row that meets fmt, with fmt's text TOLD by the authors' own Lean function (tested against real Go, not proved from fmt's source: count such statements apart). THE CARD IS WHAT COUNTS. Prove the row's statement (the work); the ties are given (YtcngcomckoiklaaDoorTie.lean); close each card by the builder's one call (the guide's Derived/Test/ToyasCard.lean, 'card_holds'). Laid BY PROGRAM, IN A SANDBOX (cutbox-door.mjs). By AI agents, Wed Nov 11 2026. No macro, syntax, notation, axiom, sorry.
-/
import Derived.Test.YtcngcomckoiklaaDoorRows
import GoSem.ClaimSeven
namespace Go.Proofs.YtcngcomckoiklaaDoor
namespace Rows

/-- THE TIED CARD OF 'plaitlaw03.ArenaLoads'. -/
def arenaLoadsCard : Claim7 := { stood := { row := arenaLoadsRow, standIns := [], harness := (true, "806f5e5e083afc4c140c9f543fae4091dcbdd10dfc5f336013f6c8f878762918"), looks := true }, kinds := [], alts := [], laidByText := true, laidKinds := [.data, .handle], laidTests := true, laidLooks := .later }
def ArenaLoadsCardSaid : Prop := Claim7.holds Tryd.pinned (.plain (OpenSpec.ofChange arenaLoadsSpec)) arenaLoadsCard

/-- THE TIED CARD OF 'plaitlaw03.ArenaRuns'. -/
def arenaRunsCard : Claim7 := { stood := { row := arenaRunsRow, standIns := [], harness := (true, "806f5e5e083afc4c140c9f543fae4091dcbdd10dfc5f336013f6c8f878762918"), looks := true }, kinds := [], alts := [], laidByText := true, laidKinds := [.data, .handle], laidTests := true, laidLooks := .later }
def ArenaRunsCardSaid : Prop := Claim7.holds Tryd.pinned (.plain (OpenSpec.ofChange arenaRunsSpec)) arenaRunsCard

/-- THE TIED CARD OF 'plaitlaw03.ArenaNew'. -/
def arenaNewCard : Claim7 := { stood := { row := arenaNewRow, standIns := [], harness := (true, "806f5e5e083afc4c140c9f543fae4091dcbdd10dfc5f336013f6c8f878762918"), looks := true }, kinds := [], alts := [], laidByText := true, laidKinds := [.data, .handle], laidTests := true, laidLooks := .later }
def ArenaNewCardSaid : Prop := Claim7.holds Tryd.pinned (.plain (OpenSpec.ofChange arenaNewSpec)) arenaNewCard

/-- THE TIED CARD OF 'plaitlaw03.ArenaOnce'. -/
def arenaOnceCard : Claim7 := { stood := { row := arenaOnceRow, standIns := [], harness := (true, "806f5e5e083afc4c140c9f543fae4091dcbdd10dfc5f336013f6c8f878762918"), looks := true }, kinds := [], alts := [], laidByText := true, laidKinds := [.data, .handle], laidTests := true, laidLooks := .later }
def ArenaOnceCardSaid : Prop := Claim7.holds Tryd.pinned (.plain (OpenSpec.ofChange arenaOnceSpec)) arenaOnceCard

/-- THE TIED CARD OF 'plaitlaw03.ArenaBack'. -/
def arenaBackCard : Claim7 := { stood := { row := arenaBackRow, standIns := [], harness := (true, "806f5e5e083afc4c140c9f543fae4091dcbdd10dfc5f336013f6c8f878762918"), looks := true }, kinds := [], alts := [], laidByText := true, laidKinds := [.data, .handle], laidTests := true, laidLooks := .later }
def ArenaBackCardSaid : Prop := Claim7.holds Tryd.pinned (.plain (OpenSpec.ofChange arenaBackSpec)) arenaBackCard

/-- THE TIED CARD OF 'plaitlaw03.ArenaAges'. -/
def arenaAgesCard : Claim7 := { stood := { row := arenaAgesRow, standIns := [], harness := (true, "806f5e5e083afc4c140c9f543fae4091dcbdd10dfc5f336013f6c8f878762918"), looks := true }, kinds := [], alts := [], laidByText := true, laidKinds := [.data], laidTests := true, laidLooks := .later }
def ArenaAgesCardSaid : Prop := Claim7.holds Tryd.pinned (.plain (OpenSpec.ofChange arenaAgesSpec)) arenaAgesCard

/-- THE SECOND FORM's CARD OF 'plaitlaw03.ArenaLoads'. -/
def arenaLoadsUptoCard : Claim7 := { stood := { row := arenaLoadsUptoRow, standIns := [], harness := (true, "806f5e5e083afc4c140c9f543fae4091dcbdd10dfc5f336013f6c8f878762918"), looks := true }, kinds := [], alts := [], laidByText := true, laidKinds := [.data, .handle], laidTests := true, laidLooks := .later }
def ArenaLoadsUptoCardSaid : Prop := Claim7.holds Tryd.pinned (.plain (OpenSpec.upto arenaLoadsSpec)) arenaLoadsUptoCard

/-- THE SECOND FORM's CARD OF 'plaitlaw03.ArenaRuns'. -/
def arenaRunsUptoCard : Claim7 := { stood := { row := arenaRunsUptoRow, standIns := [], harness := (true, "806f5e5e083afc4c140c9f543fae4091dcbdd10dfc5f336013f6c8f878762918"), looks := true }, kinds := [], alts := [], laidByText := true, laidKinds := [.data, .handle], laidTests := true, laidLooks := .later }
def ArenaRunsUptoCardSaid : Prop := Claim7.holds Tryd.pinned (.plain (OpenSpec.upto arenaRunsSpec)) arenaRunsUptoCard

/-- THE SECOND FORM's CARD OF 'plaitlaw03.ArenaNew'. -/
def arenaNewUptoCard : Claim7 := { stood := { row := arenaNewUptoRow, standIns := [], harness := (true, "806f5e5e083afc4c140c9f543fae4091dcbdd10dfc5f336013f6c8f878762918"), looks := true }, kinds := [], alts := [], laidByText := true, laidKinds := [.data, .handle], laidTests := true, laidLooks := .later }
def ArenaNewUptoCardSaid : Prop := Claim7.holds Tryd.pinned (.plain (OpenSpec.upto arenaNewSpec)) arenaNewUptoCard

/-- THE SECOND FORM's CARD OF 'plaitlaw03.ArenaOnce'. -/
def arenaOnceUptoCard : Claim7 := { stood := { row := arenaOnceUptoRow, standIns := [], harness := (true, "806f5e5e083afc4c140c9f543fae4091dcbdd10dfc5f336013f6c8f878762918"), looks := true }, kinds := [], alts := [], laidByText := true, laidKinds := [.data, .handle], laidTests := true, laidLooks := .later }
def ArenaOnceUptoCardSaid : Prop := Claim7.holds Tryd.pinned (.plain (OpenSpec.upto arenaOnceSpec)) arenaOnceUptoCard

/-- THE SECOND FORM's CARD OF 'plaitlaw03.ArenaBack'. -/
def arenaBackUptoCard : Claim7 := { stood := { row := arenaBackUptoRow, standIns := [], harness := (true, "806f5e5e083afc4c140c9f543fae4091dcbdd10dfc5f336013f6c8f878762918"), looks := true }, kinds := [], alts := [], laidByText := true, laidKinds := [.data, .handle], laidTests := true, laidLooks := .later }
def ArenaBackUptoCardSaid : Prop := Claim7.holds Tryd.pinned (.plain (OpenSpec.upto arenaBackSpec)) arenaBackUptoCard

/-- THE SECOND FORM's CARD OF 'plaitlaw03.ArenaAges'. -/
def arenaAgesUptoCard : Claim7 := { stood := { row := arenaAgesUptoRow, standIns := [], harness := (true, "806f5e5e083afc4c140c9f543fae4091dcbdd10dfc5f336013f6c8f878762918"), looks := true }, kinds := [], alts := [], laidByText := true, laidKinds := [.data], laidTests := true, laidLooks := .later }
def ArenaAgesUptoCardSaid : Prop := Claim7.holds Tryd.pinned (.plain (OpenSpec.upto arenaAgesSpec)) arenaAgesUptoCard
end Rows
end Go.Proofs.YtcngcomckoiklaaDoor
