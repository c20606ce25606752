/-
  DERIVED. GIVEN WITH THE SEED: THE CARDS: each row of YtboafgimjadboaaGreatDoorRows.lean that lists a variable, with what it lists TIED to the program's text (the seventh form; the later family's looks); each row that meets fmt, with fmt's text TOLD by the authors' own Lean function (tested against real Go, not proved from fmt's source: count such statements apart). THE CARD IS WHAT COUNTS. Prove the row's statement (the work); the ties are given (YtboafgimjadboaaGreatDoorTie.lean); close each card by the builder's one call (the guide's Derived/Test/ToyasCard.lean, 'card_holds'). Laid BY PROGRAM, IN A SANDBOX (cutbox-door.mjs). By AI agents, Wed Nov 11 2026. No macro, syntax, notation, axiom, sorry.
-/
import Derived.Test.YtboafgimjadboaaGreatDoorRows
import GoSem.ClaimSeven
namespace Go.Proofs.YtboafgimjadboaaGreatDoor
namespace Rows

/-- THE TIED CARD OF 'plaitlaw17.ModelChecks'. -/
def modelChecksCard : Claim7 := { stood := { row := modelChecksRow, standIns := [], harness := (true, "520091b4d44fd61eab1cc8fc3d785b738023f84b8a099634731b4285f4682e16"), looks := true }, kinds := [], alts := [], laidByText := true, laidKinds := [.data, .handle], laidTests := true, laidLooks := .later }
def ModelChecksCardSaid : Prop := Claim7.holds Tryz.pinned (.plain (OpenSpec.ofChange modelChecksSpec)) modelChecksCard

/-- THE TIED CARD OF 'plaitlaw17.ModelEncodes'. -/
def modelEncodesCard : Claim7 := { stood := { row := modelEncodesRow, standIns := [], harness := (true, "520091b4d44fd61eab1cc8fc3d785b738023f84b8a099634731b4285f4682e16"), looks := true }, kinds := [], alts := [], laidByText := true, laidKinds := [.data, .handle], laidTests := true, laidLooks := .later }
def ModelEncodesCardSaid : Prop := Claim7.holds Tryz.pinned (.plain (OpenSpec.ofChange modelEncodesSpec)) modelEncodesCard

/-- THE TIED CARD OF 'plaitlaw17.ModelDecodes'. -/
def modelDecodesCard : Claim7 := { stood := { row := modelDecodesRow, standIns := [], harness := (true, "520091b4d44fd61eab1cc8fc3d785b738023f84b8a099634731b4285f4682e16"), looks := true }, kinds := [], alts := [], laidByText := true, laidKinds := [.data, .handle], laidTests := true, laidLooks := .later }
def ModelDecodesCardSaid : Prop := Claim7.holds Tryz.pinned (.plain (OpenSpec.ofChange modelDecodesSpec)) modelDecodesCard

/-- THE TIED CARD OF 'plaitlaw17.ModelBack'. -/
def modelBackCard : Claim7 := { stood := { row := modelBackRow, standIns := [], harness := (true, "520091b4d44fd61eab1cc8fc3d785b738023f84b8a099634731b4285f4682e16"), looks := true }, kinds := [], alts := [], laidByText := true, laidKinds := [.data, .handle], laidTests := true, laidLooks := .later }
def ModelBackCardSaid : Prop := Claim7.holds Tryz.pinned (.plain (OpenSpec.ofChange modelBackSpec)) modelBackCard

/-- THE TIED CARD OF 'plaitlaw17.ModelRounds'. -/
def modelRoundsCard : Claim7 := { stood := { row := modelRoundsRow, standIns := [], harness := (true, "520091b4d44fd61eab1cc8fc3d785b738023f84b8a099634731b4285f4682e16"), looks := true }, kinds := [], alts := [], laidByText := true, laidKinds := [.data, .handle], laidTests := true, laidLooks := .later }
def ModelRoundsCardSaid : Prop := Claim7.holds Tryz.pinned (.plain (OpenSpec.ofChange modelRoundsSpec)) modelRoundsCard

/-- THE TIED CARD OF 'plaitlaw17.ModelForged'. -/
def modelForgedCard : Claim7 := { stood := { row := modelForgedRow, standIns := [], harness := (true, "520091b4d44fd61eab1cc8fc3d785b738023f84b8a099634731b4285f4682e16"), looks := true }, kinds := [], alts := [], laidByText := true, laidKinds := [.data, .handle], laidTests := true, laidLooks := .later }
def ModelForgedCardSaid : Prop := Claim7.holds Tryz.pinned (.plain (OpenSpec.ofChange modelForgedSpec)) modelForgedCard

/-- THE SECOND FORM's CARD OF 'plaitlaw17.ModelChecks'. -/
def modelChecksUptoCard : Claim7 := { stood := { row := modelChecksUptoRow, standIns := [], harness := (true, "520091b4d44fd61eab1cc8fc3d785b738023f84b8a099634731b4285f4682e16"), looks := true }, kinds := [], alts := [], laidByText := true, laidKinds := [.data, .handle], laidTests := true, laidLooks := .later }
def ModelChecksUptoCardSaid : Prop := Claim7.holds Tryz.pinned (.plain (OpenSpec.upto modelChecksSpec)) modelChecksUptoCard

/-- THE SECOND FORM's CARD OF 'plaitlaw17.ModelEncodes'. -/
def modelEncodesUptoCard : Claim7 := { stood := { row := modelEncodesUptoRow, standIns := [], harness := (true, "520091b4d44fd61eab1cc8fc3d785b738023f84b8a099634731b4285f4682e16"), looks := true }, kinds := [], alts := [], laidByText := true, laidKinds := [.data, .handle], laidTests := true, laidLooks := .later }
def ModelEncodesUptoCardSaid : Prop := Claim7.holds Tryz.pinned (.plain (OpenSpec.upto modelEncodesSpec)) modelEncodesUptoCard

/-- THE SECOND FORM's CARD OF 'plaitlaw17.ModelDecodes'. -/
def modelDecodesUptoCard : Claim7 := { stood := { row := modelDecodesUptoRow, standIns := [], harness := (true, "520091b4d44fd61eab1cc8fc3d785b738023f84b8a099634731b4285f4682e16"), looks := true }, kinds := [], alts := [], laidByText := true, laidKinds := [.data, .handle], laidTests := true, laidLooks := .later }
def ModelDecodesUptoCardSaid : Prop := Claim7.holds Tryz.pinned (.plain (OpenSpec.upto modelDecodesSpec)) modelDecodesUptoCard

/-- THE SECOND FORM's CARD OF 'plaitlaw17.ModelBack'. -/
def modelBackUptoCard : Claim7 := { stood := { row := modelBackUptoRow, standIns := [], harness := (true, "520091b4d44fd61eab1cc8fc3d785b738023f84b8a099634731b4285f4682e16"), looks := true }, kinds := [], alts := [], laidByText := true, laidKinds := [.data, .handle], laidTests := true, laidLooks := .later }
def ModelBackUptoCardSaid : Prop := Claim7.holds Tryz.pinned (.plain (OpenSpec.upto modelBackSpec)) modelBackUptoCard

/-- THE SECOND FORM's CARD OF 'plaitlaw17.ModelRounds'. -/
def modelRoundsUptoCard : Claim7 := { stood := { row := modelRoundsUptoRow, standIns := [], harness := (true, "520091b4d44fd61eab1cc8fc3d785b738023f84b8a099634731b4285f4682e16"), looks := true }, kinds := [], alts := [], laidByText := true, laidKinds := [.data, .handle], laidTests := true, laidLooks := .later }
def ModelRoundsUptoCardSaid : Prop := Claim7.holds Tryz.pinned (.plain (OpenSpec.upto modelRoundsSpec)) modelRoundsUptoCard

/-- THE SECOND FORM's CARD OF 'plaitlaw17.ModelForged'. -/
def modelForgedUptoCard : Claim7 := { stood := { row := modelForgedUptoRow, standIns := [], harness := (true, "520091b4d44fd61eab1cc8fc3d785b738023f84b8a099634731b4285f4682e16"), looks := true }, kinds := [], alts := [], laidByText := true, laidKinds := [.data, .handle], laidTests := true, laidLooks := .later }
def ModelForgedUptoCardSaid : Prop := Claim7.holds Tryz.pinned (.plain (OpenSpec.upto modelForgedSpec)) modelForgedUptoCard
end Rows
end Go.Proofs.YtboafgimjadboaaGreatDoor
