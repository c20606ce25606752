/-
  DERIVED. GIVEN WITH THE SEED: THE CARDS: each row of YtghpjljnbdjmaaaGreatDoorRows.lean that lists a variable, with what it lists TIED to the program's text (the seventh form; the later family's looks); each row that meets fmt, with fmt's text TOLD by the authors' own Lean function (tested against real Go, not proved from fmt's source: count such statements apart). THE CARD IS WHAT COUNTS. Prove the row's statement (the work); the ties are given (YtghpjljnbdjmaaaGreatDoorTie.lean); close each card by the builder's one call (the guide's Derived/Test/ToyasCard.lean, 'card_holds'). Laid BY PROGRAM, IN A SANDBOX (cutbox-door.mjs). By AI agents, Wed Nov 11 2026. No macro, syntax, notation, axiom, sorry.
-/
import Derived.Test.YtghpjljnbdjmaaaGreatDoorRows
import GoSem.ClaimSeven
namespace Go.Proofs.YtghpjljnbdjmaaaGreatDoor
namespace Rows

/-- THE TIED CARD OF 'plaitlaw15.KinGroups'. -/
def kinGroupsCard : Claim7 := { stood := { row := kinGroupsRow, standIns := [], harness := (true, "e615762fa53d98a74e618e45d7a18d782379089ce2433147ee146cc381b5c071"), looks := true }, kinds := [], alts := [], laidByText := true, laidKinds := [.handle], laidTests := true, laidLooks := .later }
def KinGroupsCardSaid : Prop := Claim7.holds Tryz.pinned (.plain (OpenSpec.ofChange kinGroupsSpec)) kinGroupsCard

/-- THE TIED CARD OF 'plaitlaw15.KinBridges'. -/
def kinBridgesCard : Claim7 := { stood := { row := kinBridgesRow, standIns := [], harness := (true, "e615762fa53d98a74e618e45d7a18d782379089ce2433147ee146cc381b5c071"), looks := true }, kinds := [], alts := [], laidByText := true, laidKinds := [.handle], laidTests := true, laidLooks := .later }
def KinBridgesCardSaid : Prop := Claim7.holds Tryz.pinned (.plain (OpenSpec.ofChange kinBridgesSpec)) kinBridgesCard

/-- THE TIED CARD OF 'plaitlaw15.KinFaces'. -/
def kinFacesCard : Claim7 := { stood := { row := kinFacesRow, standIns := [], harness := (true, "e615762fa53d98a74e618e45d7a18d782379089ce2433147ee146cc381b5c071"), looks := true }, kinds := [], alts := [], laidByText := true, laidKinds := [.handle], laidTests := true, laidLooks := .later }
def KinFacesCardSaid : Prop := Claim7.holds Tryz.pinned (.plain (OpenSpec.ofChange kinFacesSpec)) kinFacesCard

/-- THE TIED CARD OF 'plaitlaw15.KinRoads'. -/
def kinRoadsCard : Claim7 := { stood := { row := kinRoadsRow, standIns := [], harness := (true, "e615762fa53d98a74e618e45d7a18d782379089ce2433147ee146cc381b5c071"), looks := true }, kinds := [], alts := [], laidByText := true, laidKinds := [.handle], laidTests := true, laidLooks := .later }
def KinRoadsCardSaid : Prop := Claim7.holds Tryz.pinned (.plain (OpenSpec.ofChange kinRoadsSpec)) kinRoadsCard

/-- THE TIED CARD OF 'plaitlaw15.KinBare'. -/
def kinBareCard : Claim7 := { stood := { row := kinBareRow, standIns := [], harness := (true, "e615762fa53d98a74e618e45d7a18d782379089ce2433147ee146cc381b5c071"), looks := true }, kinds := [], alts := [], laidByText := true, laidKinds := [.handle], laidTests := true, laidLooks := .later }
def KinBareCardSaid : Prop := Claim7.holds Tryz.pinned (.plain (OpenSpec.ofChange kinBareSpec)) kinBareCard

/-- THE SECOND FORM's CARD OF 'plaitlaw15.KinGroups'. -/
def kinGroupsUptoCard : Claim7 := { stood := { row := kinGroupsUptoRow, standIns := [], harness := (true, "e615762fa53d98a74e618e45d7a18d782379089ce2433147ee146cc381b5c071"), looks := true }, kinds := [], alts := [], laidByText := true, laidKinds := [.handle], laidTests := true, laidLooks := .later }
def KinGroupsUptoCardSaid : Prop := Claim7.holds Tryz.pinned (.plain (OpenSpec.upto kinGroupsSpec)) kinGroupsUptoCard

/-- THE SECOND FORM's CARD OF 'plaitlaw15.KinBridges'. -/
def kinBridgesUptoCard : Claim7 := { stood := { row := kinBridgesUptoRow, standIns := [], harness := (true, "e615762fa53d98a74e618e45d7a18d782379089ce2433147ee146cc381b5c071"), looks := true }, kinds := [], alts := [], laidByText := true, laidKinds := [.handle], laidTests := true, laidLooks := .later }
def KinBridgesUptoCardSaid : Prop := Claim7.holds Tryz.pinned (.plain (OpenSpec.upto kinBridgesSpec)) kinBridgesUptoCard

/-- THE SECOND FORM's CARD OF 'plaitlaw15.KinFaces'. -/
def kinFacesUptoCard : Claim7 := { stood := { row := kinFacesUptoRow, standIns := [], harness := (true, "e615762fa53d98a74e618e45d7a18d782379089ce2433147ee146cc381b5c071"), looks := true }, kinds := [], alts := [], laidByText := true, laidKinds := [.handle], laidTests := true, laidLooks := .later }
def KinFacesUptoCardSaid : Prop := Claim7.holds Tryz.pinned (.plain (OpenSpec.upto kinFacesSpec)) kinFacesUptoCard

/-- THE SECOND FORM's CARD OF 'plaitlaw15.KinRoads'. -/
def kinRoadsUptoCard : Claim7 := { stood := { row := kinRoadsUptoRow, standIns := [], harness := (true, "e615762fa53d98a74e618e45d7a18d782379089ce2433147ee146cc381b5c071"), looks := true }, kinds := [], alts := [], laidByText := true, laidKinds := [.handle], laidTests := true, laidLooks := .later }
def KinRoadsUptoCardSaid : Prop := Claim7.holds Tryz.pinned (.plain (OpenSpec.upto kinRoadsSpec)) kinRoadsUptoCard

/-- THE SECOND FORM's CARD OF 'plaitlaw15.KinBare'. -/
def kinBareUptoCard : Claim7 := { stood := { row := kinBareUptoRow, standIns := [], harness := (true, "e615762fa53d98a74e618e45d7a18d782379089ce2433147ee146cc381b5c071"), looks := true }, kinds := [], alts := [], laidByText := true, laidKinds := [.handle], laidTests := true, laidLooks := .later }
def KinBareUptoCardSaid : Prop := Claim7.holds Tryz.pinned (.plain (OpenSpec.upto kinBareSpec)) kinBareUptoCard
end Rows
end Go.Proofs.YtghpjljnbdjmaaaGreatDoor
