/-
  DERIVED. GIVEN WITH THE SEED: THE CARDS: each row of YtieglcjfphmglaaDoorRows.lean that lists a variable, with what it lists TIED to the program's text (the seventh form; the later family's looks); each row that meets fmt, with fmt's text TOLD by the authors' own Lean function (tested against real Go, not proved from fmt's source: count such statements apart). THE CARD IS WHAT COUNTS. Prove the row's statement (the work); the ties are given (YtieglcjfphmglaaDoorTie.lean); close each card by the builder's one call (the guide's Derived/Test/ToyasCard.lean, 'card_holds'). Laid BY PROGRAM, IN A SANDBOX (cutbox-door.mjs). By AI agents, Wed Nov 11 2026. No macro, syntax, notation, axiom, sorry.
-/
import Derived.Test.YtieglcjfphmglaaDoorRows
import GoSem.ClaimSeven
namespace Go.Proofs.YtieglcjfphmglaaDoor
namespace Rows

/-- THE TIED CARD OF 'plaitlaw11.FaceWalks'. -/
def faceWalksCard : Claim7 := { stood := { row := faceWalksRow, standIns := [], harness := (true, "132256c49a4bce47fdc324b498611ad41b62d84f731f2e3a9a39d7fd5ff1f67b"), looks := true }, kinds := [], alts := [], laidByText := true, laidKinds := [.handle], laidTests := true, laidLooks := .later }
def FaceWalksCardSaid : Prop := Claim7.holds Tryd.pinned (.plain (OpenSpec.ofChange faceWalksSpec)) faceWalksCard

/-- THE TIED CARD OF 'plaitlaw11.FaceCorners'. -/
def faceCornersCard : Claim7 := { stood := { row := faceCornersRow, standIns := [], harness := (true, "132256c49a4bce47fdc324b498611ad41b62d84f731f2e3a9a39d7fd5ff1f67b"), looks := true }, kinds := [], alts := [], laidByText := true, laidKinds := [.handle], laidTests := true, laidLooks := .later }
def FaceCornersCardSaid : Prop := Claim7.holds Tryd.pinned (.plain (OpenSpec.ofChange faceCornersSpec)) faceCornersCard

/-- THE TIED CARD OF 'plaitlaw11.FaceOnce'. -/
def faceOnceCard : Claim7 := { stood := { row := faceOnceRow, standIns := [], harness := (true, "132256c49a4bce47fdc324b498611ad41b62d84f731f2e3a9a39d7fd5ff1f67b"), looks := true }, kinds := [], alts := [], laidByText := true, laidKinds := [.handle], laidTests := true, laidLooks := .later }
def FaceOnceCardSaid : Prop := Claim7.holds Tryd.pinned (.plain (OpenSpec.ofChange faceOnceSpec)) faceOnceCard

/-- THE TIED CARD OF 'plaitlaw11.FaceSplits'. -/
def faceSplitsCard : Claim7 := { stood := { row := faceSplitsRow, standIns := [], harness := (true, "132256c49a4bce47fdc324b498611ad41b62d84f731f2e3a9a39d7fd5ff1f67b"), looks := true }, kinds := [], alts := [], laidByText := true, laidKinds := [.handle], laidTests := true, laidLooks := .later }
def FaceSplitsCardSaid : Prop := Claim7.holds Tryd.pinned (.plain (OpenSpec.ofChange faceSplitsSpec)) faceSplitsCard

/-- THE TIED CARD OF 'plaitlaw11.FaceNexts'. -/
def faceNextsCard : Claim7 := { stood := { row := faceNextsRow, standIns := [], harness := (true, "132256c49a4bce47fdc324b498611ad41b62d84f731f2e3a9a39d7fd5ff1f67b"), looks := true }, kinds := [], alts := [], laidByText := true, laidKinds := [.handle], laidTests := true, laidLooks := .later }
def FaceNextsCardSaid : Prop := Claim7.holds Tryd.pinned (.plain (OpenSpec.ofChange faceNextsSpec)) faceNextsCard

/-- THE TIED CARD OF 'plaitlaw11.FaceAts'. -/
def faceAtsCard : Claim7 := { stood := { row := faceAtsRow, standIns := [], harness := (true, "132256c49a4bce47fdc324b498611ad41b62d84f731f2e3a9a39d7fd5ff1f67b"), looks := true }, kinds := [], alts := [], laidByText := true, laidKinds := [.handle], laidTests := true, laidLooks := .later }
def FaceAtsCardSaid : Prop := Claim7.holds Tryd.pinned (.plain (OpenSpec.ofChange faceAtsSpec)) faceAtsCard

/-- THE SECOND FORM's CARD OF 'plaitlaw11.FaceWalks'. -/
def faceWalksUptoCard : Claim7 := { stood := { row := faceWalksUptoRow, standIns := [], harness := (true, "132256c49a4bce47fdc324b498611ad41b62d84f731f2e3a9a39d7fd5ff1f67b"), looks := true }, kinds := [], alts := [], laidByText := true, laidKinds := [.handle], laidTests := true, laidLooks := .later }
def FaceWalksUptoCardSaid : Prop := Claim7.holds Tryd.pinned (.plain (OpenSpec.upto faceWalksSpec)) faceWalksUptoCard

/-- THE SECOND FORM's CARD OF 'plaitlaw11.FaceCorners'. -/
def faceCornersUptoCard : Claim7 := { stood := { row := faceCornersUptoRow, standIns := [], harness := (true, "132256c49a4bce47fdc324b498611ad41b62d84f731f2e3a9a39d7fd5ff1f67b"), looks := true }, kinds := [], alts := [], laidByText := true, laidKinds := [.handle], laidTests := true, laidLooks := .later }
def FaceCornersUptoCardSaid : Prop := Claim7.holds Tryd.pinned (.plain (OpenSpec.upto faceCornersSpec)) faceCornersUptoCard

/-- THE SECOND FORM's CARD OF 'plaitlaw11.FaceOnce'. -/
def faceOnceUptoCard : Claim7 := { stood := { row := faceOnceUptoRow, standIns := [], harness := (true, "132256c49a4bce47fdc324b498611ad41b62d84f731f2e3a9a39d7fd5ff1f67b"), looks := true }, kinds := [], alts := [], laidByText := true, laidKinds := [.handle], laidTests := true, laidLooks := .later }
def FaceOnceUptoCardSaid : Prop := Claim7.holds Tryd.pinned (.plain (OpenSpec.upto faceOnceSpec)) faceOnceUptoCard

/-- THE SECOND FORM's CARD OF 'plaitlaw11.FaceSplits'. -/
def faceSplitsUptoCard : Claim7 := { stood := { row := faceSplitsUptoRow, standIns := [], harness := (true, "132256c49a4bce47fdc324b498611ad41b62d84f731f2e3a9a39d7fd5ff1f67b"), looks := true }, kinds := [], alts := [], laidByText := true, laidKinds := [.handle], laidTests := true, laidLooks := .later }
def FaceSplitsUptoCardSaid : Prop := Claim7.holds Tryd.pinned (.plain (OpenSpec.upto faceSplitsSpec)) faceSplitsUptoCard

/-- THE SECOND FORM's CARD OF 'plaitlaw11.FaceNexts'. -/
def faceNextsUptoCard : Claim7 := { stood := { row := faceNextsUptoRow, standIns := [], harness := (true, "132256c49a4bce47fdc324b498611ad41b62d84f731f2e3a9a39d7fd5ff1f67b"), looks := true }, kinds := [], alts := [], laidByText := true, laidKinds := [.handle], laidTests := true, laidLooks := .later }
def FaceNextsUptoCardSaid : Prop := Claim7.holds Tryd.pinned (.plain (OpenSpec.upto faceNextsSpec)) faceNextsUptoCard

/-- THE SECOND FORM's CARD OF 'plaitlaw11.FaceAts'. -/
def faceAtsUptoCard : Claim7 := { stood := { row := faceAtsUptoRow, standIns := [], harness := (true, "132256c49a4bce47fdc324b498611ad41b62d84f731f2e3a9a39d7fd5ff1f67b"), looks := true }, kinds := [], alts := [], laidByText := true, laidKinds := [.handle], laidTests := true, laidLooks := .later }
def FaceAtsUptoCardSaid : Prop := Claim7.holds Tryd.pinned (.plain (OpenSpec.upto faceAtsSpec)) faceAtsUptoCard
end Rows
end Go.Proofs.YtieglcjfphmglaaDoor
