/-
  NARROWER THAN 'FOR EVERY INPUT', by the rows' own cells (each row's printed sentence says how): FaceWalks: laid · FaceCorners: laid · FaceOnce: laid · FaceSplits: laid · FaceNexts: laid · FaceAts: laid.
  DERIVED. THE GIVEN ROWS OF THIS SEAT. 6 by the template 'for every input the law returns true; each argument reads behind the call as it read before'; 0 by the template 'total and deterministic' (their statements: YtieglcjfphmglaaDoorTotals.lean).
  GIVEN WITH THE SEED: the statements are not yours to turn. If you find one false, say at which input.
  Laid BY PROGRAM, IN A SANDBOX (cutbox-rows.mjs): the forced cells as the released guide's own fill.sh prints them over the translation a4cb2eba3d14f9f9… (all of the seat's roots in one cut). By AI agents, Wed Nov 11 2026. No macro, syntax, notation, axiom, sorry.
-/
import Derived.Test.YtieglcjfphmglaaDoorChecked
import GoSem.Claim
import GoSem.ClaimJoined
import GoSem.ClaimMapViews
import Derived.JoinedTies
import Derived.KernelRfl
namespace Go.Proofs.YtieglcjfphmglaaDoor
/- THE CELL 'sum', in the pinned program and in every row, IS THE sha256 OF THE DUMP (.gsa) THAT YtieglcjfphmglaaDoorProg.lean LOADS. Nothing in Lean hashes anything: it is a label: what it is worth is what the hold of that sum in a sandbox is worth. -/
noncomputable def Tryd.pinned : Pinned := { name := "ytieglcjfphmglaadoor", sum := "a4cb2eba3d14f9f94a5cbe5969cc22e1c1d267c306d0e209e389f3fa2e35497f", checked := Tryd.checked }
namespace Rows
def none {H : Type} : Left H := { results := [], args := [] }

/- WHAT THE LISTED PACKAGE-LEVEL VARIABLES READ AS WHEN THE CALL BEGINS. Each datum BY PROGRAM (the guide's laid-datum.mjs) off the statement by which the dump's own 'gosem.cut.vars' lays the variable. In a bare row this is a premise. The card (YtieglcjfphmglaaDoorCards.lean) ties it to the program's text. -/
def laid_errors_errorType {H : Type} : DataW H := .iface "internal/reflectlite.rtype" (.agg [.ptr (.lit (.string [101, 114, 114, 111, 114]))])

/-- 'plaitlaw11.FaceWalks': WHATEVER THE INPUT: true; the input reads as it did. -/
def faceWalksSpec : ChangeSpec := { name := "faceWalks", fn := fun _ => fun
  | [d1, d2, d3] => { results := [.lit (.bool true)], args := [d1, d2, d3] }
  | _ => none }
def faceWalksRow : OpenClaim := { program := "ytieglcjfphmglaadoor", sum := "a4cb2eba3d14f9f94a5cbe5969cc22e1c1d267c306d0e209e389f3fa2e35497f", func := "plait/plaitlaw11.FaceWalks", spec := "faceWalks", inPlace := ["internal/reflectlite.ValueOf", "(internal/reflectlite.Value).Type", "(internal/reflectlite.Value).IsNil", "internal/reflectlite.TypeOf", "(internal/reflectlite.Value).Elem", "(internal/reflectlite.Value).Set"], unfollowed := true, recurses := true, named := ["errors.errorType"], apart := false, laid := [("errors.errorType", laid_errors_errorType)] }
def FaceWalksSaid : Prop := faceWalksRow.holds Tryd.pinned (OpenSpec.ofChange faceWalksSpec)

/-- ITS FALSE NEIGHBOUR: 'it returns false'. Refute it at one input. -/
def faceWalksWrong : ChangeSpec := { name := "faceWalks", fn := fun _ => fun
  | [d1, d2, d3] => { results := [.lit (.bool false)], args := [d1, d2, d3] }
  | _ => none }
def FaceWalksWrongFalsely : Prop := faceWalksRow.holds Tryd.pinned (OpenSpec.ofChange faceWalksWrong)

/-- 'plaitlaw11.FaceCorners': WHATEVER THE INPUT: true; the input reads as it did. -/
def faceCornersSpec : ChangeSpec := { name := "faceCorners", fn := fun _ => fun
  | [d1, d2, d3] => { results := [.lit (.bool true)], args := [d1, d2, d3] }
  | _ => none }
def faceCornersRow : OpenClaim := { program := "ytieglcjfphmglaadoor", sum := "a4cb2eba3d14f9f94a5cbe5969cc22e1c1d267c306d0e209e389f3fa2e35497f", func := "plait/plaitlaw11.FaceCorners", spec := "faceCorners", inPlace := ["internal/reflectlite.ValueOf", "(internal/reflectlite.Value).Type", "(internal/reflectlite.Value).IsNil", "internal/reflectlite.TypeOf", "(internal/reflectlite.Value).Elem", "(internal/reflectlite.Value).Set"], unfollowed := true, recurses := true, named := ["errors.errorType"], apart := false, laid := [("errors.errorType", laid_errors_errorType)] }
def FaceCornersSaid : Prop := faceCornersRow.holds Tryd.pinned (OpenSpec.ofChange faceCornersSpec)

/-- ITS FALSE NEIGHBOUR: 'it returns false'. Refute it at one input. -/
def faceCornersWrong : ChangeSpec := { name := "faceCorners", fn := fun _ => fun
  | [d1, d2, d3] => { results := [.lit (.bool false)], args := [d1, d2, d3] }
  | _ => none }
def FaceCornersWrongFalsely : Prop := faceCornersRow.holds Tryd.pinned (OpenSpec.ofChange faceCornersWrong)

/-- 'plaitlaw11.FaceOnce': WHATEVER THE INPUT: true; the input reads as it did. -/
def faceOnceSpec : ChangeSpec := { name := "faceOnce", fn := fun _ => fun
  | [d1, d2] => { results := [.lit (.bool true)], args := [d1, d2] }
  | _ => none }
def faceOnceRow : OpenClaim := { program := "ytieglcjfphmglaadoor", sum := "a4cb2eba3d14f9f94a5cbe5969cc22e1c1d267c306d0e209e389f3fa2e35497f", func := "plait/plaitlaw11.FaceOnce", spec := "faceOnce", inPlace := ["internal/reflectlite.ValueOf", "(internal/reflectlite.Value).Type", "(internal/reflectlite.Value).IsNil", "internal/reflectlite.TypeOf", "(internal/reflectlite.Value).Elem", "(internal/reflectlite.Value).Set"], unfollowed := true, recurses := true, named := ["errors.errorType"], apart := false, laid := [("errors.errorType", laid_errors_errorType)] }
def FaceOnceSaid : Prop := faceOnceRow.holds Tryd.pinned (OpenSpec.ofChange faceOnceSpec)

/-- ITS FALSE NEIGHBOUR: 'it returns false'. Refute it at one input. -/
def faceOnceWrong : ChangeSpec := { name := "faceOnce", fn := fun _ => fun
  | [d1, d2] => { results := [.lit (.bool false)], args := [d1, d2] }
  | _ => none }
def FaceOnceWrongFalsely : Prop := faceOnceRow.holds Tryd.pinned (OpenSpec.ofChange faceOnceWrong)

/-- 'plaitlaw11.FaceSplits': WHATEVER THE INPUT: true; the input reads as it did. -/
def faceSplitsSpec : ChangeSpec := { name := "faceSplits", fn := fun _ => fun
  | [d1, d2, d3] => { results := [.lit (.bool true)], args := [d1, d2, d3] }
  | _ => none }
def faceSplitsRow : OpenClaim := { program := "ytieglcjfphmglaadoor", sum := "a4cb2eba3d14f9f94a5cbe5969cc22e1c1d267c306d0e209e389f3fa2e35497f", func := "plait/plaitlaw11.FaceSplits", spec := "faceSplits", inPlace := ["internal/reflectlite.ValueOf", "(internal/reflectlite.Value).Type", "(internal/reflectlite.Value).IsNil", "internal/reflectlite.TypeOf", "(internal/reflectlite.Value).Elem", "(internal/reflectlite.Value).Set"], unfollowed := true, recurses := true, named := ["errors.errorType"], apart := false, laid := [("errors.errorType", laid_errors_errorType)] }
def FaceSplitsSaid : Prop := faceSplitsRow.holds Tryd.pinned (OpenSpec.ofChange faceSplitsSpec)

/-- ITS FALSE NEIGHBOUR: 'it returns false'. Refute it at one input. -/
def faceSplitsWrong : ChangeSpec := { name := "faceSplits", fn := fun _ => fun
  | [d1, d2, d3] => { results := [.lit (.bool false)], args := [d1, d2, d3] }
  | _ => none }
def FaceSplitsWrongFalsely : Prop := faceSplitsRow.holds Tryd.pinned (OpenSpec.ofChange faceSplitsWrong)

/-- 'plaitlaw11.FaceNexts': WHATEVER THE INPUT: true; the input reads as it did. -/
def faceNextsSpec : ChangeSpec := { name := "faceNexts", fn := fun _ => fun
  | [d1, d2] => { results := [.lit (.bool true)], args := [d1, d2] }
  | _ => none }
def faceNextsRow : OpenClaim := { program := "ytieglcjfphmglaadoor", sum := "a4cb2eba3d14f9f94a5cbe5969cc22e1c1d267c306d0e209e389f3fa2e35497f", func := "plait/plaitlaw11.FaceNexts", spec := "faceNexts", inPlace := ["internal/reflectlite.ValueOf", "(internal/reflectlite.Value).Type", "(internal/reflectlite.Value).IsNil", "internal/reflectlite.TypeOf", "(internal/reflectlite.Value).Elem", "(internal/reflectlite.Value).Set"], unfollowed := true, recurses := true, named := ["errors.errorType"], apart := false, laid := [("errors.errorType", laid_errors_errorType)] }
def FaceNextsSaid : Prop := faceNextsRow.holds Tryd.pinned (OpenSpec.ofChange faceNextsSpec)

/-- ITS FALSE NEIGHBOUR: 'it returns false'. Refute it at one input. -/
def faceNextsWrong : ChangeSpec := { name := "faceNexts", fn := fun _ => fun
  | [d1, d2] => { results := [.lit (.bool false)], args := [d1, d2] }
  | _ => none }
def FaceNextsWrongFalsely : Prop := faceNextsRow.holds Tryd.pinned (OpenSpec.ofChange faceNextsWrong)

/-- 'plaitlaw11.FaceAts': WHATEVER THE INPUT: true; the input reads as it did. -/
def faceAtsSpec : ChangeSpec := { name := "faceAts", fn := fun _ => fun
  | [d1, d2, d3] => { results := [.lit (.bool true)], args := [d1, d2, d3] }
  | _ => none }
def faceAtsRow : OpenClaim := { program := "ytieglcjfphmglaadoor", sum := "a4cb2eba3d14f9f94a5cbe5969cc22e1c1d267c306d0e209e389f3fa2e35497f", func := "plait/plaitlaw11.FaceAts", spec := "faceAts", inPlace := ["internal/reflectlite.ValueOf", "(internal/reflectlite.Value).Type", "(internal/reflectlite.Value).IsNil", "internal/reflectlite.TypeOf", "(internal/reflectlite.Value).Elem", "(internal/reflectlite.Value).Set"], unfollowed := true, recurses := true, named := ["errors.errorType"], apart := false, laid := [("errors.errorType", laid_errors_errorType)] }
def FaceAtsSaid : Prop := faceAtsRow.holds Tryd.pinned (OpenSpec.ofChange faceAtsSpec)

/-- ITS FALSE NEIGHBOUR: 'it returns false'. Refute it at one input. -/
def faceAtsWrong : ChangeSpec := { name := "faceAts", fn := fun _ => fun
  | [d1, d2, d3] => { results := [.lit (.bool false)], args := [d1, d2, d3] }
  | _ => none }
def FaceAtsWrongFalsely : Prop := faceAtsRow.holds Tryd.pinned (OpenSpec.ofChange faceAtsWrong)

/- THE SECOND FORM. 'bulk': how many values and letters a reading holds, each counted each time it is reached (what is shared counts as often as it is met; a slice's spare places count too). A statement '..UptoSaid' is the law's where the arguments, and the package variables that the reading takes, are together of bulk at most 1048576: NARROWER than '..Said'. Prove '..Said' where nothing that the law and all that it calls make is longer than what came in: it says more and counts as full. Else prove '..UptoSaid'. A law counts once. -/
mutual
def uptoBulk {H : Type} : DataW H → Nat
  | .lit (.string bytes) => bytes.length + 1
  | .lit _ => 1
  | .nil => 1
  | .ptr d => uptoBulk d + 1
  | .slice elems spare => uptoBulkAll elems + uptoBulkAll spare + 1
  | .agg parts => uptoBulkAll parts + 1
  | .iface _ d => uptoBulk d + 1
  | .map entries => uptoBulkEntries entries + 1
  | .held _ => 1
def uptoBulkAll {H : Type} : List (DataW H) → Nat
  | [] => 0
  | d :: r => uptoBulk d + uptoBulkAll r
def uptoBulkEntries {H : Type} : List (Lit × DataW H) → Nat
  | [] => 0
  | x :: r => uptoBulkEntry x + uptoBulkEntries r
def uptoBulkEntry {H : Type} : Lit × DataW H → Nat
  | (.string bytes, d) => bytes.length + uptoBulk d + 1
  | (_, d) => uptoBulk d + 1
 end
def uptoSmall : (H : Type) → List (DataW H) → Bool := fun _ ds => decide (uptoBulkAll ds ≤ 1048576)
def OpenSpec.upto (s : _root_.Go.ChangeSpec) : _root_.Go.OpenSpec := { _root_.Go.OpenSpec.ofChange s with cond := some uptoSmall }

/-- 'plaitlaw11.FaceWalks', WHERE WHAT IT READS IS OF BULK AT MOST 1048576: true; the input reads as it did. -/
def faceWalksUptoRow : OpenClaim := { program := "ytieglcjfphmglaadoor", sum := "a4cb2eba3d14f9f94a5cbe5969cc22e1c1d267c306d0e209e389f3fa2e35497f", func := "plait/plaitlaw11.FaceWalks", spec := "faceWalks", inPlace := ["internal/reflectlite.ValueOf", "(internal/reflectlite.Value).Type", "(internal/reflectlite.Value).IsNil", "internal/reflectlite.TypeOf", "(internal/reflectlite.Value).Elem", "(internal/reflectlite.Value).Set"], unfollowed := true, recurses := true, named := ["errors.errorType"], apart := false, laid := [("errors.errorType", laid_errors_errorType)], narrowed := true }
def FaceWalksUptoSaid : Prop := faceWalksUptoRow.holds Tryd.pinned (OpenSpec.upto faceWalksSpec)

/-- 'plaitlaw11.FaceCorners', WHERE WHAT IT READS IS OF BULK AT MOST 1048576: true; the input reads as it did. -/
def faceCornersUptoRow : OpenClaim := { program := "ytieglcjfphmglaadoor", sum := "a4cb2eba3d14f9f94a5cbe5969cc22e1c1d267c306d0e209e389f3fa2e35497f", func := "plait/plaitlaw11.FaceCorners", spec := "faceCorners", inPlace := ["internal/reflectlite.ValueOf", "(internal/reflectlite.Value).Type", "(internal/reflectlite.Value).IsNil", "internal/reflectlite.TypeOf", "(internal/reflectlite.Value).Elem", "(internal/reflectlite.Value).Set"], unfollowed := true, recurses := true, named := ["errors.errorType"], apart := false, laid := [("errors.errorType", laid_errors_errorType)], narrowed := true }
def FaceCornersUptoSaid : Prop := faceCornersUptoRow.holds Tryd.pinned (OpenSpec.upto faceCornersSpec)

/-- 'plaitlaw11.FaceOnce', WHERE WHAT IT READS IS OF BULK AT MOST 1048576: true; the input reads as it did. -/
def faceOnceUptoRow : OpenClaim := { program := "ytieglcjfphmglaadoor", sum := "a4cb2eba3d14f9f94a5cbe5969cc22e1c1d267c306d0e209e389f3fa2e35497f", func := "plait/plaitlaw11.FaceOnce", spec := "faceOnce", inPlace := ["internal/reflectlite.ValueOf", "(internal/reflectlite.Value).Type", "(internal/reflectlite.Value).IsNil", "internal/reflectlite.TypeOf", "(internal/reflectlite.Value).Elem", "(internal/reflectlite.Value).Set"], unfollowed := true, recurses := true, named := ["errors.errorType"], apart := false, laid := [("errors.errorType", laid_errors_errorType)], narrowed := true }
def FaceOnceUptoSaid : Prop := faceOnceUptoRow.holds Tryd.pinned (OpenSpec.upto faceOnceSpec)

/-- 'plaitlaw11.FaceSplits', WHERE WHAT IT READS IS OF BULK AT MOST 1048576: true; the input reads as it did. -/
def faceSplitsUptoRow : OpenClaim := { program := "ytieglcjfphmglaadoor", sum := "a4cb2eba3d14f9f94a5cbe5969cc22e1c1d267c306d0e209e389f3fa2e35497f", func := "plait/plaitlaw11.FaceSplits", spec := "faceSplits", inPlace := ["internal/reflectlite.ValueOf", "(internal/reflectlite.Value).Type", "(internal/reflectlite.Value).IsNil", "internal/reflectlite.TypeOf", "(internal/reflectlite.Value).Elem", "(internal/reflectlite.Value).Set"], unfollowed := true, recurses := true, named := ["errors.errorType"], apart := false, laid := [("errors.errorType", laid_errors_errorType)], narrowed := true }
def FaceSplitsUptoSaid : Prop := faceSplitsUptoRow.holds Tryd.pinned (OpenSpec.upto faceSplitsSpec)

/-- 'plaitlaw11.FaceNexts', WHERE WHAT IT READS IS OF BULK AT MOST 1048576: true; the input reads as it did. -/
def faceNextsUptoRow : OpenClaim := { program := "ytieglcjfphmglaadoor", sum := "a4cb2eba3d14f9f94a5cbe5969cc22e1c1d267c306d0e209e389f3fa2e35497f", func := "plait/plaitlaw11.FaceNexts", spec := "faceNexts", inPlace := ["internal/reflectlite.ValueOf", "(internal/reflectlite.Value).Type", "(internal/reflectlite.Value).IsNil", "internal/reflectlite.TypeOf", "(internal/reflectlite.Value).Elem", "(internal/reflectlite.Value).Set"], unfollowed := true, recurses := true, named := ["errors.errorType"], apart := false, laid := [("errors.errorType", laid_errors_errorType)], narrowed := true }
def FaceNextsUptoSaid : Prop := faceNextsUptoRow.holds Tryd.pinned (OpenSpec.upto faceNextsSpec)

/-- 'plaitlaw11.FaceAts', WHERE WHAT IT READS IS OF BULK AT MOST 1048576: true; the input reads as it did. -/
def faceAtsUptoRow : OpenClaim := { program := "ytieglcjfphmglaadoor", sum := "a4cb2eba3d14f9f94a5cbe5969cc22e1c1d267c306d0e209e389f3fa2e35497f", func := "plait/plaitlaw11.FaceAts", spec := "faceAts", inPlace := ["internal/reflectlite.ValueOf", "(internal/reflectlite.Value).Type", "(internal/reflectlite.Value).IsNil", "internal/reflectlite.TypeOf", "(internal/reflectlite.Value).Elem", "(internal/reflectlite.Value).Set"], unfollowed := true, recurses := true, named := ["errors.errorType"], apart := false, laid := [("errors.errorType", laid_errors_errorType)], narrowed := true }
def FaceAtsUptoSaid : Prop := faceAtsUptoRow.holds Tryd.pinned (OpenSpec.upto faceAtsSpec)

end Rows
end Go.Proofs.YtieglcjfphmglaaDoor
