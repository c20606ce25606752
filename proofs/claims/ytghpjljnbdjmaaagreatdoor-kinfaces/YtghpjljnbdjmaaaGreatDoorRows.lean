/-
  NARROWER THAN 'FOR EVERY INPUT', by the rows' own cells (each row's printed sentence says how): KinGroups: laid · KinBridges: laid · KinFaces: laid · KinRoads: laid · KinBare: laid.
  DERIVED. THE GIVEN ROWS OF THIS SEAT. 5 by the template 'for every input the law returns true; each argument reads behind the call as it read before'; 0 by the template 'total and deterministic' (their statements: YtghpjljnbdjmaaaGreatDoorTotals.lean).
  GIVEN WITH THE SEED: the statements are not yours to turn. If you find one false, say at which input.
  Laid BY PROGRAM, IN A SANDBOX (cutbox-rows.mjs): the forced cells as the released guide's own fill.sh prints them over the translation 80cf954a63ec1a81… (all of the seat's roots in one cut). By AI agents, Wed Nov 11 2026. No macro, syntax, notation, axiom, sorry.
-/
import Derived.Test.YtghpjljnbdjmaaaGreatDoorChecked
import GoSem.Claim
import GoSem.ClaimJoined
import GoSem.ClaimMapViews
import Derived.JoinedTies
import Derived.KernelRfl
namespace Go.Proofs.YtghpjljnbdjmaaaGreatDoor
/- THE CELL 'sum', in the pinned program and in every row, IS THE sha256 OF THE DUMP (.gsa) THAT YtghpjljnbdjmaaaGreatDoorProg.lean LOADS. Nothing in Lean hashes anything: it is a label: what it is worth is what the hold of that sum in a sandbox is worth. -/
noncomputable def Tryz.pinned : Pinned := { name := "ytghpjljnbdjmaaagreatdoor", sum := "80cf954a63ec1a81bf1a7b89abccafc580f5bdf479932838f29a9a8194b759c6", checked := Tryz.checked }
namespace Rows
def none {H : Type} : Left H := { results := [], args := [] }

/- WHAT THE LISTED PACKAGE-LEVEL VARIABLES READ AS WHEN THE CALL BEGINS. Each datum BY PROGRAM (the guide's laid-datum.mjs) off the statement by which the dump's own 'gosem.cut.vars' lays the variable. In a bare row this is a premise. The card (YtghpjljnbdjmaaaGreatDoorCards.lean) ties it to the program's text. -/
def laid_errors_errorType {H : Type} : DataW H := .iface "internal/reflectlite.rtype" (.agg [.ptr (.lit (.string [101, 114, 114, 111, 114]))])

/-- 'plaitlaw15.KinGroups': WHATEVER THE INPUT: true; the input reads as it did. -/
def kinGroupsSpec : ChangeSpec := { name := "kinGroups", fn := fun _ => fun
  | [d1, d2, d3] => { results := [.lit (.bool true)], args := [d1, d2, d3] }
  | _ => none }
def kinGroupsRow : OpenClaim := { program := "ytghpjljnbdjmaaagreatdoor", sum := "80cf954a63ec1a81bf1a7b89abccafc580f5bdf479932838f29a9a8194b759c6", func := "plait/plaitlaw15.KinGroups", spec := "kinGroups", inPlace := ["internal/reflectlite.ValueOf", "(internal/reflectlite.Value).Type", "(internal/reflectlite.Value).IsNil", "internal/reflectlite.TypeOf", "(internal/reflectlite.Value).Elem", "(internal/reflectlite.Value).Set"], unfollowed := true, recurses := true, named := ["errors.errorType"], apart := false, laid := [("errors.errorType", laid_errors_errorType)] }
def KinGroupsSaid : Prop := kinGroupsRow.holds Tryz.pinned (OpenSpec.ofChange kinGroupsSpec)

/-- ITS FALSE NEIGHBOUR: 'it returns false'. Refute it at one input. -/
def kinGroupsWrong : ChangeSpec := { name := "kinGroups", fn := fun _ => fun
  | [d1, d2, d3] => { results := [.lit (.bool false)], args := [d1, d2, d3] }
  | _ => none }
def KinGroupsWrongFalsely : Prop := kinGroupsRow.holds Tryz.pinned (OpenSpec.ofChange kinGroupsWrong)

/-- 'plaitlaw15.KinBridges': WHATEVER THE INPUT: true; the input reads as it did. -/
def kinBridgesSpec : ChangeSpec := { name := "kinBridges", fn := fun _ => fun
  | [d1, d2, d3] => { results := [.lit (.bool true)], args := [d1, d2, d3] }
  | _ => none }
def kinBridgesRow : OpenClaim := { program := "ytghpjljnbdjmaaagreatdoor", sum := "80cf954a63ec1a81bf1a7b89abccafc580f5bdf479932838f29a9a8194b759c6", func := "plait/plaitlaw15.KinBridges", spec := "kinBridges", inPlace := ["internal/reflectlite.ValueOf", "(internal/reflectlite.Value).Type", "(internal/reflectlite.Value).IsNil", "internal/reflectlite.TypeOf", "(internal/reflectlite.Value).Elem", "(internal/reflectlite.Value).Set"], unfollowed := true, recurses := true, named := ["errors.errorType"], apart := false, laid := [("errors.errorType", laid_errors_errorType)] }
def KinBridgesSaid : Prop := kinBridgesRow.holds Tryz.pinned (OpenSpec.ofChange kinBridgesSpec)

/-- ITS FALSE NEIGHBOUR: 'it returns false'. Refute it at one input. -/
def kinBridgesWrong : ChangeSpec := { name := "kinBridges", fn := fun _ => fun
  | [d1, d2, d3] => { results := [.lit (.bool false)], args := [d1, d2, d3] }
  | _ => none }
def KinBridgesWrongFalsely : Prop := kinBridgesRow.holds Tryz.pinned (OpenSpec.ofChange kinBridgesWrong)

/-- 'plaitlaw15.KinFaces': WHATEVER THE INPUT: true; the input reads as it did. -/
def kinFacesSpec : ChangeSpec := { name := "kinFaces", fn := fun _ => fun
  | [d1, d2] => { results := [.lit (.bool true)], args := [d1, d2] }
  | _ => none }
def kinFacesRow : OpenClaim := { program := "ytghpjljnbdjmaaagreatdoor", sum := "80cf954a63ec1a81bf1a7b89abccafc580f5bdf479932838f29a9a8194b759c6", func := "plait/plaitlaw15.KinFaces", spec := "kinFaces", inPlace := ["internal/reflectlite.ValueOf", "(internal/reflectlite.Value).Type", "(internal/reflectlite.Value).IsNil", "internal/reflectlite.TypeOf", "(internal/reflectlite.Value).Elem", "(internal/reflectlite.Value).Set"], unfollowed := true, recurses := true, named := ["errors.errorType"], apart := false, laid := [("errors.errorType", laid_errors_errorType)] }
def KinFacesSaid : Prop := kinFacesRow.holds Tryz.pinned (OpenSpec.ofChange kinFacesSpec)

/-- ITS FALSE NEIGHBOUR: 'it returns false'. Refute it at one input. -/
def kinFacesWrong : ChangeSpec := { name := "kinFaces", fn := fun _ => fun
  | [d1, d2] => { results := [.lit (.bool false)], args := [d1, d2] }
  | _ => none }
def KinFacesWrongFalsely : Prop := kinFacesRow.holds Tryz.pinned (OpenSpec.ofChange kinFacesWrong)

/-- 'plaitlaw15.KinRoads': WHATEVER THE INPUT: true; the input reads as it did. -/
def kinRoadsSpec : ChangeSpec := { name := "kinRoads", fn := fun _ => fun
  | [d1, d2, d3] => { results := [.lit (.bool true)], args := [d1, d2, d3] }
  | _ => none }
def kinRoadsRow : OpenClaim := { program := "ytghpjljnbdjmaaagreatdoor", sum := "80cf954a63ec1a81bf1a7b89abccafc580f5bdf479932838f29a9a8194b759c6", func := "plait/plaitlaw15.KinRoads", spec := "kinRoads", inPlace := ["internal/reflectlite.ValueOf", "(internal/reflectlite.Value).Type", "(internal/reflectlite.Value).IsNil", "internal/reflectlite.TypeOf", "(internal/reflectlite.Value).Elem", "(internal/reflectlite.Value).Set"], unfollowed := true, recurses := true, named := ["errors.errorType"], apart := false, laid := [("errors.errorType", laid_errors_errorType)] }
def KinRoadsSaid : Prop := kinRoadsRow.holds Tryz.pinned (OpenSpec.ofChange kinRoadsSpec)

/-- ITS FALSE NEIGHBOUR: 'it returns false'. Refute it at one input. -/
def kinRoadsWrong : ChangeSpec := { name := "kinRoads", fn := fun _ => fun
  | [d1, d2, d3] => { results := [.lit (.bool false)], args := [d1, d2, d3] }
  | _ => none }
def KinRoadsWrongFalsely : Prop := kinRoadsRow.holds Tryz.pinned (OpenSpec.ofChange kinRoadsWrong)

/-- 'plaitlaw15.KinBare': WHATEVER THE INPUT: true; the input reads as it did. -/
def kinBareSpec : ChangeSpec := { name := "kinBare", fn := fun _ => fun
  | [d1, d2] => { results := [.lit (.bool true)], args := [d1, d2] }
  | _ => none }
def kinBareRow : OpenClaim := { program := "ytghpjljnbdjmaaagreatdoor", sum := "80cf954a63ec1a81bf1a7b89abccafc580f5bdf479932838f29a9a8194b759c6", func := "plait/plaitlaw15.KinBare", spec := "kinBare", inPlace := ["internal/reflectlite.ValueOf", "(internal/reflectlite.Value).Type", "(internal/reflectlite.Value).IsNil", "internal/reflectlite.TypeOf", "(internal/reflectlite.Value).Elem", "(internal/reflectlite.Value).Set"], unfollowed := true, recurses := true, named := ["errors.errorType"], apart := false, laid := [("errors.errorType", laid_errors_errorType)] }
def KinBareSaid : Prop := kinBareRow.holds Tryz.pinned (OpenSpec.ofChange kinBareSpec)

/-- ITS FALSE NEIGHBOUR: 'it returns false'. Refute it at one input. -/
def kinBareWrong : ChangeSpec := { name := "kinBare", fn := fun _ => fun
  | [d1, d2] => { results := [.lit (.bool false)], args := [d1, d2] }
  | _ => none }
def KinBareWrongFalsely : Prop := kinBareRow.holds Tryz.pinned (OpenSpec.ofChange kinBareWrong)

/- THE SECOND FORM. 'bulk': how many values and letters a reading holds, each counted each time it is reached (what is shared counts as often as it is met; a slice's spare places count too). A statement '..UptoSaid' is the law's where the arguments, and the package variables that the reading takes, are together of bulk at most 1048576: NARROWER than '..Said'. Prove '..Said' where nothing that the law and all that it calls make is longer than what came in: it says more and counts as full. Else prove '..UptoSaid'. A law counts once. -/
mutual
def uptoBulk {H : Type} : DataW H → Nat
  | .lit (.string bytes) => bytes.length + 1
  | .lit _ => 1
  | .nil => 1
  | .ptr d => uptoBulk d + 1
  | .slice elems spare => uptoBulkAll elems + uptoBulkAll spare + 1
  | .agg parts => uptoBulkAll parts + 1
  | .iface _ d => uptoBulk d + 1
  | .map entries => uptoBulkEntries entries + 1
  | .held _ => 1
def uptoBulkAll {H : Type} : List (DataW H) → Nat
  | [] => 0
  | d :: r => uptoBulk d + uptoBulkAll r
def uptoBulkEntries {H : Type} : List (Lit × DataW H) → Nat
  | [] => 0
  | x :: r => uptoBulkEntry x + uptoBulkEntries r
def uptoBulkEntry {H : Type} : Lit × DataW H → Nat
  | (.string bytes, d) => bytes.length + uptoBulk d + 1
  | (_, d) => uptoBulk d + 1
 end
def uptoSmall : (H : Type) → List (DataW H) → Bool := fun _ ds => decide (uptoBulkAll ds ≤ 1048576)
def OpenSpec.upto (s : _root_.Go.ChangeSpec) : _root_.Go.OpenSpec := { _root_.Go.OpenSpec.ofChange s with cond := some uptoSmall }

/-- 'plaitlaw15.KinGroups', WHERE WHAT IT READS IS OF BULK AT MOST 1048576: true; the input reads as it did. -/
def kinGroupsUptoRow : OpenClaim := { program := "ytghpjljnbdjmaaagreatdoor", sum := "80cf954a63ec1a81bf1a7b89abccafc580f5bdf479932838f29a9a8194b759c6", func := "plait/plaitlaw15.KinGroups", spec := "kinGroups", inPlace := ["internal/reflectlite.ValueOf", "(internal/reflectlite.Value).Type", "(internal/reflectlite.Value).IsNil", "internal/reflectlite.TypeOf", "(internal/reflectlite.Value).Elem", "(internal/reflectlite.Value).Set"], unfollowed := true, recurses := true, named := ["errors.errorType"], apart := false, laid := [("errors.errorType", laid_errors_errorType)], narrowed := true }
def KinGroupsUptoSaid : Prop := kinGroupsUptoRow.holds Tryz.pinned (OpenSpec.upto kinGroupsSpec)

/-- 'plaitlaw15.KinBridges', WHERE WHAT IT READS IS OF BULK AT MOST 1048576: true; the input reads as it did. -/
def kinBridgesUptoRow : OpenClaim := { program := "ytghpjljnbdjmaaagreatdoor", sum := "80cf954a63ec1a81bf1a7b89abccafc580f5bdf479932838f29a9a8194b759c6", func := "plait/plaitlaw15.KinBridges", spec := "kinBridges", inPlace := ["internal/reflectlite.ValueOf", "(internal/reflectlite.Value).Type", "(internal/reflectlite.Value).IsNil", "internal/reflectlite.TypeOf", "(internal/reflectlite.Value).Elem", "(internal/reflectlite.Value).Set"], unfollowed := true, recurses := true, named := ["errors.errorType"], apart := false, laid := [("errors.errorType", laid_errors_errorType)], narrowed := true }
def KinBridgesUptoSaid : Prop := kinBridgesUptoRow.holds Tryz.pinned (OpenSpec.upto kinBridgesSpec)

/-- 'plaitlaw15.KinFaces', WHERE WHAT IT READS IS OF BULK AT MOST 1048576: true; the input reads as it did. -/
def kinFacesUptoRow : OpenClaim := { program := "ytghpjljnbdjmaaagreatdoor", sum := "80cf954a63ec1a81bf1a7b89abccafc580f5bdf479932838f29a9a8194b759c6", func := "plait/plaitlaw15.KinFaces", spec := "kinFaces", inPlace := ["internal/reflectlite.ValueOf", "(internal/reflectlite.Value).Type", "(internal/reflectlite.Value).IsNil", "internal/reflectlite.TypeOf", "(internal/reflectlite.Value).Elem", "(internal/reflectlite.Value).Set"], unfollowed := true, recurses := true, named := ["errors.errorType"], apart := false, laid := [("errors.errorType", laid_errors_errorType)], narrowed := true }
def KinFacesUptoSaid : Prop := kinFacesUptoRow.holds Tryz.pinned (OpenSpec.upto kinFacesSpec)

/-- 'plaitlaw15.KinRoads', WHERE WHAT IT READS IS OF BULK AT MOST 1048576: true; the input reads as it did. -/
def kinRoadsUptoRow : OpenClaim := { program := "ytghpjljnbdjmaaagreatdoor", sum := "80cf954a63ec1a81bf1a7b89abccafc580f5bdf479932838f29a9a8194b759c6", func := "plait/plaitlaw15.KinRoads", spec := "kinRoads", inPlace := ["internal/reflectlite.ValueOf", "(internal/reflectlite.Value).Type", "(internal/reflectlite.Value).IsNil", "internal/reflectlite.TypeOf", "(internal/reflectlite.Value).Elem", "(internal/reflectlite.Value).Set"], unfollowed := true, recurses := true, named := ["errors.errorType"], apart := false, laid := [("errors.errorType", laid_errors_errorType)], narrowed := true }
def KinRoadsUptoSaid : Prop := kinRoadsUptoRow.holds Tryz.pinned (OpenSpec.upto kinRoadsSpec)

/-- 'plaitlaw15.KinBare', WHERE WHAT IT READS IS OF BULK AT MOST 1048576: true; the input reads as it did. -/
def kinBareUptoRow : OpenClaim := { program := "ytghpjljnbdjmaaagreatdoor", sum := "80cf954a63ec1a81bf1a7b89abccafc580f5bdf479932838f29a9a8194b759c6", func := "plait/plaitlaw15.KinBare", spec := "kinBare", inPlace := ["internal/reflectlite.ValueOf", "(internal/reflectlite.Value).Type", "(internal/reflectlite.Value).IsNil", "internal/reflectlite.TypeOf", "(internal/reflectlite.Value).Elem", "(internal/reflectlite.Value).Set"], unfollowed := true, recurses := true, named := ["errors.errorType"], apart := false, laid := [("errors.errorType", laid_errors_errorType)], narrowed := true }
def KinBareUptoSaid : Prop := kinBareUptoRow.holds Tryz.pinned (OpenSpec.upto kinBareSpec)

end Rows
end Go.Proofs.YtghpjljnbdjmaaaGreatDoor
