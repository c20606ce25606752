/-
  NARROWER THAN 'FOR EVERY INPUT', by the rows' own cells (each row's printed sentence says how): CutRuns: laid · CutNew: laid · CutTurned: laid · CutBack: laid · CutSums: laid · CutLinks: laid.
  DERIVED. THE GIVEN ROWS OF THIS SEAT. 6 by the template 'for every input the law returns true; each argument reads behind the call as it read before'; 0 by the template 'total and deterministic' (their statements: YtbdcddkiioehcaaDoorTotals.lean).
  GIVEN WITH THE SEED: the statements are not yours to turn. If you find one false, say at which input.
  Laid BY PROGRAM, IN A SANDBOX (cutbox-rows.mjs): the forced cells as the released guide's own fill.sh prints them over the translation 95596eae26ce2e63… (all of the seat's roots in one cut). By AI agents, Wed Nov 11 2026. No macro, syntax, notation, axiom, sorry.
-/
import Derived.Test.YtbdcddkiioehcaaDoorChecked
import GoSem.Claim
import GoSem.ClaimJoined
import GoSem.ClaimMapViews
import Derived.JoinedTies
import Derived.KernelRfl
namespace Go.Proofs.YtbdcddkiioehcaaDoor
/- THE CELL 'sum', in the pinned program and in every row, IS THE sha256 OF THE DUMP (.gsa) THAT YtbdcddkiioehcaaDoorProg.lean LOADS. Nothing in Lean hashes anything: it is a label: what it is worth is what the hold of that sum in a sandbox is worth. -/
noncomputable def Tryd.pinned : Pinned := { name := "ytbdcddkiioehcaadoor", sum := "95596eae26ce2e639e06344bf837f7891f010fbacbeab1d4492e1729e6fc5ea8", checked := Tryd.checked }
namespace Rows
def none {H : Type} : Left H := { results := [], args := [] }

/- WHAT THE LISTED PACKAGE-LEVEL VARIABLES READ AS WHEN THE CALL BEGINS. Each datum BY PROGRAM (the guide's laid-datum.mjs) off the statement by which the dump's own 'gosem.cut.vars' lays the variable. In a bare row this is a premise. The card (YtbdcddkiioehcaaDoorCards.lean) ties it to the program's text. -/
def laid_errors_errorType {H : Type} : DataW H := .iface "internal/reflectlite.rtype" (.agg [.ptr (.lit (.string [101, 114, 114, 111, 114]))])

/-- 'plaitlaw06.CutRuns': WHATEVER THE INPUT: true; the input reads as it did. -/
def cutRunsSpec : ChangeSpec := { name := "cutRuns", fn := fun _ => fun
  | [d1, d2] => { results := [.lit (.bool true)], args := [d1, d2] }
  | _ => none }
def cutRunsRow : OpenClaim := { program := "ytbdcddkiioehcaadoor", sum := "95596eae26ce2e639e06344bf837f7891f010fbacbeab1d4492e1729e6fc5ea8", func := "plait/plaitlaw06.CutRuns", spec := "cutRuns", inPlace := ["internal/reflectlite.ValueOf", "(internal/reflectlite.Value).Type", "(internal/reflectlite.Value).IsNil", "internal/reflectlite.TypeOf", "(internal/reflectlite.Value).Elem", "(internal/reflectlite.Value).Set"], unfollowed := true, recurses := true, named := ["errors.errorType"], apart := false, laid := [("errors.errorType", laid_errors_errorType)] }
def CutRunsSaid : Prop := cutRunsRow.holds Tryd.pinned (OpenSpec.ofChange cutRunsSpec)

/-- ITS FALSE NEIGHBOUR: 'it returns false'. Refute it at one input. -/
def cutRunsWrong : ChangeSpec := { name := "cutRuns", fn := fun _ => fun
  | [d1, d2] => { results := [.lit (.bool false)], args := [d1, d2] }
  | _ => none }
def CutRunsWrongFalsely : Prop := cutRunsRow.holds Tryd.pinned (OpenSpec.ofChange cutRunsWrong)

/-- 'plaitlaw06.CutNew': WHATEVER THE INPUT: true; the input reads as it did. -/
def cutNewSpec : ChangeSpec := { name := "cutNew", fn := fun _ => fun
  | [d1, d2] => { results := [.lit (.bool true)], args := [d1, d2] }
  | _ => none }
def cutNewRow : OpenClaim := { program := "ytbdcddkiioehcaadoor", sum := "95596eae26ce2e639e06344bf837f7891f010fbacbeab1d4492e1729e6fc5ea8", func := "plait/plaitlaw06.CutNew", spec := "cutNew", inPlace := ["internal/reflectlite.ValueOf", "(internal/reflectlite.Value).Type", "(internal/reflectlite.Value).IsNil", "internal/reflectlite.TypeOf", "(internal/reflectlite.Value).Elem", "(internal/reflectlite.Value).Set"], unfollowed := true, recurses := true, named := ["errors.errorType"], apart := false, laid := [("errors.errorType", laid_errors_errorType)] }
def CutNewSaid : Prop := cutNewRow.holds Tryd.pinned (OpenSpec.ofChange cutNewSpec)

/-- ITS FALSE NEIGHBOUR: 'it returns false'. Refute it at one input. -/
def cutNewWrong : ChangeSpec := { name := "cutNew", fn := fun _ => fun
  | [d1, d2] => { results := [.lit (.bool false)], args := [d1, d2] }
  | _ => none }
def CutNewWrongFalsely : Prop := cutNewRow.holds Tryd.pinned (OpenSpec.ofChange cutNewWrong)

/-- 'plaitlaw06.CutTurned': WHATEVER THE INPUT: true; the input reads as it did. -/
def cutTurnedSpec : ChangeSpec := { name := "cutTurned", fn := fun _ => fun
  | [d1, d2, d3] => { results := [.lit (.bool true)], args := [d1, d2, d3] }
  | _ => none }
def cutTurnedRow : OpenClaim := { program := "ytbdcddkiioehcaadoor", sum := "95596eae26ce2e639e06344bf837f7891f010fbacbeab1d4492e1729e6fc5ea8", func := "plait/plaitlaw06.CutTurned", spec := "cutTurned", inPlace := ["internal/reflectlite.ValueOf", "(internal/reflectlite.Value).Type", "(internal/reflectlite.Value).IsNil", "internal/reflectlite.TypeOf", "(internal/reflectlite.Value).Elem", "(internal/reflectlite.Value).Set"], unfollowed := true, recurses := true, named := ["errors.errorType"], apart := false, laid := [("errors.errorType", laid_errors_errorType)] }
def CutTurnedSaid : Prop := cutTurnedRow.holds Tryd.pinned (OpenSpec.ofChange cutTurnedSpec)

/-- ITS FALSE NEIGHBOUR: 'it returns false'. Refute it at one input. -/
def cutTurnedWrong : ChangeSpec := { name := "cutTurned", fn := fun _ => fun
  | [d1, d2, d3] => { results := [.lit (.bool false)], args := [d1, d2, d3] }
  | _ => none }
def CutTurnedWrongFalsely : Prop := cutTurnedRow.holds Tryd.pinned (OpenSpec.ofChange cutTurnedWrong)

/-- 'plaitlaw06.CutBack': WHATEVER THE INPUT: true; the input reads as it did. -/
def cutBackSpec : ChangeSpec := { name := "cutBack", fn := fun _ => fun
  | [d1, d2, d3] => { results := [.lit (.bool true)], args := [d1, d2, d3] }
  | _ => none }
def cutBackRow : OpenClaim := { program := "ytbdcddkiioehcaadoor", sum := "95596eae26ce2e639e06344bf837f7891f010fbacbeab1d4492e1729e6fc5ea8", func := "plait/plaitlaw06.CutBack", spec := "cutBack", inPlace := ["internal/reflectlite.ValueOf", "(internal/reflectlite.Value).Type", "(internal/reflectlite.Value).IsNil", "internal/reflectlite.TypeOf", "(internal/reflectlite.Value).Elem", "(internal/reflectlite.Value).Set"], unfollowed := true, recurses := true, named := ["errors.errorType"], apart := false, laid := [("errors.errorType", laid_errors_errorType)] }
def CutBackSaid : Prop := cutBackRow.holds Tryd.pinned (OpenSpec.ofChange cutBackSpec)

/-- ITS FALSE NEIGHBOUR: 'it returns false'. Refute it at one input. -/
def cutBackWrong : ChangeSpec := { name := "cutBack", fn := fun _ => fun
  | [d1, d2, d3] => { results := [.lit (.bool false)], args := [d1, d2, d3] }
  | _ => none }
def CutBackWrongFalsely : Prop := cutBackRow.holds Tryd.pinned (OpenSpec.ofChange cutBackWrong)

/-- 'plaitlaw06.CutSums': WHATEVER THE INPUT: true; the input reads as it did. -/
def cutSumsSpec : ChangeSpec := { name := "cutSums", fn := fun _ => fun
  | [d1, d2, d3] => { results := [.lit (.bool true)], args := [d1, d2, d3] }
  | _ => none }
def cutSumsRow : OpenClaim := { program := "ytbdcddkiioehcaadoor", sum := "95596eae26ce2e639e06344bf837f7891f010fbacbeab1d4492e1729e6fc5ea8", func := "plait/plaitlaw06.CutSums", spec := "cutSums", inPlace := ["internal/reflectlite.ValueOf", "(internal/reflectlite.Value).Type", "(internal/reflectlite.Value).IsNil", "internal/reflectlite.TypeOf", "(internal/reflectlite.Value).Elem", "(internal/reflectlite.Value).Set"], unfollowed := true, recurses := true, named := ["errors.errorType"], apart := false, laid := [("errors.errorType", laid_errors_errorType)] }
def CutSumsSaid : Prop := cutSumsRow.holds Tryd.pinned (OpenSpec.ofChange cutSumsSpec)

/-- ITS FALSE NEIGHBOUR: 'it returns false'. Refute it at one input. -/
def cutSumsWrong : ChangeSpec := { name := "cutSums", fn := fun _ => fun
  | [d1, d2, d3] => { results := [.lit (.bool false)], args := [d1, d2, d3] }
  | _ => none }
def CutSumsWrongFalsely : Prop := cutSumsRow.holds Tryd.pinned (OpenSpec.ofChange cutSumsWrong)

/-- 'plaitlaw06.CutLinks': WHATEVER THE INPUT: true; the input reads as it did. -/
def cutLinksSpec : ChangeSpec := { name := "cutLinks", fn := fun _ => fun
  | [d1, d2, d3] => { results := [.lit (.bool true)], args := [d1, d2, d3] }
  | _ => none }
def cutLinksRow : OpenClaim := { program := "ytbdcddkiioehcaadoor", sum := "95596eae26ce2e639e06344bf837f7891f010fbacbeab1d4492e1729e6fc5ea8", func := "plait/plaitlaw06.CutLinks", spec := "cutLinks", inPlace := ["internal/reflectlite.ValueOf", "(internal/reflectlite.Value).Type", "(internal/reflectlite.Value).IsNil", "internal/reflectlite.TypeOf", "(internal/reflectlite.Value).Elem", "(internal/reflectlite.Value).Set"], unfollowed := true, recurses := true, named := ["errors.errorType"], apart := false, laid := [("errors.errorType", laid_errors_errorType)] }
def CutLinksSaid : Prop := cutLinksRow.holds Tryd.pinned (OpenSpec.ofChange cutLinksSpec)

/-- ITS FALSE NEIGHBOUR: 'it returns false'. Refute it at one input. -/
def cutLinksWrong : ChangeSpec := { name := "cutLinks", fn := fun _ => fun
  | [d1, d2, d3] => { results := [.lit (.bool false)], args := [d1, d2, d3] }
  | _ => none }
def CutLinksWrongFalsely : Prop := cutLinksRow.holds Tryd.pinned (OpenSpec.ofChange cutLinksWrong)

/- THE SECOND FORM. 'bulk': how many values and letters a reading holds, each counted each time it is reached (what is shared counts as often as it is met; a slice's spare places count too). A statement '..UptoSaid' is the law's where the arguments, and the package variables that the reading takes, are together of bulk at most 1048576: NARROWER than '..Said'. Prove '..Said' where nothing that the law and all that it calls make is longer than what came in: it says more and counts as full. Else prove '..UptoSaid'. A law counts once. -/
mutual
def uptoBulk {H : Type} : DataW H → Nat
  | .lit (.string bytes) => bytes.length + 1
  | .lit _ => 1
  | .nil => 1
  | .ptr d => uptoBulk d + 1
  | .slice elems spare => uptoBulkAll elems + uptoBulkAll spare + 1
  | .agg parts => uptoBulkAll parts + 1
  | .iface _ d => uptoBulk d + 1
  | .map entries => uptoBulkEntries entries + 1
  | .held _ => 1
def uptoBulkAll {H : Type} : List (DataW H) → Nat
  | [] => 0
  | d :: r => uptoBulk d + uptoBulkAll r
def uptoBulkEntries {H : Type} : List (Lit × DataW H) → Nat
  | [] => 0
  | x :: r => uptoBulkEntry x + uptoBulkEntries r
def uptoBulkEntry {H : Type} : Lit × DataW H → Nat
  | (.string bytes, d) => bytes.length + uptoBulk d + 1
  | (_, d) => uptoBulk d + 1
 end
def uptoSmall : (H : Type) → List (DataW H) → Bool := fun _ ds => decide (uptoBulkAll ds ≤ 1048576)
def OpenSpec.upto (s : _root_.Go.ChangeSpec) : _root_.Go.OpenSpec := { _root_.Go.OpenSpec.ofChange s with cond := some uptoSmall }

/-- 'plaitlaw06.CutRuns', WHERE WHAT IT READS IS OF BULK AT MOST 1048576: true; the input reads as it did. -/
def cutRunsUptoRow : OpenClaim := { program := "ytbdcddkiioehcaadoor", sum := "95596eae26ce2e639e06344bf837f7891f010fbacbeab1d4492e1729e6fc5ea8", func := "plait/plaitlaw06.CutRuns", spec := "cutRuns", inPlace := ["internal/reflectlite.ValueOf", "(internal/reflectlite.Value).Type", "(internal/reflectlite.Value).IsNil", "internal/reflectlite.TypeOf", "(internal/reflectlite.Value).Elem", "(internal/reflectlite.Value).Set"], unfollowed := true, recurses := true, named := ["errors.errorType"], apart := false, laid := [("errors.errorType", laid_errors_errorType)], narrowed := true }
def CutRunsUptoSaid : Prop := cutRunsUptoRow.holds Tryd.pinned (OpenSpec.upto cutRunsSpec)

/-- 'plaitlaw06.CutNew', WHERE WHAT IT READS IS OF BULK AT MOST 1048576: true; the input reads as it did. -/
def cutNewUptoRow : OpenClaim := { program := "ytbdcddkiioehcaadoor", sum := "95596eae26ce2e639e06344bf837f7891f010fbacbeab1d4492e1729e6fc5ea8", func := "plait/plaitlaw06.CutNew", spec := "cutNew", inPlace := ["internal/reflectlite.ValueOf", "(internal/reflectlite.Value).Type", "(internal/reflectlite.Value).IsNil", "internal/reflectlite.TypeOf", "(internal/reflectlite.Value).Elem", "(internal/reflectlite.Value).Set"], unfollowed := true, recurses := true, named := ["errors.errorType"], apart := false, laid := [("errors.errorType", laid_errors_errorType)], narrowed := true }
def CutNewUptoSaid : Prop := cutNewUptoRow.holds Tryd.pinned (OpenSpec.upto cutNewSpec)

/-- 'plaitlaw06.CutTurned', WHERE WHAT IT READS IS OF BULK AT MOST 1048576: true; the input reads as it did. -/
def cutTurnedUptoRow : OpenClaim := { program := "ytbdcddkiioehcaadoor", sum := "95596eae26ce2e639e06344bf837f7891f010fbacbeab1d4492e1729e6fc5ea8", func := "plait/plaitlaw06.CutTurned", spec := "cutTurned", inPlace := ["internal/reflectlite.ValueOf", "(internal/reflectlite.Value).Type", "(internal/reflectlite.Value).IsNil", "internal/reflectlite.TypeOf", "(internal/reflectlite.Value).Elem", "(internal/reflectlite.Value).Set"], unfollowed := true, recurses := true, named := ["errors.errorType"], apart := false, laid := [("errors.errorType", laid_errors_errorType)], narrowed := true }
def CutTurnedUptoSaid : Prop := cutTurnedUptoRow.holds Tryd.pinned (OpenSpec.upto cutTurnedSpec)

/-- 'plaitlaw06.CutBack', WHERE WHAT IT READS IS OF BULK AT MOST 1048576: true; the input reads as it did. -/
def cutBackUptoRow : OpenClaim := { program := "ytbdcddkiioehcaadoor", sum := "95596eae26ce2e639e06344bf837f7891f010fbacbeab1d4492e1729e6fc5ea8", func := "plait/plaitlaw06.CutBack", spec := "cutBack", inPlace := ["internal/reflectlite.ValueOf", "(internal/reflectlite.Value).Type", "(internal/reflectlite.Value).IsNil", "internal/reflectlite.TypeOf", "(internal/reflectlite.Value).Elem", "(internal/reflectlite.Value).Set"], unfollowed := true, recurses := true, named := ["errors.errorType"], apart := false, laid := [("errors.errorType", laid_errors_errorType)], narrowed := true }
def CutBackUptoSaid : Prop := cutBackUptoRow.holds Tryd.pinned (OpenSpec.upto cutBackSpec)

/-- 'plaitlaw06.CutSums', WHERE WHAT IT READS IS OF BULK AT MOST 1048576: true; the input reads as it did. -/
def cutSumsUptoRow : OpenClaim := { program := "ytbdcddkiioehcaadoor", sum := "95596eae26ce2e639e06344bf837f7891f010fbacbeab1d4492e1729e6fc5ea8", func := "plait/plaitlaw06.CutSums", spec := "cutSums", inPlace := ["internal/reflectlite.ValueOf", "(internal/reflectlite.Value).Type", "(internal/reflectlite.Value).IsNil", "internal/reflectlite.TypeOf", "(internal/reflectlite.Value).Elem", "(internal/reflectlite.Value).Set"], unfollowed := true, recurses := true, named := ["errors.errorType"], apart := false, laid := [("errors.errorType", laid_errors_errorType)], narrowed := true }
def CutSumsUptoSaid : Prop := cutSumsUptoRow.holds Tryd.pinned (OpenSpec.upto cutSumsSpec)

/-- 'plaitlaw06.CutLinks', WHERE WHAT IT READS IS OF BULK AT MOST 1048576: true; the input reads as it did. -/
def cutLinksUptoRow : OpenClaim := { program := "ytbdcddkiioehcaadoor", sum := "95596eae26ce2e639e06344bf837f7891f010fbacbeab1d4492e1729e6fc5ea8", func := "plait/plaitlaw06.CutLinks", spec := "cutLinks", inPlace := ["internal/reflectlite.ValueOf", "(internal/reflectlite.Value).Type", "(internal/reflectlite.Value).IsNil", "internal/reflectlite.TypeOf", "(internal/reflectlite.Value).Elem", "(internal/reflectlite.Value).Set"], unfollowed := true, recurses := true, named := ["errors.errorType"], apart := false, laid := [("errors.errorType", laid_errors_errorType)], narrowed := true }
def CutLinksUptoSaid : Prop := cutLinksUptoRow.holds Tryd.pinned (OpenSpec.upto cutLinksSpec)

end Rows
end Go.Proofs.YtbdcddkiioehcaaDoor
