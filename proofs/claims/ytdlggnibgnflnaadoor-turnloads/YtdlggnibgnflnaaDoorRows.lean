/-
  NARROWER THAN 'FOR EVERY INPUT', by the rows' own cells (each row's printed sentence says how): TurnRuns: laid · TurnChecks: laid · TurnNew: laid · TurnBack: laid · TurnLoads: laid · TurnSums: laid.
  DERIVED. THE GIVEN ROWS OF THIS SEAT. 6 by the template 'for every input the law returns true; each argument reads behind the call as it read before'; 0 by the template 'total and deterministic' (their statements: YtdlggnibgnflnaaDoorTotals.lean).
  GIVEN WITH THE SEED: the statements are not yours to turn. If you find one false, say at which input.
  Laid BY PROGRAM, IN A SANDBOX (cutbox-rows.mjs): the forced cells as the released guide's own fill.sh prints them over the translation 249991ae225e0d60… (all of the seat's roots in one cut). By AI agents, Wed Nov 11 2026. No macro, syntax, notation, axiom, sorry.
-/
import Derived.Test.YtdlggnibgnflnaaDoorChecked
import GoSem.Claim
import GoSem.ClaimJoined
import GoSem.ClaimMapViews
import Derived.JoinedTies
import Derived.KernelRfl
namespace Go.Proofs.YtdlggnibgnflnaaDoor
/- THE CELL 'sum', in the pinned program and in every row, IS THE sha256 OF THE DUMP (.gsa) THAT YtdlggnibgnflnaaDoorProg.lean LOADS. Nothing in Lean hashes anything: it is a label: what it is worth is what the hold of that sum in a sandbox is worth. -/
noncomputable def Tryd.pinned : Pinned := { name := "ytdlggnibgnflnaadoor", sum := "249991ae225e0d60f84e4e379c717602ad4c871a07bb1f8ab9171aa84f352a3e", checked := Tryd.checked }
namespace Rows
def none {H : Type} : Left H := { results := [], args := [] }

/- WHAT THE LISTED PACKAGE-LEVEL VARIABLES READ AS WHEN THE CALL BEGINS. Each datum BY PROGRAM (the guide's laid-datum.mjs) off the statement by which the dump's own 'gosem.cut.vars' lays the variable. In a bare row this is a premise. The card (YtdlggnibgnflnaaDoorCards.lean) ties it to the program's text. -/
def laid_errors_errorType {H : Type} : DataW H := .iface "internal/reflectlite.rtype" (.agg [.ptr (.lit (.string [101, 114, 114, 111, 114]))])

/-- 'plaitlaw10.TurnRuns': WHATEVER THE INPUT: true; the input reads as it did. -/
def turnRunsSpec : ChangeSpec := { name := "turnRuns", fn := fun _ => fun
  | [d1, d2] => { results := [.lit (.bool true)], args := [d1, d2] }
  | _ => none }
def turnRunsRow : OpenClaim := { program := "ytdlggnibgnflnaadoor", sum := "249991ae225e0d60f84e4e379c717602ad4c871a07bb1f8ab9171aa84f352a3e", func := "plait/plaitlaw10.TurnRuns", spec := "turnRuns", inPlace := ["internal/reflectlite.ValueOf", "(internal/reflectlite.Value).Type", "(internal/reflectlite.Value).IsNil", "internal/reflectlite.TypeOf", "(internal/reflectlite.Value).Elem", "(internal/reflectlite.Value).Set"], unfollowed := true, recurses := true, named := ["errors.errorType"], apart := false, laid := [("errors.errorType", laid_errors_errorType)] }
def TurnRunsSaid : Prop := turnRunsRow.holds Tryd.pinned (OpenSpec.ofChange turnRunsSpec)

/-- ITS FALSE NEIGHBOUR: 'it returns false'. Refute it at one input. -/
def turnRunsWrong : ChangeSpec := { name := "turnRuns", fn := fun _ => fun
  | [d1, d2] => { results := [.lit (.bool false)], args := [d1, d2] }
  | _ => none }
def TurnRunsWrongFalsely : Prop := turnRunsRow.holds Tryd.pinned (OpenSpec.ofChange turnRunsWrong)

/-- 'plaitlaw10.TurnChecks': WHATEVER THE INPUT: true; the input reads as it did. -/
def turnChecksSpec : ChangeSpec := { name := "turnChecks", fn := fun _ => fun
  | [d1, d2, d3] => { results := [.lit (.bool true)], args := [d1, d2, d3] }
  | _ => none }
def turnChecksRow : OpenClaim := { program := "ytdlggnibgnflnaadoor", sum := "249991ae225e0d60f84e4e379c717602ad4c871a07bb1f8ab9171aa84f352a3e", func := "plait/plaitlaw10.TurnChecks", spec := "turnChecks", inPlace := ["internal/reflectlite.ValueOf", "(internal/reflectlite.Value).Type", "(internal/reflectlite.Value).IsNil", "internal/reflectlite.TypeOf", "(internal/reflectlite.Value).Elem", "(internal/reflectlite.Value).Set"], unfollowed := true, recurses := true, named := ["errors.errorType"], apart := false, laid := [("errors.errorType", laid_errors_errorType)] }
def TurnChecksSaid : Prop := turnChecksRow.holds Tryd.pinned (OpenSpec.ofChange turnChecksSpec)

/-- ITS FALSE NEIGHBOUR: 'it returns false'. Refute it at one input. -/
def turnChecksWrong : ChangeSpec := { name := "turnChecks", fn := fun _ => fun
  | [d1, d2, d3] => { results := [.lit (.bool false)], args := [d1, d2, d3] }
  | _ => none }
def TurnChecksWrongFalsely : Prop := turnChecksRow.holds Tryd.pinned (OpenSpec.ofChange turnChecksWrong)

/-- 'plaitlaw10.TurnNew': WHATEVER THE INPUT: true; the input reads as it did. -/
def turnNewSpec : ChangeSpec := { name := "turnNew", fn := fun _ => fun
  | [d1, d2] => { results := [.lit (.bool true)], args := [d1, d2] }
  | _ => none }
def turnNewRow : OpenClaim := { program := "ytdlggnibgnflnaadoor", sum := "249991ae225e0d60f84e4e379c717602ad4c871a07bb1f8ab9171aa84f352a3e", func := "plait/plaitlaw10.TurnNew", spec := "turnNew", inPlace := ["internal/reflectlite.ValueOf", "(internal/reflectlite.Value).Type", "(internal/reflectlite.Value).IsNil", "internal/reflectlite.TypeOf", "(internal/reflectlite.Value).Elem", "(internal/reflectlite.Value).Set"], unfollowed := true, recurses := true, named := ["errors.errorType"], apart := false, laid := [("errors.errorType", laid_errors_errorType)] }
def TurnNewSaid : Prop := turnNewRow.holds Tryd.pinned (OpenSpec.ofChange turnNewSpec)

/-- ITS FALSE NEIGHBOUR: 'it returns false'. Refute it at one input. -/
def turnNewWrong : ChangeSpec := { name := "turnNew", fn := fun _ => fun
  | [d1, d2] => { results := [.lit (.bool false)], args := [d1, d2] }
  | _ => none }
def TurnNewWrongFalsely : Prop := turnNewRow.holds Tryd.pinned (OpenSpec.ofChange turnNewWrong)

/-- 'plaitlaw10.TurnBack': WHATEVER THE INPUT: true; the input reads as it did. -/
def turnBackSpec : ChangeSpec := { name := "turnBack", fn := fun _ => fun
  | [d1, d2, d3] => { results := [.lit (.bool true)], args := [d1, d2, d3] }
  | _ => none }
def turnBackRow : OpenClaim := { program := "ytdlggnibgnflnaadoor", sum := "249991ae225e0d60f84e4e379c717602ad4c871a07bb1f8ab9171aa84f352a3e", func := "plait/plaitlaw10.TurnBack", spec := "turnBack", inPlace := ["internal/reflectlite.ValueOf", "(internal/reflectlite.Value).Type", "(internal/reflectlite.Value).IsNil", "internal/reflectlite.TypeOf", "(internal/reflectlite.Value).Elem", "(internal/reflectlite.Value).Set"], unfollowed := true, recurses := true, named := ["errors.errorType"], apart := false, laid := [("errors.errorType", laid_errors_errorType)] }
def TurnBackSaid : Prop := turnBackRow.holds Tryd.pinned (OpenSpec.ofChange turnBackSpec)

/-- ITS FALSE NEIGHBOUR: 'it returns false'. Refute it at one input. -/
def turnBackWrong : ChangeSpec := { name := "turnBack", fn := fun _ => fun
  | [d1, d2, d3] => { results := [.lit (.bool false)], args := [d1, d2, d3] }
  | _ => none }
def TurnBackWrongFalsely : Prop := turnBackRow.holds Tryd.pinned (OpenSpec.ofChange turnBackWrong)

/-- 'plaitlaw10.TurnLoads': WHATEVER THE INPUT: true; the input reads as it did. -/
def turnLoadsSpec : ChangeSpec := { name := "turnLoads", fn := fun _ => fun
  | [d1, d2, d3] => { results := [.lit (.bool true)], args := [d1, d2, d3] }
  | _ => none }
def turnLoadsRow : OpenClaim := { program := "ytdlggnibgnflnaadoor", sum := "249991ae225e0d60f84e4e379c717602ad4c871a07bb1f8ab9171aa84f352a3e", func := "plait/plaitlaw10.TurnLoads", spec := "turnLoads", inPlace := ["internal/reflectlite.ValueOf", "(internal/reflectlite.Value).Type", "(internal/reflectlite.Value).IsNil", "internal/reflectlite.TypeOf", "(internal/reflectlite.Value).Elem", "(internal/reflectlite.Value).Set"], unfollowed := true, recurses := true, named := ["errors.errorType"], apart := false, laid := [("errors.errorType", laid_errors_errorType)] }
def TurnLoadsSaid : Prop := turnLoadsRow.holds Tryd.pinned (OpenSpec.ofChange turnLoadsSpec)

/-- ITS FALSE NEIGHBOUR: 'it returns false'. Refute it at one input. -/
def turnLoadsWrong : ChangeSpec := { name := "turnLoads", fn := fun _ => fun
  | [d1, d2, d3] => { results := [.lit (.bool false)], args := [d1, d2, d3] }
  | _ => none }
def TurnLoadsWrongFalsely : Prop := turnLoadsRow.holds Tryd.pinned (OpenSpec.ofChange turnLoadsWrong)

/-- 'plaitlaw10.TurnSums': WHATEVER THE INPUT: true; the input reads as it did. -/
def turnSumsSpec : ChangeSpec := { name := "turnSums", fn := fun _ => fun
  | [d1, d2] => { results := [.lit (.bool true)], args := [d1, d2] }
  | _ => none }
def turnSumsRow : OpenClaim := { program := "ytdlggnibgnflnaadoor", sum := "249991ae225e0d60f84e4e379c717602ad4c871a07bb1f8ab9171aa84f352a3e", func := "plait/plaitlaw10.TurnSums", spec := "turnSums", inPlace := ["internal/reflectlite.ValueOf", "(internal/reflectlite.Value).Type", "(internal/reflectlite.Value).IsNil", "internal/reflectlite.TypeOf", "(internal/reflectlite.Value).Elem", "(internal/reflectlite.Value).Set"], unfollowed := true, recurses := true, named := ["errors.errorType"], apart := false, laid := [("errors.errorType", laid_errors_errorType)] }
def TurnSumsSaid : Prop := turnSumsRow.holds Tryd.pinned (OpenSpec.ofChange turnSumsSpec)

/-- ITS FALSE NEIGHBOUR: 'it returns false'. Refute it at one input. -/
def turnSumsWrong : ChangeSpec := { name := "turnSums", fn := fun _ => fun
  | [d1, d2] => { results := [.lit (.bool false)], args := [d1, d2] }
  | _ => none }
def TurnSumsWrongFalsely : Prop := turnSumsRow.holds Tryd.pinned (OpenSpec.ofChange turnSumsWrong)

/- THE SECOND FORM. 'bulk': how many values and letters a reading holds, each counted each time it is reached (what is shared counts as often as it is met; a slice's spare places count too). A statement '..UptoSaid' is the law's where the arguments, and the package variables that the reading takes, are together of bulk at most 1048576: NARROWER than '..Said'. Prove '..Said' where nothing that the law and all that it calls make is longer than what came in: it says more and counts as full. Else prove '..UptoSaid'. A law counts once. -/
mutual
def uptoBulk {H : Type} : DataW H → Nat
  | .lit (.string bytes) => bytes.length + 1
  | .lit _ => 1
  | .nil => 1
  | .ptr d => uptoBulk d + 1
  | .slice elems spare => uptoBulkAll elems + uptoBulkAll spare + 1
  | .agg parts => uptoBulkAll parts + 1
  | .iface _ d => uptoBulk d + 1
  | .map entries => uptoBulkEntries entries + 1
  | .held _ => 1
def uptoBulkAll {H : Type} : List (DataW H) → Nat
  | [] => 0
  | d :: r => uptoBulk d + uptoBulkAll r
def uptoBulkEntries {H : Type} : List (Lit × DataW H) → Nat
  | [] => 0
  | x :: r => uptoBulkEntry x + uptoBulkEntries r
def uptoBulkEntry {H : Type} : Lit × DataW H → Nat
  | (.string bytes, d) => bytes.length + uptoBulk d + 1
  | (_, d) => uptoBulk d + 1
 end
def uptoSmall : (H : Type) → List (DataW H) → Bool := fun _ ds => decide (uptoBulkAll ds ≤ 1048576)
def OpenSpec.upto (s : _root_.Go.ChangeSpec) : _root_.Go.OpenSpec := { _root_.Go.OpenSpec.ofChange s with cond := some uptoSmall }

/-- 'plaitlaw10.TurnRuns', WHERE WHAT IT READS IS OF BULK AT MOST 1048576: true; the input reads as it did. -/
def turnRunsUptoRow : OpenClaim := { program := "ytdlggnibgnflnaadoor", sum := "249991ae225e0d60f84e4e379c717602ad4c871a07bb1f8ab9171aa84f352a3e", func := "plait/plaitlaw10.TurnRuns", spec := "turnRuns", inPlace := ["internal/reflectlite.ValueOf", "(internal/reflectlite.Value).Type", "(internal/reflectlite.Value).IsNil", "internal/reflectlite.TypeOf", "(internal/reflectlite.Value).Elem", "(internal/reflectlite.Value).Set"], unfollowed := true, recurses := true, named := ["errors.errorType"], apart := false, laid := [("errors.errorType", laid_errors_errorType)], narrowed := true }
def TurnRunsUptoSaid : Prop := turnRunsUptoRow.holds Tryd.pinned (OpenSpec.upto turnRunsSpec)

/-- 'plaitlaw10.TurnChecks', WHERE WHAT IT READS IS OF BULK AT MOST 1048576: true; the input reads as it did. -/
def turnChecksUptoRow : OpenClaim := { program := "ytdlggnibgnflnaadoor", sum := "249991ae225e0d60f84e4e379c717602ad4c871a07bb1f8ab9171aa84f352a3e", func := "plait/plaitlaw10.TurnChecks", spec := "turnChecks", inPlace := ["internal/reflectlite.ValueOf", "(internal/reflectlite.Value).Type", "(internal/reflectlite.Value).IsNil", "internal/reflectlite.TypeOf", "(internal/reflectlite.Value).Elem", "(internal/reflectlite.Value).Set"], unfollowed := true, recurses := true, named := ["errors.errorType"], apart := false, laid := [("errors.errorType", laid_errors_errorType)], narrowed := true }
def TurnChecksUptoSaid : Prop := turnChecksUptoRow.holds Tryd.pinned (OpenSpec.upto turnChecksSpec)

/-- 'plaitlaw10.TurnNew', WHERE WHAT IT READS IS OF BULK AT MOST 1048576: true; the input reads as it did. -/
def turnNewUptoRow : OpenClaim := { program := "ytdlggnibgnflnaadoor", sum := "249991ae225e0d60f84e4e379c717602ad4c871a07bb1f8ab9171aa84f352a3e", func := "plait/plaitlaw10.TurnNew", spec := "turnNew", inPlace := ["internal/reflectlite.ValueOf", "(internal/reflectlite.Value).Type", "(internal/reflectlite.Value).IsNil", "internal/reflectlite.TypeOf", "(internal/reflectlite.Value).Elem", "(internal/reflectlite.Value).Set"], unfollowed := true, recurses := true, named := ["errors.errorType"], apart := false, laid := [("errors.errorType", laid_errors_errorType)], narrowed := true }
def TurnNewUptoSaid : Prop := turnNewUptoRow.holds Tryd.pinned (OpenSpec.upto turnNewSpec)

/-- 'plaitlaw10.TurnBack', WHERE WHAT IT READS IS OF BULK AT MOST 1048576: true; the input reads as it did. -/
def turnBackUptoRow : OpenClaim := { program := "ytdlggnibgnflnaadoor", sum := "249991ae225e0d60f84e4e379c717602ad4c871a07bb1f8ab9171aa84f352a3e", func := "plait/plaitlaw10.TurnBack", spec := "turnBack", inPlace := ["internal/reflectlite.ValueOf", "(internal/reflectlite.Value).Type", "(internal/reflectlite.Value).IsNil", "internal/reflectlite.TypeOf", "(internal/reflectlite.Value).Elem", "(internal/reflectlite.Value).Set"], unfollowed := true, recurses := true, named := ["errors.errorType"], apart := false, laid := [("errors.errorType", laid_errors_errorType)], narrowed := true }
def TurnBackUptoSaid : Prop := turnBackUptoRow.holds Tryd.pinned (OpenSpec.upto turnBackSpec)

/-- 'plaitlaw10.TurnLoads', WHERE WHAT IT READS IS OF BULK AT MOST 1048576: true; the input reads as it did. -/
def turnLoadsUptoRow : OpenClaim := { program := "ytdlggnibgnflnaadoor", sum := "249991ae225e0d60f84e4e379c717602ad4c871a07bb1f8ab9171aa84f352a3e", func := "plait/plaitlaw10.TurnLoads", spec := "turnLoads", inPlace := ["internal/reflectlite.ValueOf", "(internal/reflectlite.Value).Type", "(internal/reflectlite.Value).IsNil", "internal/reflectlite.TypeOf", "(internal/reflectlite.Value).Elem", "(internal/reflectlite.Value).Set"], unfollowed := true, recurses := true, named := ["errors.errorType"], apart := false, laid := [("errors.errorType", laid_errors_errorType)], narrowed := true }
def TurnLoadsUptoSaid : Prop := turnLoadsUptoRow.holds Tryd.pinned (OpenSpec.upto turnLoadsSpec)

/-- 'plaitlaw10.TurnSums', WHERE WHAT IT READS IS OF BULK AT MOST 1048576: true; the input reads as it did. -/
def turnSumsUptoRow : OpenClaim := { program := "ytdlggnibgnflnaadoor", sum := "249991ae225e0d60f84e4e379c717602ad4c871a07bb1f8ab9171aa84f352a3e", func := "plait/plaitlaw10.TurnSums", spec := "turnSums", inPlace := ["internal/reflectlite.ValueOf", "(internal/reflectlite.Value).Type", "(internal/reflectlite.Value).IsNil", "internal/reflectlite.TypeOf", "(internal/reflectlite.Value).Elem", "(internal/reflectlite.Value).Set"], unfollowed := true, recurses := true, named := ["errors.errorType"], apart := false, laid := [("errors.errorType", laid_errors_errorType)], narrowed := true }
def TurnSumsUptoSaid : Prop := turnSumsUptoRow.holds Tryd.pinned (OpenSpec.upto turnSumsSpec)

end Rows
end Go.Proofs.YtdlggnibgnflnaaDoor
