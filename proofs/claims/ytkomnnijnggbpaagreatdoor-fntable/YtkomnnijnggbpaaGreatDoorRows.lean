/-
  NARROWER THAN 'FOR EVERY INPUT', by the rows' own cells (each row's printed sentence says how): FnTable: laid · FnGetTable: laid · FnSpoilt: laid · FnTableGet: laid · FnTableScan: laid · FnConfigs: laid · FnExactGetTable: laid · FnExactTableGet: laid · FnExactTableMay: laid · FnExactTableScan: laid.
  DERIVED. THE GIVEN ROWS OF THIS SEAT. 10 by the template 'for every input the law returns true; each argument reads behind the call as it read before'; 0 by the template 'total and deterministic' (their statements: YtkomnnijnggbpaaGreatDoorTotals.lean).
  GIVEN WITH THE SEED: the statements are not yours to turn. If you find one false, say at which input.
  Laid BY PROGRAM, IN A SANDBOX (cutbox-rows.mjs): the forced cells as the released guide's own fill.sh prints them over the translation 00a8fa80fe0ce953… (all of the seat's roots in one cut). By AI agents, Wed Nov 11 2026. No macro, syntax, notation, axiom, sorry.
-/
import Derived.Test.YtkomnnijnggbpaaGreatDoorChecked
import GoSem.Claim
import GoSem.ClaimJoined
import GoSem.ClaimMapViews
import Derived.JoinedTies
import Derived.KernelRfl
namespace Go.Proofs.YtkomnnijnggbpaaGreatDoor
/- THE CELL 'sum', in the pinned program and in every row, IS THE sha256 OF THE DUMP (.gsa) THAT YtkomnnijnggbpaaGreatDoorProg.lean LOADS. Nothing in Lean hashes anything: it is a label: what it is worth is what the hold of that sum in a sandbox is worth. -/
noncomputable def Tryz.pinned : Pinned := { name := "ytkomnnijnggbpaagreatdoor", sum := "00a8fa80fe0ce95325d45a381b7087f8c7c0832d186937a3da514b32edd96d07", checked := Tryz.checked }
namespace Rows
def none {H : Type} : Left H := { results := [], args := [] }

/- WHAT THE LISTED PACKAGE-LEVEL VARIABLES READ AS WHEN THE CALL BEGINS. Each datum BY PROGRAM (the guide's laid-datum.mjs) off the statement by which the dump's own 'gosem.cut.vars' lays the variable. In a bare row this is a premise. The card (YtkomnnijnggbpaaGreatDoorCards.lean) ties it to the program's text. -/
def laid_errors_errorType {H : Type} : DataW H := .iface "internal/reflectlite.rtype" (.agg [.ptr (.lit (.string [101, 114, 114, 111, 114]))])

/-- 'laws.FnTable': WHATEVER THE INPUT: true; the input reads as it did. -/
def fnTableSpec : ChangeSpec := { name := "fnTable", fn := fun _ => fun
  | [d] => { results := [.lit (.bool true)], args := [d] }
  | _ => none }
def fnTableRow : OpenClaim := { program := "ytkomnnijnggbpaagreatdoor", sum := "00a8fa80fe0ce95325d45a381b7087f8c7c0832d186937a3da514b32edd96d07", func := "loop.example/g00813/laws.FnTable", spec := "fnTable", inPlace := ["internal/bytealg.IndexByteString", "internal/bytealg.IndexString", "internal/reflectlite.ValueOf", "(internal/reflectlite.Value).Type", "(internal/reflectlite.Value).IsNil", "internal/reflectlite.TypeOf", "(internal/reflectlite.Value).Elem", "(internal/reflectlite.Value).Set"], unfollowed := true, recurses := true, named := ["internal/bytealg.MaxLen", "errors.errorType"], apart := false, laid := [("errors.errorType", laid_errors_errorType)] }
def FnTableSaid : Prop := fnTableRow.holds Tryz.pinned (OpenSpec.ofChange fnTableSpec)

/-- ITS FALSE NEIGHBOUR: 'it returns false'. Refute it at one input. -/
def fnTableWrong : ChangeSpec := { name := "fnTable", fn := fun _ => fun
  | [d] => { results := [.lit (.bool false)], args := [d] }
  | _ => none }
def FnTableWrongFalsely : Prop := fnTableRow.holds Tryz.pinned (OpenSpec.ofChange fnTableWrong)

/-- 'laws.FnGetTable': WHATEVER THE INPUT: true; the input reads as it did. -/
def fnGetTableSpec : ChangeSpec := { name := "fnGetTable", fn := fun _ => fun
  | [d] => { results := [.lit (.bool true)], args := [d] }
  | _ => none }
def fnGetTableRow : OpenClaim := { program := "ytkomnnijnggbpaagreatdoor", sum := "00a8fa80fe0ce95325d45a381b7087f8c7c0832d186937a3da514b32edd96d07", func := "loop.example/g00813/laws.FnGetTable", spec := "fnGetTable", inPlace := ["internal/bytealg.IndexByteString", "internal/bytealg.IndexString", "internal/reflectlite.ValueOf", "(internal/reflectlite.Value).Type", "(internal/reflectlite.Value).IsNil", "internal/reflectlite.TypeOf", "(internal/reflectlite.Value).Elem", "(internal/reflectlite.Value).Set"], unfollowed := true, recurses := true, named := ["internal/bytealg.MaxLen", "errors.errorType"], apart := false, laid := [("errors.errorType", laid_errors_errorType)] }
def FnGetTableSaid : Prop := fnGetTableRow.holds Tryz.pinned (OpenSpec.ofChange fnGetTableSpec)

/-- ITS FALSE NEIGHBOUR: 'it returns false'. Refute it at one input. -/
def fnGetTableWrong : ChangeSpec := { name := "fnGetTable", fn := fun _ => fun
  | [d] => { results := [.lit (.bool false)], args := [d] }
  | _ => none }
def FnGetTableWrongFalsely : Prop := fnGetTableRow.holds Tryz.pinned (OpenSpec.ofChange fnGetTableWrong)

/-- 'laws.FnSpoilt': WHATEVER THE INPUT: true; the input reads as it did. -/
def fnSpoiltSpec : ChangeSpec := { name := "fnSpoilt", fn := fun _ => fun
  | [d] => { results := [.lit (.bool true)], args := [d] }
  | _ => none }
def fnSpoiltRow : OpenClaim := { program := "ytkomnnijnggbpaagreatdoor", sum := "00a8fa80fe0ce95325d45a381b7087f8c7c0832d186937a3da514b32edd96d07", func := "loop.example/g00813/laws.FnSpoilt", spec := "fnSpoilt", inPlace := ["internal/bytealg.IndexByteString", "internal/bytealg.IndexString", "internal/reflectlite.ValueOf", "(internal/reflectlite.Value).Type", "(internal/reflectlite.Value).IsNil", "internal/reflectlite.TypeOf", "(internal/reflectlite.Value).Elem", "(internal/reflectlite.Value).Set"], unfollowed := true, recurses := true, named := ["internal/bytealg.MaxLen", "errors.errorType"], apart := false, laid := [("errors.errorType", laid_errors_errorType)] }
def FnSpoiltSaid : Prop := fnSpoiltRow.holds Tryz.pinned (OpenSpec.ofChange fnSpoiltSpec)

/-- ITS FALSE NEIGHBOUR: 'it returns false'. Refute it at one input. -/
def fnSpoiltWrong : ChangeSpec := { name := "fnSpoilt", fn := fun _ => fun
  | [d] => { results := [.lit (.bool false)], args := [d] }
  | _ => none }
def FnSpoiltWrongFalsely : Prop := fnSpoiltRow.holds Tryz.pinned (OpenSpec.ofChange fnSpoiltWrong)

/-- 'laws.FnTableGet': WHATEVER THE INPUT: true; the input reads as it did. -/
def fnTableGetSpec : ChangeSpec := { name := "fnTableGet", fn := fun _ => fun
  | [d] => { results := [.lit (.bool true)], args := [d] }
  | _ => none }
def fnTableGetRow : OpenClaim := { program := "ytkomnnijnggbpaagreatdoor", sum := "00a8fa80fe0ce95325d45a381b7087f8c7c0832d186937a3da514b32edd96d07", func := "loop.example/g00813/laws.FnTableGet", spec := "fnTableGet", inPlace := ["internal/bytealg.IndexByteString", "internal/bytealg.IndexString", "internal/reflectlite.ValueOf", "(internal/reflectlite.Value).Type", "(internal/reflectlite.Value).IsNil", "internal/reflectlite.TypeOf", "(internal/reflectlite.Value).Elem", "(internal/reflectlite.Value).Set"], unfollowed := true, recurses := true, named := ["internal/bytealg.MaxLen", "errors.errorType"], apart := false, laid := [("errors.errorType", laid_errors_errorType)] }
def FnTableGetSaid : Prop := fnTableGetRow.holds Tryz.pinned (OpenSpec.ofChange fnTableGetSpec)

/-- ITS FALSE NEIGHBOUR: 'it returns false'. Refute it at one input. -/
def fnTableGetWrong : ChangeSpec := { name := "fnTableGet", fn := fun _ => fun
  | [d] => { results := [.lit (.bool false)], args := [d] }
  | _ => none }
def FnTableGetWrongFalsely : Prop := fnTableGetRow.holds Tryz.pinned (OpenSpec.ofChange fnTableGetWrong)

/-- 'laws.FnTableScan': WHATEVER THE INPUT: true; the input reads as it did. -/
def fnTableScanSpec : ChangeSpec := { name := "fnTableScan", fn := fun _ => fun
  | [d] => { results := [.lit (.bool true)], args := [d] }
  | _ => none }
def fnTableScanRow : OpenClaim := { program := "ytkomnnijnggbpaagreatdoor", sum := "00a8fa80fe0ce95325d45a381b7087f8c7c0832d186937a3da514b32edd96d07", func := "loop.example/g00813/laws.FnTableScan", spec := "fnTableScan", inPlace := ["internal/bytealg.IndexByteString", "internal/bytealg.IndexString", "internal/reflectlite.ValueOf", "(internal/reflectlite.Value).Type", "(internal/reflectlite.Value).IsNil", "internal/reflectlite.TypeOf", "(internal/reflectlite.Value).Elem", "(internal/reflectlite.Value).Set"], unfollowed := true, recurses := true, named := ["internal/bytealg.MaxLen", "errors.errorType"], apart := false, laid := [("errors.errorType", laid_errors_errorType)] }
def FnTableScanSaid : Prop := fnTableScanRow.holds Tryz.pinned (OpenSpec.ofChange fnTableScanSpec)

/-- ITS FALSE NEIGHBOUR: 'it returns false'. Refute it at one input. -/
def fnTableScanWrong : ChangeSpec := { name := "fnTableScan", fn := fun _ => fun
  | [d] => { results := [.lit (.bool false)], args := [d] }
  | _ => none }
def FnTableScanWrongFalsely : Prop := fnTableScanRow.holds Tryz.pinned (OpenSpec.ofChange fnTableScanWrong)

/-- 'laws.FnConfigs': WHATEVER THE INPUT: true; the input reads as it did. -/
def fnConfigsSpec : ChangeSpec := { name := "fnConfigs", fn := fun _ => fun
  | [d] => { results := [.lit (.bool true)], args := [d] }
  | _ => none }
def fnConfigsRow : OpenClaim := { program := "ytkomnnijnggbpaagreatdoor", sum := "00a8fa80fe0ce95325d45a381b7087f8c7c0832d186937a3da514b32edd96d07", func := "loop.example/g00813/laws.FnConfigs", spec := "fnConfigs", inPlace := ["internal/bytealg.IndexByteString", "internal/bytealg.IndexString", "internal/reflectlite.ValueOf", "(internal/reflectlite.Value).Type", "(internal/reflectlite.Value).IsNil", "internal/reflectlite.TypeOf", "(internal/reflectlite.Value).Elem", "(internal/reflectlite.Value).Set"], unfollowed := true, recurses := true, named := ["internal/bytealg.MaxLen", "errors.errorType"], apart := false, laid := [("errors.errorType", laid_errors_errorType)] }
def FnConfigsSaid : Prop := fnConfigsRow.holds Tryz.pinned (OpenSpec.ofChange fnConfigsSpec)

/-- ITS FALSE NEIGHBOUR: 'it returns false'. Refute it at one input. -/
def fnConfigsWrong : ChangeSpec := { name := "fnConfigs", fn := fun _ => fun
  | [d] => { results := [.lit (.bool false)], args := [d] }
  | _ => none }
def FnConfigsWrongFalsely : Prop := fnConfigsRow.holds Tryz.pinned (OpenSpec.ofChange fnConfigsWrong)

/-- 'laws.FnExactGetTable': WHATEVER THE INPUT: true; the input reads as it did. -/
def fnExactGetTableSpec : ChangeSpec := { name := "fnExactGetTable", fn := fun _ => fun
  | [d] => { results := [.lit (.bool true)], args := [d] }
  | _ => none }
def fnExactGetTableRow : OpenClaim := { program := "ytkomnnijnggbpaagreatdoor", sum := "00a8fa80fe0ce95325d45a381b7087f8c7c0832d186937a3da514b32edd96d07", func := "loop.example/g00813/laws.FnExactGetTable", spec := "fnExactGetTable", inPlace := ["internal/bytealg.IndexByteString", "internal/bytealg.IndexString", "internal/reflectlite.ValueOf", "(internal/reflectlite.Value).Type", "(internal/reflectlite.Value).IsNil", "internal/reflectlite.TypeOf", "(internal/reflectlite.Value).Elem", "(internal/reflectlite.Value).Set"], unfollowed := true, recurses := true, named := ["internal/bytealg.MaxLen", "errors.errorType"], apart := false, laid := [("errors.errorType", laid_errors_errorType)] }
def FnExactGetTableSaid : Prop := fnExactGetTableRow.holds Tryz.pinned (OpenSpec.ofChange fnExactGetTableSpec)

/-- ITS FALSE NEIGHBOUR: 'it returns false'. Refute it at one input. -/
def fnExactGetTableWrong : ChangeSpec := { name := "fnExactGetTable", fn := fun _ => fun
  | [d] => { results := [.lit (.bool false)], args := [d] }
  | _ => none }
def FnExactGetTableWrongFalsely : Prop := fnExactGetTableRow.holds Tryz.pinned (OpenSpec.ofChange fnExactGetTableWrong)

/-- 'laws.FnExactTableGet': WHATEVER THE INPUT: true; the input reads as it did. -/
def fnExactTableGetSpec : ChangeSpec := { name := "fnExactTableGet", fn := fun _ => fun
  | [d1, d2, d3, d4] => { results := [.lit (.bool true)], args := [d1, d2, d3, d4] }
  | _ => none }
def fnExactTableGetRow : OpenClaim := { program := "ytkomnnijnggbpaagreatdoor", sum := "00a8fa80fe0ce95325d45a381b7087f8c7c0832d186937a3da514b32edd96d07", func := "loop.example/g00813/laws.FnExactTableGet", spec := "fnExactTableGet", inPlace := ["internal/bytealg.IndexByteString", "internal/bytealg.IndexString", "internal/reflectlite.ValueOf", "(internal/reflectlite.Value).Type", "(internal/reflectlite.Value).IsNil", "internal/reflectlite.TypeOf", "(internal/reflectlite.Value).Elem", "(internal/reflectlite.Value).Set"], unfollowed := true, recurses := true, named := ["internal/bytealg.MaxLen", "errors.errorType"], apart := false, laid := [("errors.errorType", laid_errors_errorType)] }
def FnExactTableGetSaid : Prop := fnExactTableGetRow.holds Tryz.pinned (OpenSpec.ofChange fnExactTableGetSpec)

/-- ITS FALSE NEIGHBOUR: 'it returns false'. Refute it at one input. -/
def fnExactTableGetWrong : ChangeSpec := { name := "fnExactTableGet", fn := fun _ => fun
  | [d1, d2, d3, d4] => { results := [.lit (.bool false)], args := [d1, d2, d3, d4] }
  | _ => none }
def FnExactTableGetWrongFalsely : Prop := fnExactTableGetRow.holds Tryz.pinned (OpenSpec.ofChange fnExactTableGetWrong)

/-- 'laws.FnExactTableMay': WHATEVER THE INPUT: true; the input reads as it did. -/
def fnExactTableMaySpec : ChangeSpec := { name := "fnExactTableMay", fn := fun _ => fun
  | [d1, d2, d3] => { results := [.lit (.bool true)], args := [d1, d2, d3] }
  | _ => none }
def fnExactTableMayRow : OpenClaim := { program := "ytkomnnijnggbpaagreatdoor", sum := "00a8fa80fe0ce95325d45a381b7087f8c7c0832d186937a3da514b32edd96d07", func := "loop.example/g00813/laws.FnExactTableMay", spec := "fnExactTableMay", inPlace := ["internal/bytealg.IndexByteString", "internal/bytealg.IndexString", "internal/reflectlite.ValueOf", "(internal/reflectlite.Value).Type", "(internal/reflectlite.Value).IsNil", "internal/reflectlite.TypeOf", "(internal/reflectlite.Value).Elem", "(internal/reflectlite.Value).Set"], unfollowed := true, recurses := true, named := ["internal/bytealg.MaxLen", "errors.errorType"], apart := false, laid := [("errors.errorType", laid_errors_errorType)] }
def FnExactTableMaySaid : Prop := fnExactTableMayRow.holds Tryz.pinned (OpenSpec.ofChange fnExactTableMaySpec)

/-- ITS FALSE NEIGHBOUR: 'it returns false'. Refute it at one input. -/
def fnExactTableMayWrong : ChangeSpec := { name := "fnExactTableMay", fn := fun _ => fun
  | [d1, d2, d3] => { results := [.lit (.bool false)], args := [d1, d2, d3] }
  | _ => none }
def FnExactTableMayWrongFalsely : Prop := fnExactTableMayRow.holds Tryz.pinned (OpenSpec.ofChange fnExactTableMayWrong)

/-- 'laws.FnExactTableScan': WHATEVER THE INPUT: true; the input reads as it did. -/
def fnExactTableScanSpec : ChangeSpec := { name := "fnExactTableScan", fn := fun _ => fun
  | [d1, d2, d3] => { results := [.lit (.bool true)], args := [d1, d2, d3] }
  | _ => none }
def fnExactTableScanRow : OpenClaim := { program := "ytkomnnijnggbpaagreatdoor", sum := "00a8fa80fe0ce95325d45a381b7087f8c7c0832d186937a3da514b32edd96d07", func := "loop.example/g00813/laws.FnExactTableScan", spec := "fnExactTableScan", inPlace := ["internal/bytealg.IndexByteString", "internal/bytealg.IndexString", "internal/reflectlite.ValueOf", "(internal/reflectlite.Value).Type", "(internal/reflectlite.Value).IsNil", "internal/reflectlite.TypeOf", "(internal/reflectlite.Value).Elem", "(internal/reflectlite.Value).Set"], unfollowed := true, recurses := true, named := ["internal/bytealg.MaxLen", "errors.errorType"], apart := false, laid := [("errors.errorType", laid_errors_errorType)] }
def FnExactTableScanSaid : Prop := fnExactTableScanRow.holds Tryz.pinned (OpenSpec.ofChange fnExactTableScanSpec)

/-- ITS FALSE NEIGHBOUR: 'it returns false'. Refute it at one input. -/
def fnExactTableScanWrong : ChangeSpec := { name := "fnExactTableScan", fn := fun _ => fun
  | [d1, d2, d3] => { results := [.lit (.bool false)], args := [d1, d2, d3] }
  | _ => none }
def FnExactTableScanWrongFalsely : Prop := fnExactTableScanRow.holds Tryz.pinned (OpenSpec.ofChange fnExactTableScanWrong)

/- THE SECOND FORM. 'bulk': how many values and letters a reading holds, each counted each time it is reached (what is shared counts as often as it is met; a slice's spare places count too). A statement '..UptoSaid' is the law's where the arguments, and the package variables that the reading takes, are together of bulk at most 1048576: NARROWER than '..Said'. Prove '..Said' where nothing that the law and all that it calls make is longer than what came in: it says more and counts as full. Else prove '..UptoSaid'. A law counts once. -/
mutual
def uptoBulk {H : Type} : DataW H → Nat
  | .lit (.string bytes) => bytes.length + 1
  | .lit _ => 1
  | .nil => 1
  | .ptr d => uptoBulk d + 1
  | .slice elems spare => uptoBulkAll elems + uptoBulkAll spare + 1
  | .agg parts => uptoBulkAll parts + 1
  | .iface _ d => uptoBulk d + 1
  | .map entries => uptoBulkEntries entries + 1
  | .held _ => 1
def uptoBulkAll {H : Type} : List (DataW H) → Nat
  | [] => 0
  | d :: r => uptoBulk d + uptoBulkAll r
def uptoBulkEntries {H : Type} : List (Lit × DataW H) → Nat
  | [] => 0
  | x :: r => uptoBulkEntry x + uptoBulkEntries r
def uptoBulkEntry {H : Type} : Lit × DataW H → Nat
  | (.string bytes, d) => bytes.length + uptoBulk d + 1
  | (_, d) => uptoBulk d + 1
 end
def uptoSmall : (H : Type) → List (DataW H) → Bool := fun _ ds => decide (uptoBulkAll ds ≤ 1048576)
def OpenSpec.upto (s : _root_.Go.ChangeSpec) : _root_.Go.OpenSpec := { _root_.Go.OpenSpec.ofChange s with cond := some uptoSmall }

/-- 'laws.FnTable', WHERE WHAT IT READS IS OF BULK AT MOST 1048576: true; the input reads as it did. -/
def fnTableUptoRow : OpenClaim := { program := "ytkomnnijnggbpaagreatdoor", sum := "00a8fa80fe0ce95325d45a381b7087f8c7c0832d186937a3da514b32edd96d07", func := "loop.example/g00813/laws.FnTable", spec := "fnTable", inPlace := ["internal/bytealg.IndexByteString", "internal/bytealg.IndexString", "internal/reflectlite.ValueOf", "(internal/reflectlite.Value).Type", "(internal/reflectlite.Value).IsNil", "internal/reflectlite.TypeOf", "(internal/reflectlite.Value).Elem", "(internal/reflectlite.Value).Set"], unfollowed := true, recurses := true, named := ["internal/bytealg.MaxLen", "errors.errorType"], apart := false, laid := [("errors.errorType", laid_errors_errorType)], narrowed := true }
def FnTableUptoSaid : Prop := fnTableUptoRow.holds Tryz.pinned (OpenSpec.upto fnTableSpec)

/-- 'laws.FnGetTable', WHERE WHAT IT READS IS OF BULK AT MOST 1048576: true; the input reads as it did. -/
def fnGetTableUptoRow : OpenClaim := { program := "ytkomnnijnggbpaagreatdoor", sum := "00a8fa80fe0ce95325d45a381b7087f8c7c0832d186937a3da514b32edd96d07", func := "loop.example/g00813/laws.FnGetTable", spec := "fnGetTable", inPlace := ["internal/bytealg.IndexByteString", "internal/bytealg.IndexString", "internal/reflectlite.ValueOf", "(internal/reflectlite.Value).Type", "(internal/reflectlite.Value).IsNil", "internal/reflectlite.TypeOf", "(internal/reflectlite.Value).Elem", "(internal/reflectlite.Value).Set"], unfollowed := true, recurses := true, named := ["internal/bytealg.MaxLen", "errors.errorType"], apart := false, laid := [("errors.errorType", laid_errors_errorType)], narrowed := true }
def FnGetTableUptoSaid : Prop := fnGetTableUptoRow.holds Tryz.pinned (OpenSpec.upto fnGetTableSpec)

/-- 'laws.FnSpoilt', WHERE WHAT IT READS IS OF BULK AT MOST 1048576: true; the input reads as it did. -/
def fnSpoiltUptoRow : OpenClaim := { program := "ytkomnnijnggbpaagreatdoor", sum := "00a8fa80fe0ce95325d45a381b7087f8c7c0832d186937a3da514b32edd96d07", func := "loop.example/g00813/laws.FnSpoilt", spec := "fnSpoilt", inPlace := ["internal/bytealg.IndexByteString", "internal/bytealg.IndexString", "internal/reflectlite.ValueOf", "(internal/reflectlite.Value).Type", "(internal/reflectlite.Value).IsNil", "internal/reflectlite.TypeOf", "(internal/reflectlite.Value).Elem", "(internal/reflectlite.Value).Set"], unfollowed := true, recurses := true, named := ["internal/bytealg.MaxLen", "errors.errorType"], apart := false, laid := [("errors.errorType", laid_errors_errorType)], narrowed := true }
def FnSpoiltUptoSaid : Prop := fnSpoiltUptoRow.holds Tryz.pinned (OpenSpec.upto fnSpoiltSpec)

/-- 'laws.FnTableGet', WHERE WHAT IT READS IS OF BULK AT MOST 1048576: true; the input reads as it did. -/
def fnTableGetUptoRow : OpenClaim := { program := "ytkomnnijnggbpaagreatdoor", sum := "00a8fa80fe0ce95325d45a381b7087f8c7c0832d186937a3da514b32edd96d07", func := "loop.example/g00813/laws.FnTableGet", spec := "fnTableGet", inPlace := ["internal/bytealg.IndexByteString", "internal/bytealg.IndexString", "internal/reflectlite.ValueOf", "(internal/reflectlite.Value).Type", "(internal/reflectlite.Value).IsNil", "internal/reflectlite.TypeOf", "(internal/reflectlite.Value).Elem", "(internal/reflectlite.Value).Set"], unfollowed := true, recurses := true, named := ["internal/bytealg.MaxLen", "errors.errorType"], apart := false, laid := [("errors.errorType", laid_errors_errorType)], narrowed := true }
def FnTableGetUptoSaid : Prop := fnTableGetUptoRow.holds Tryz.pinned (OpenSpec.upto fnTableGetSpec)

/-- 'laws.FnTableScan', WHERE WHAT IT READS IS OF BULK AT MOST 1048576: true; the input reads as it did. -/
def fnTableScanUptoRow : OpenClaim := { program := "ytkomnnijnggbpaagreatdoor", sum := "00a8fa80fe0ce95325d45a381b7087f8c7c0832d186937a3da514b32edd96d07", func := "loop.example/g00813/laws.FnTableScan", spec := "fnTableScan", inPlace := ["internal/bytealg.IndexByteString", "internal/bytealg.IndexString", "internal/reflectlite.ValueOf", "(internal/reflectlite.Value).Type", "(internal/reflectlite.Value).IsNil", "internal/reflectlite.TypeOf", "(internal/reflectlite.Value).Elem", "(internal/reflectlite.Value).Set"], unfollowed := true, recurses := true, named := ["internal/bytealg.MaxLen", "errors.errorType"], apart := false, laid := [("errors.errorType", laid_errors_errorType)], narrowed := true }
def FnTableScanUptoSaid : Prop := fnTableScanUptoRow.holds Tryz.pinned (OpenSpec.upto fnTableScanSpec)

/-- 'laws.FnConfigs', WHERE WHAT IT READS IS OF BULK AT MOST 1048576: true; the input reads as it did. -/
def fnConfigsUptoRow : OpenClaim := { program := "ytkomnnijnggbpaagreatdoor", sum := "00a8fa80fe0ce95325d45a381b7087f8c7c0832d186937a3da514b32edd96d07", func := "loop.example/g00813/laws.FnConfigs", spec := "fnConfigs", inPlace := ["internal/bytealg.IndexByteString", "internal/bytealg.IndexString", "internal/reflectlite.ValueOf", "(internal/reflectlite.Value).Type", "(internal/reflectlite.Value).IsNil", "internal/reflectlite.TypeOf", "(internal/reflectlite.Value).Elem", "(internal/reflectlite.Value).Set"], unfollowed := true, recurses := true, named := ["internal/bytealg.MaxLen", "errors.errorType"], apart := false, laid := [("errors.errorType", laid_errors_errorType)], narrowed := true }
def FnConfigsUptoSaid : Prop := fnConfigsUptoRow.holds Tryz.pinned (OpenSpec.upto fnConfigsSpec)

/-- 'laws.FnExactGetTable', WHERE WHAT IT READS IS OF BULK AT MOST 1048576: true; the input reads as it did. -/
def fnExactGetTableUptoRow : OpenClaim := { program := "ytkomnnijnggbpaagreatdoor", sum := "00a8fa80fe0ce95325d45a381b7087f8c7c0832d186937a3da514b32edd96d07", func := "loop.example/g00813/laws.FnExactGetTable", spec := "fnExactGetTable", inPlace := ["internal/bytealg.IndexByteString", "internal/bytealg.IndexString", "internal/reflectlite.ValueOf", "(internal/reflectlite.Value).Type", "(internal/reflectlite.Value).IsNil", "internal/reflectlite.TypeOf", "(internal/reflectlite.Value).Elem", "(internal/reflectlite.Value).Set"], unfollowed := true, recurses := true, named := ["internal/bytealg.MaxLen", "errors.errorType"], apart := false, laid := [("errors.errorType", laid_errors_errorType)], narrowed := true }
def FnExactGetTableUptoSaid : Prop := fnExactGetTableUptoRow.holds Tryz.pinned (OpenSpec.upto fnExactGetTableSpec)

/-- 'laws.FnExactTableGet', WHERE WHAT IT READS IS OF BULK AT MOST 1048576: true; the input reads as it did. -/
def fnExactTableGetUptoRow : OpenClaim := { program := "ytkomnnijnggbpaagreatdoor", sum := "00a8fa80fe0ce95325d45a381b7087f8c7c0832d186937a3da514b32edd96d07", func := "loop.example/g00813/laws.FnExactTableGet", spec := "fnExactTableGet", inPlace := ["internal/bytealg.IndexByteString", "internal/bytealg.IndexString", "internal/reflectlite.ValueOf", "(internal/reflectlite.Value).Type", "(internal/reflectlite.Value).IsNil", "internal/reflectlite.TypeOf", "(internal/reflectlite.Value).Elem", "(internal/reflectlite.Value).Set"], unfollowed := true, recurses := true, named := ["internal/bytealg.MaxLen", "errors.errorType"], apart := false, laid := [("errors.errorType", laid_errors_errorType)], narrowed := true }
def FnExactTableGetUptoSaid : Prop := fnExactTableGetUptoRow.holds Tryz.pinned (OpenSpec.upto fnExactTableGetSpec)

/-- 'laws.FnExactTableMay', WHERE WHAT IT READS IS OF BULK AT MOST 1048576: true; the input reads as it did. -/
def fnExactTableMayUptoRow : OpenClaim := { program := "ytkomnnijnggbpaagreatdoor", sum := "00a8fa80fe0ce95325d45a381b7087f8c7c0832d186937a3da514b32edd96d07", func := "loop.example/g00813/laws.FnExactTableMay", spec := "fnExactTableMay", inPlace := ["internal/bytealg.IndexByteString", "internal/bytealg.IndexString", "internal/reflectlite.ValueOf", "(internal/reflectlite.Value).Type", "(internal/reflectlite.Value).IsNil", "internal/reflectlite.TypeOf", "(internal/reflectlite.Value).Elem", "(internal/reflectlite.Value).Set"], unfollowed := true, recurses := true, named := ["internal/bytealg.MaxLen", "errors.errorType"], apart := false, laid := [("errors.errorType", laid_errors_errorType)], narrowed := true }
def FnExactTableMayUptoSaid : Prop := fnExactTableMayUptoRow.holds Tryz.pinned (OpenSpec.upto fnExactTableMaySpec)

/-- 'laws.FnExactTableScan', WHERE WHAT IT READS IS OF BULK AT MOST 1048576: true; the input reads as it did. -/
def fnExactTableScanUptoRow : OpenClaim := { program := "ytkomnnijnggbpaagreatdoor", sum := "00a8fa80fe0ce95325d45a381b7087f8c7c0832d186937a3da514b32edd96d07", func := "loop.example/g00813/laws.FnExactTableScan", spec := "fnExactTableScan", inPlace := ["internal/bytealg.IndexByteString", "internal/bytealg.IndexString", "internal/reflectlite.ValueOf", "(internal/reflectlite.Value).Type", "(internal/reflectlite.Value).IsNil", "internal/reflectlite.TypeOf", "(internal/reflectlite.Value).Elem", "(internal/reflectlite.Value).Set"], unfollowed := true, recurses := true, named := ["internal/bytealg.MaxLen", "errors.errorType"], apart := false, laid := [("errors.errorType", laid_errors_errorType)], narrowed := true }
def FnExactTableScanUptoSaid : Prop := fnExactTableScanUptoRow.holds Tryz.pinned (OpenSpec.upto fnExactTableScanSpec)

end Rows
end Go.Proofs.YtkomnnijnggbpaaGreatDoor
