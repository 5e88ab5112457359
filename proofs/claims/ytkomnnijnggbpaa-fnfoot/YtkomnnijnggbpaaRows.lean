/-
  No cell of these rows narrows 'for every input' (looked for: loops, veiled, ifaces, maps, wideKeys, modest, calm, conditions, laid).
  DERIVED. THE GIVEN ROWS OF THIS SEAT. 3 by the template 'for every input the law returns true; each argument reads behind the call as it read before'; 0 by the template 'total and deterministic' (their statements: YtkomnnijnggbpaaTotals.lean).
  GIVEN WITH THE SEED: the statements are not yours to turn. If you find one false, say at which input.
  Laid BY PROGRAM, IN A SANDBOX (cutbox-rows.mjs): the forced cells as the released guide's own fill.sh prints them over the translation 46c390755a6d0c86… (all of the seat's roots in one cut). By AI agents, Wed Nov 11 2026. No macro, syntax, notation, axiom, sorry.
-/
import Derived.Test.YtkomnnijnggbpaaChecked
import GoSem.Claim
import GoSem.ClaimJoined
import GoSem.ClaimMapViews
import Derived.JoinedTies
import Derived.KernelRfl
namespace Go.Proofs.Ytkomnnijnggbpaa
/- THE CELL 'sum', in the pinned program and in every row, IS THE sha256 OF THE DUMP (.gsa) THAT YtkomnnijnggbpaaProg.lean LOADS. Nothing in Lean hashes anything: it is a label: what it is worth is what the hold of that sum in a sandbox is worth. -/
noncomputable def Try.pinned : Pinned := { name := "ytkomnnijnggbpaa", sum := "46c390755a6d0c86692dd177527b5eb6ac46d96c3c4f3feb3c6ad13ebf3106d6", checked := Try.checked }
namespace Rows
def none {H : Type} : Left H := { results := [], args := [] }

/-- 'laws.FnFoot': WHATEVER THE INPUT: true; the input reads as it did. -/
def fnFootSpec : ChangeSpec := { name := "fnFoot", fn := fun _ => fun
  | [d] => { results := [.lit (.bool true)], args := [d] }
  | _ => none }
def fnFootRow : OpenClaim := { program := "ytkomnnijnggbpaa", sum := "46c390755a6d0c86692dd177527b5eb6ac46d96c3c4f3feb3c6ad13ebf3106d6", func := "loop.example/g00813/laws.FnFoot", spec := "fnFoot", unfollowed := true, recurses := true, apart := false }
def FnFootSaid : Prop := fnFootRow.holds Try.pinned (OpenSpec.ofChange fnFootSpec)

/-- ITS FALSE NEIGHBOUR: 'it returns false'. Refute it at one input. -/
def fnFootWrong : ChangeSpec := { name := "fnFoot", fn := fun _ => fun
  | [d] => { results := [.lit (.bool false)], args := [d] }
  | _ => none }
def FnFootWrongFalsely : Prop := fnFootRow.holds Try.pinned (OpenSpec.ofChange fnFootWrong)

/-- 'laws.FnExactConfigOk': WHATEVER THE INPUT: true; the input reads as it did. -/
def fnExactConfigOkSpec : ChangeSpec := { name := "fnExactConfigOk", fn := fun _ => fun
  | [d] => { results := [.lit (.bool true)], args := [d] }
  | _ => none }
def fnExactConfigOkRow : OpenClaim := { program := "ytkomnnijnggbpaa", sum := "46c390755a6d0c86692dd177527b5eb6ac46d96c3c4f3feb3c6ad13ebf3106d6", func := "loop.example/g00813/laws.FnExactConfigOk", spec := "fnExactConfigOk", apart := false }
def FnExactConfigOkSaid : Prop := fnExactConfigOkRow.holds Try.pinned (OpenSpec.ofChange fnExactConfigOkSpec)

/-- ITS FALSE NEIGHBOUR: 'it returns false'. Refute it at one input. -/
def fnExactConfigOkWrong : ChangeSpec := { name := "fnExactConfigOk", fn := fun _ => fun
  | [d] => { results := [.lit (.bool false)], args := [d] }
  | _ => none }
def FnExactConfigOkWrongFalsely : Prop := fnExactConfigOkRow.holds Try.pinned (OpenSpec.ofChange fnExactConfigOkWrong)

/-- 'laws.FnExactPutTable': WHATEVER THE INPUT: true; the input reads as it did. -/
def fnExactPutTableSpec : ChangeSpec := { name := "fnExactPutTable", fn := fun _ => fun
  | [d1, d2] => { results := [.lit (.bool true)], args := [d1, d2] }
  | _ => none }
def fnExactPutTableRow : OpenClaim := { program := "ytkomnnijnggbpaa", sum := "46c390755a6d0c86692dd177527b5eb6ac46d96c3c4f3feb3c6ad13ebf3106d6", func := "loop.example/g00813/laws.FnExactPutTable", spec := "fnExactPutTable", unfollowed := true, recurses := true, apart := false }
def FnExactPutTableSaid : Prop := fnExactPutTableRow.holds Try.pinned (OpenSpec.ofChange fnExactPutTableSpec)

/-- ITS FALSE NEIGHBOUR: 'it returns false'. Refute it at one input. -/
def fnExactPutTableWrong : ChangeSpec := { name := "fnExactPutTable", fn := fun _ => fun
  | [d1, d2] => { results := [.lit (.bool false)], args := [d1, d2] }
  | _ => none }
def FnExactPutTableWrongFalsely : Prop := fnExactPutTableRow.holds Try.pinned (OpenSpec.ofChange fnExactPutTableWrong)

/- THE SECOND FORM. 'bulk': how many values and letters a reading holds, each counted each time it is reached (what is shared counts as often as it is met; a slice's spare places count too). A statement '..UptoSaid' is the law's where the arguments, and the package variables that the reading takes, are together of bulk at most 1048576: NARROWER than '..Said'. Prove '..Said' where nothing that the law and all that it calls make is longer than what came in: it says more and counts as full. Else prove '..UptoSaid'. A law counts once. -/
mutual
def uptoBulk {H : Type} : DataW H → Nat
  | .lit (.string bytes) => bytes.length + 1
  | .lit _ => 1
  | .nil => 1
  | .ptr d => uptoBulk d + 1
  | .slice elems spare => uptoBulkAll elems + uptoBulkAll spare + 1
  | .agg parts => uptoBulkAll parts + 1
  | .iface _ d => uptoBulk d + 1
  | .map entries => uptoBulkEntries entries + 1
  | .held _ => 1
def uptoBulkAll {H : Type} : List (DataW H) → Nat
  | [] => 0
  | d :: r => uptoBulk d + uptoBulkAll r
def uptoBulkEntries {H : Type} : List (Lit × DataW H) → Nat
  | [] => 0
  | x :: r => uptoBulkEntry x + uptoBulkEntries r
def uptoBulkEntry {H : Type} : Lit × DataW H → Nat
  | (.string bytes, d) => bytes.length + uptoBulk d + 1
  | (_, d) => uptoBulk d + 1
 end
def uptoSmall : (H : Type) → List (DataW H) → Bool := fun _ ds => decide (uptoBulkAll ds ≤ 1048576)
def OpenSpec.upto (s : _root_.Go.ChangeSpec) : _root_.Go.OpenSpec := { _root_.Go.OpenSpec.ofChange s with cond := some uptoSmall }

/-- 'laws.FnFoot', WHERE WHAT IT READS IS OF BULK AT MOST 1048576: true; the input reads as it did. -/
def fnFootUptoRow : OpenClaim := { program := "ytkomnnijnggbpaa", sum := "46c390755a6d0c86692dd177527b5eb6ac46d96c3c4f3feb3c6ad13ebf3106d6", func := "loop.example/g00813/laws.FnFoot", spec := "fnFoot", unfollowed := true, recurses := true, apart := false, narrowed := true }
def FnFootUptoSaid : Prop := fnFootUptoRow.holds Try.pinned (OpenSpec.upto fnFootSpec)

/-- 'laws.FnExactConfigOk', WHERE WHAT IT READS IS OF BULK AT MOST 1048576: true; the input reads as it did. -/
def fnExactConfigOkUptoRow : OpenClaim := { program := "ytkomnnijnggbpaa", sum := "46c390755a6d0c86692dd177527b5eb6ac46d96c3c4f3feb3c6ad13ebf3106d6", func := "loop.example/g00813/laws.FnExactConfigOk", spec := "fnExactConfigOk", apart := false, narrowed := true }
def FnExactConfigOkUptoSaid : Prop := fnExactConfigOkUptoRow.holds Try.pinned (OpenSpec.upto fnExactConfigOkSpec)

/-- 'laws.FnExactPutTable', WHERE WHAT IT READS IS OF BULK AT MOST 1048576: true; the input reads as it did. -/
def fnExactPutTableUptoRow : OpenClaim := { program := "ytkomnnijnggbpaa", sum := "46c390755a6d0c86692dd177527b5eb6ac46d96c3c4f3feb3c6ad13ebf3106d6", func := "loop.example/g00813/laws.FnExactPutTable", spec := "fnExactPutTable", unfollowed := true, recurses := true, apart := false, narrowed := true }
def FnExactPutTableUptoSaid : Prop := fnExactPutTableUptoRow.holds Try.pinned (OpenSpec.upto fnExactPutTableSpec)

end Rows
end Go.Proofs.Ytkomnnijnggbpaa
