/-
  No cell of these rows narrows 'for every input' (looked for: loops, veiled, ifaces, maps, wideKeys, modest, calm, conditions, laid).
  DERIVED. THE GIVEN ROWS OF THIS SEAT. 13 by the template 'for every input the law returns true; each argument reads behind the call as it read before'; 0 by the template 'total and deterministic' (their statements: YtjcgbpjgoacdjaaTotals.lean).
  GIVEN WITH THE SEED: the statements are not yours to turn. If you find one false, say at which input.
  Laid BY PROGRAM, IN A SANDBOX (cutbox-rows.mjs): the forced cells as the released guide's own fill.sh prints them over the translation b99a0195b0b3b063… (all of the seat's roots in one cut). By AI agents, Wed Nov 11 2026. No macro, syntax, notation, axiom, sorry.
-/
import Derived.Test.YtjcgbpjgoacdjaaChecked
import GoSem.Claim
import GoSem.ClaimJoined
import GoSem.ClaimMapViews
import Derived.JoinedTies
import Derived.KernelRfl
namespace Go.Proofs.Ytjcgbpjgoacdjaa
/- THE CELL 'sum', in the pinned program and in every row, IS THE sha256 OF THE DUMP (.gsa) THAT YtjcgbpjgoacdjaaProg.lean LOADS. Nothing in Lean hashes anything: it is a label: what it is worth is what the hold of that sum in a sandbox is worth. -/
noncomputable def Try.pinned : Pinned := { name := "ytjcgbpjgoacdjaa", sum := "b99a0195b0b3b063228062dd588b636cfede27a6c5bd880f85deef948b4c6bc6", checked := Try.checked }
namespace Rows
def none {H : Type} : Left H := { results := [], args := [] }

/-- 'laws.FnLog': WHATEVER THE INPUT: true; the input reads as it did. -/
def fnLogSpec : ChangeSpec := { name := "fnLog", fn := fun _ => fun
  | [d] => { results := [.lit (.bool true)], args := [d] }
  | _ => none }
def fnLogRow : OpenClaim := { program := "ytjcgbpjgoacdjaa", sum := "b99a0195b0b3b063228062dd588b636cfede27a6c5bd880f85deef948b4c6bc6", func := "loop.example/g00813/laws.FnLog", spec := "fnLog", inPlace := ["internal/abi.NoEscape", "internal/bytealg.MakeNoZero"], unfollowed := true, recurses := true, apart := false }
def FnLogSaid : Prop := fnLogRow.holds Try.pinned (OpenSpec.ofChange fnLogSpec)

/-- ITS FALSE NEIGHBOUR: 'it returns false'. Refute it at one input. -/
def fnLogWrong : ChangeSpec := { name := "fnLog", fn := fun _ => fun
  | [d] => { results := [.lit (.bool false)], args := [d] }
  | _ => none }
def FnLogWrongFalsely : Prop := fnLogRow.holds Try.pinned (OpenSpec.ofChange fnLogWrong)

/-- 'laws.FnGetLog': WHATEVER THE INPUT: true; the input reads as it did. -/
def fnGetLogSpec : ChangeSpec := { name := "fnGetLog", fn := fun _ => fun
  | [d] => { results := [.lit (.bool true)], args := [d] }
  | _ => none }
def fnGetLogRow : OpenClaim := { program := "ytjcgbpjgoacdjaa", sum := "b99a0195b0b3b063228062dd588b636cfede27a6c5bd880f85deef948b4c6bc6", func := "loop.example/g00813/laws.FnGetLog", spec := "fnGetLog", inPlace := ["internal/abi.NoEscape", "internal/bytealg.MakeNoZero"], unfollowed := true, recurses := true, apart := false }
def FnGetLogSaid : Prop := fnGetLogRow.holds Try.pinned (OpenSpec.ofChange fnGetLogSpec)

/-- ITS FALSE NEIGHBOUR: 'it returns false'. Refute it at one input. -/
def fnGetLogWrong : ChangeSpec := { name := "fnGetLog", fn := fun _ => fun
  | [d] => { results := [.lit (.bool false)], args := [d] }
  | _ => none }
def FnGetLogWrongFalsely : Prop := fnGetLogRow.holds Try.pinned (OpenSpec.ofChange fnGetLogWrong)

/-- 'laws.FnTorn': WHATEVER THE INPUT: true; the input reads as it did. -/
def fnTornSpec : ChangeSpec := { name := "fnTorn", fn := fun _ => fun
  | [d] => { results := [.lit (.bool true)], args := [d] }
  | _ => none }
def fnTornRow : OpenClaim := { program := "ytjcgbpjgoacdjaa", sum := "b99a0195b0b3b063228062dd588b636cfede27a6c5bd880f85deef948b4c6bc6", func := "loop.example/g00813/laws.FnTorn", spec := "fnTorn", inPlace := ["internal/abi.NoEscape", "internal/bytealg.MakeNoZero"], unfollowed := true, recurses := true, apart := false }
def FnTornSaid : Prop := fnTornRow.holds Try.pinned (OpenSpec.ofChange fnTornSpec)

/-- ITS FALSE NEIGHBOUR: 'it returns false'. Refute it at one input. -/
def fnTornWrong : ChangeSpec := { name := "fnTorn", fn := fun _ => fun
  | [d] => { results := [.lit (.bool false)], args := [d] }
  | _ => none }
def FnTornWrongFalsely : Prop := fnTornRow.holds Try.pinned (OpenSpec.ofChange fnTornWrong)

/-- 'laws.FnBroken': WHATEVER THE INPUT: true; the input reads as it did. -/
def fnBrokenSpec : ChangeSpec := { name := "fnBroken", fn := fun _ => fun
  | [d] => { results := [.lit (.bool true)], args := [d] }
  | _ => none }
def fnBrokenRow : OpenClaim := { program := "ytjcgbpjgoacdjaa", sum := "b99a0195b0b3b063228062dd588b636cfede27a6c5bd880f85deef948b4c6bc6", func := "loop.example/g00813/laws.FnBroken", spec := "fnBroken", inPlace := ["internal/abi.NoEscape", "internal/bytealg.MakeNoZero"], unfollowed := true, recurses := true, apart := false }
def FnBrokenSaid : Prop := fnBrokenRow.holds Try.pinned (OpenSpec.ofChange fnBrokenSpec)

/-- ITS FALSE NEIGHBOUR: 'it returns false'. Refute it at one input. -/
def fnBrokenWrong : ChangeSpec := { name := "fnBroken", fn := fun _ => fun
  | [d] => { results := [.lit (.bool false)], args := [d] }
  | _ => none }
def FnBrokenWrongFalsely : Prop := fnBrokenRow.holds Try.pinned (OpenSpec.ofChange fnBrokenWrong)

/-- 'laws.FnTwist': WHATEVER THE INPUT: true; the input reads as it did. -/
def fnTwistSpec : ChangeSpec := { name := "fnTwist", fn := fun _ => fun
  | [d] => { results := [.lit (.bool true)], args := [d] }
  | _ => none }
def fnTwistRow : OpenClaim := { program := "ytjcgbpjgoacdjaa", sum := "b99a0195b0b3b063228062dd588b636cfede27a6c5bd880f85deef948b4c6bc6", func := "loop.example/g00813/laws.FnTwist", spec := "fnTwist", inPlace := ["internal/abi.NoEscape", "internal/bytealg.MakeNoZero"], unfollowed := true, recurses := true, apart := false }
def FnTwistSaid : Prop := fnTwistRow.holds Try.pinned (OpenSpec.ofChange fnTwistSpec)

/-- ITS FALSE NEIGHBOUR: 'it returns false'. Refute it at one input. -/
def fnTwistWrong : ChangeSpec := { name := "fnTwist", fn := fun _ => fun
  | [d] => { results := [.lit (.bool false)], args := [d] }
  | _ => none }
def FnTwistWrongFalsely : Prop := fnTwistRow.holds Try.pinned (OpenSpec.ofChange fnTwistWrong)

/-- 'laws.FnFragment': WHATEVER THE INPUT: true; the input reads as it did. -/
def fnFragmentSpec : ChangeSpec := { name := "fnFragment", fn := fun _ => fun
  | [d] => { results := [.lit (.bool true)], args := [d] }
  | _ => none }
def fnFragmentRow : OpenClaim := { program := "ytjcgbpjgoacdjaa", sum := "b99a0195b0b3b063228062dd588b636cfede27a6c5bd880f85deef948b4c6bc6", func := "loop.example/g00813/laws.FnFragment", spec := "fnFragment", inPlace := ["internal/abi.NoEscape", "internal/bytealg.MakeNoZero"], unfollowed := true, recurses := true, apart := false }
def FnFragmentSaid : Prop := fnFragmentRow.holds Try.pinned (OpenSpec.ofChange fnFragmentSpec)

/-- ITS FALSE NEIGHBOUR: 'it returns false'. Refute it at one input. -/
def fnFragmentWrong : ChangeSpec := { name := "fnFragment", fn := fun _ => fun
  | [d] => { results := [.lit (.bool false)], args := [d] }
  | _ => none }
def FnFragmentWrongFalsely : Prop := fnFragmentRow.holds Try.pinned (OpenSpec.ofChange fnFragmentWrong)

/-- 'laws.FnPieces': WHATEVER THE INPUT: true; the input reads as it did. -/
def fnPiecesSpec : ChangeSpec := { name := "fnPieces", fn := fun _ => fun
  | [d] => { results := [.lit (.bool true)], args := [d] }
  | _ => none }
def fnPiecesRow : OpenClaim := { program := "ytjcgbpjgoacdjaa", sum := "b99a0195b0b3b063228062dd588b636cfede27a6c5bd880f85deef948b4c6bc6", func := "loop.example/g00813/laws.FnPieces", spec := "fnPieces", inPlace := ["internal/abi.NoEscape", "internal/bytealg.MakeNoZero"], unfollowed := true, recurses := true, apart := false }
def FnPiecesSaid : Prop := fnPiecesRow.holds Try.pinned (OpenSpec.ofChange fnPiecesSpec)

/-- ITS FALSE NEIGHBOUR: 'it returns false'. Refute it at one input. -/
def fnPiecesWrong : ChangeSpec := { name := "fnPieces", fn := fun _ => fun
  | [d] => { results := [.lit (.bool false)], args := [d] }
  | _ => none }
def FnPiecesWrongFalsely : Prop := fnPiecesRow.holds Try.pinned (OpenSpec.ofChange fnPiecesWrong)

/-- 'laws.FnEmpties': WHATEVER THE INPUT: true; the input reads as it did. -/
def fnEmptiesSpec : ChangeSpec := { name := "fnEmpties", fn := fun _ => fun
  | [d] => { results := [.lit (.bool true)], args := [d] }
  | _ => none }
def fnEmptiesRow : OpenClaim := { program := "ytjcgbpjgoacdjaa", sum := "b99a0195b0b3b063228062dd588b636cfede27a6c5bd880f85deef948b4c6bc6", func := "loop.example/g00813/laws.FnEmpties", spec := "fnEmpties", inPlace := ["internal/abi.NoEscape", "internal/bytealg.MakeNoZero"], unfollowed := true, recurses := true, apart := false }
def FnEmptiesSaid : Prop := fnEmptiesRow.holds Try.pinned (OpenSpec.ofChange fnEmptiesSpec)

/-- ITS FALSE NEIGHBOUR: 'it returns false'. Refute it at one input. -/
def fnEmptiesWrong : ChangeSpec := { name := "fnEmpties", fn := fun _ => fun
  | [d] => { results := [.lit (.bool false)], args := [d] }
  | _ => none }
def FnEmptiesWrongFalsely : Prop := fnEmptiesRow.holds Try.pinned (OpenSpec.ofChange fnEmptiesWrong)

/-- 'laws.FnExactFragment': WHATEVER THE INPUT: true; the input reads as it did. -/
def fnExactFragmentSpec : ChangeSpec := { name := "fnExactFragment", fn := fun _ => fun
  | [d1, d2] => { results := [.lit (.bool true)], args := [d1, d2] }
  | _ => none }
def fnExactFragmentRow : OpenClaim := { program := "ytjcgbpjgoacdjaa", sum := "b99a0195b0b3b063228062dd588b636cfede27a6c5bd880f85deef948b4c6bc6", func := "loop.example/g00813/laws.FnExactFragment", spec := "fnExactFragment", apart := false }
def FnExactFragmentSaid : Prop := fnExactFragmentRow.holds Try.pinned (OpenSpec.ofChange fnExactFragmentSpec)

/-- ITS FALSE NEIGHBOUR: 'it returns false'. Refute it at one input. -/
def fnExactFragmentWrong : ChangeSpec := { name := "fnExactFragment", fn := fun _ => fun
  | [d1, d2] => { results := [.lit (.bool false)], args := [d1, d2] }
  | _ => none }
def FnExactFragmentWrongFalsely : Prop := fnExactFragmentRow.holds Try.pinned (OpenSpec.ofChange fnExactFragmentWrong)

/-- 'laws.FnExactAppend': WHATEVER THE INPUT: true; the input reads as it did. -/
def fnExactAppendSpec : ChangeSpec := { name := "fnExactAppend", fn := fun _ => fun
  | [d1, d2] => { results := [.lit (.bool true)], args := [d1, d2] }
  | _ => none }
def fnExactAppendRow : OpenClaim := { program := "ytjcgbpjgoacdjaa", sum := "b99a0195b0b3b063228062dd588b636cfede27a6c5bd880f85deef948b4c6bc6", func := "loop.example/g00813/laws.FnExactAppend", spec := "fnExactAppend", inPlace := ["internal/abi.NoEscape", "internal/bytealg.MakeNoZero"], unfollowed := true, recurses := true, apart := false }
def FnExactAppendSaid : Prop := fnExactAppendRow.holds Try.pinned (OpenSpec.ofChange fnExactAppendSpec)

/-- ITS FALSE NEIGHBOUR: 'it returns false'. Refute it at one input. -/
def fnExactAppendWrong : ChangeSpec := { name := "fnExactAppend", fn := fun _ => fun
  | [d1, d2] => { results := [.lit (.bool false)], args := [d1, d2] }
  | _ => none }
def FnExactAppendWrongFalsely : Prop := fnExactAppendRow.holds Try.pinned (OpenSpec.ofChange fnExactAppendWrong)

/-- 'laws.FnExactPutLog': WHATEVER THE INPUT: true; the input reads as it did. -/
def fnExactPutLogSpec : ChangeSpec := { name := "fnExactPutLog", fn := fun _ => fun
  | [d] => { results := [.lit (.bool true)], args := [d] }
  | _ => none }
def fnExactPutLogRow : OpenClaim := { program := "ytjcgbpjgoacdjaa", sum := "b99a0195b0b3b063228062dd588b636cfede27a6c5bd880f85deef948b4c6bc6", func := "loop.example/g00813/laws.FnExactPutLog", spec := "fnExactPutLog", inPlace := ["internal/abi.NoEscape", "internal/bytealg.MakeNoZero"], unfollowed := true, recurses := true, apart := false }
def FnExactPutLogSaid : Prop := fnExactPutLogRow.holds Try.pinned (OpenSpec.ofChange fnExactPutLogSpec)

/-- ITS FALSE NEIGHBOUR: 'it returns false'. Refute it at one input. -/
def fnExactPutLogWrong : ChangeSpec := { name := "fnExactPutLog", fn := fun _ => fun
  | [d] => { results := [.lit (.bool false)], args := [d] }
  | _ => none }
def FnExactPutLogWrongFalsely : Prop := fnExactPutLogRow.holds Try.pinned (OpenSpec.ofChange fnExactPutLogWrong)

/-- 'laws.FnExactGetLog': WHATEVER THE INPUT: true; the input reads as it did. -/
def fnExactGetLogSpec : ChangeSpec := { name := "fnExactGetLog", fn := fun _ => fun
  | [d] => { results := [.lit (.bool true)], args := [d] }
  | _ => none }
def fnExactGetLogRow : OpenClaim := { program := "ytjcgbpjgoacdjaa", sum := "b99a0195b0b3b063228062dd588b636cfede27a6c5bd880f85deef948b4c6bc6", func := "loop.example/g00813/laws.FnExactGetLog", spec := "fnExactGetLog", inPlace := ["internal/abi.NoEscape", "internal/bytealg.MakeNoZero"], unfollowed := true, recurses := true, apart := false }
def FnExactGetLogSaid : Prop := fnExactGetLogRow.holds Try.pinned (OpenSpec.ofChange fnExactGetLogSpec)

/-- ITS FALSE NEIGHBOUR: 'it returns false'. Refute it at one input. -/
def fnExactGetLogWrong : ChangeSpec := { name := "fnExactGetLog", fn := fun _ => fun
  | [d] => { results := [.lit (.bool false)], args := [d] }
  | _ => none }
def FnExactGetLogWrongFalsely : Prop := fnExactGetLogRow.holds Try.pinned (OpenSpec.ofChange fnExactGetLogWrong)

/-- 'laws.FnExactRecover': WHATEVER THE INPUT: true; the input reads as it did. -/
def fnExactRecoverSpec : ChangeSpec := { name := "fnExactRecover", fn := fun _ => fun
  | [d] => { results := [.lit (.bool true)], args := [d] }
  | _ => none }
def fnExactRecoverRow : OpenClaim := { program := "ytjcgbpjgoacdjaa", sum := "b99a0195b0b3b063228062dd588b636cfede27a6c5bd880f85deef948b4c6bc6", func := "loop.example/g00813/laws.FnExactRecover", spec := "fnExactRecover", inPlace := ["internal/abi.NoEscape", "internal/bytealg.MakeNoZero"], unfollowed := true, recurses := true, apart := false }
def FnExactRecoverSaid : Prop := fnExactRecoverRow.holds Try.pinned (OpenSpec.ofChange fnExactRecoverSpec)

/-- ITS FALSE NEIGHBOUR: 'it returns false'. Refute it at one input. -/
def fnExactRecoverWrong : ChangeSpec := { name := "fnExactRecover", fn := fun _ => fun
  | [d] => { results := [.lit (.bool false)], args := [d] }
  | _ => none }
def FnExactRecoverWrongFalsely : Prop := fnExactRecoverRow.holds Try.pinned (OpenSpec.ofChange fnExactRecoverWrong)

/- THE SECOND FORM. 'bulk': how many values and letters a reading holds, each counted each time it is reached (what is shared counts as often as it is met; a slice's spare places count too). A statement '..UptoSaid' is the law's where the arguments, and the package variables that the reading takes, are together of bulk at most 1048576: NARROWER than '..Said'. Prove '..Said' where nothing that the law and all that it calls make is longer than what came in: it says more and counts as full. Else prove '..UptoSaid'. A law counts once. -/
mutual
def uptoBulk {H : Type} : DataW H → Nat
  | .lit (.string bytes) => bytes.length + 1
  | .lit _ => 1
  | .nil => 1
  | .ptr d => uptoBulk d + 1
  | .slice elems spare => uptoBulkAll elems + uptoBulkAll spare + 1
  | .agg parts => uptoBulkAll parts + 1
  | .iface _ d => uptoBulk d + 1
  | .map entries => uptoBulkEntries entries + 1
  | .held _ => 1
def uptoBulkAll {H : Type} : List (DataW H) → Nat
  | [] => 0
  | d :: r => uptoBulk d + uptoBulkAll r
def uptoBulkEntries {H : Type} : List (Lit × DataW H) → Nat
  | [] => 0
  | x :: r => uptoBulkEntry x + uptoBulkEntries r
def uptoBulkEntry {H : Type} : Lit × DataW H → Nat
  | (.string bytes, d) => bytes.length + uptoBulk d + 1
  | (_, d) => uptoBulk d + 1
 end
def uptoSmall : (H : Type) → List (DataW H) → Bool := fun _ ds => decide (uptoBulkAll ds ≤ 1048576)
def OpenSpec.upto (s : _root_.Go.ChangeSpec) : _root_.Go.OpenSpec := { _root_.Go.OpenSpec.ofChange s with cond := some uptoSmall }

/-- 'laws.FnLog', WHERE WHAT IT READS IS OF BULK AT MOST 1048576: true; the input reads as it did. -/
def fnLogUptoRow : OpenClaim := { program := "ytjcgbpjgoacdjaa", sum := "b99a0195b0b3b063228062dd588b636cfede27a6c5bd880f85deef948b4c6bc6", func := "loop.example/g00813/laws.FnLog", spec := "fnLog", inPlace := ["internal/abi.NoEscape", "internal/bytealg.MakeNoZero"], unfollowed := true, recurses := true, apart := false, narrowed := true }
def FnLogUptoSaid : Prop := fnLogUptoRow.holds Try.pinned (OpenSpec.upto fnLogSpec)

/-- 'laws.FnGetLog', WHERE WHAT IT READS IS OF BULK AT MOST 1048576: true; the input reads as it did. -/
def fnGetLogUptoRow : OpenClaim := { program := "ytjcgbpjgoacdjaa", sum := "b99a0195b0b3b063228062dd588b636cfede27a6c5bd880f85deef948b4c6bc6", func := "loop.example/g00813/laws.FnGetLog", spec := "fnGetLog", inPlace := ["internal/abi.NoEscape", "internal/bytealg.MakeNoZero"], unfollowed := true, recurses := true, apart := false, narrowed := true }
def FnGetLogUptoSaid : Prop := fnGetLogUptoRow.holds Try.pinned (OpenSpec.upto fnGetLogSpec)

/-- 'laws.FnTorn', WHERE WHAT IT READS IS OF BULK AT MOST 1048576: true; the input reads as it did. -/
def fnTornUptoRow : OpenClaim := { program := "ytjcgbpjgoacdjaa", sum := "b99a0195b0b3b063228062dd588b636cfede27a6c5bd880f85deef948b4c6bc6", func := "loop.example/g00813/laws.FnTorn", spec := "fnTorn", inPlace := ["internal/abi.NoEscape", "internal/bytealg.MakeNoZero"], unfollowed := true, recurses := true, apart := false, narrowed := true }
def FnTornUptoSaid : Prop := fnTornUptoRow.holds Try.pinned (OpenSpec.upto fnTornSpec)

/-- 'laws.FnBroken', WHERE WHAT IT READS IS OF BULK AT MOST 1048576: true; the input reads as it did. -/
def fnBrokenUptoRow : OpenClaim := { program := "ytjcgbpjgoacdjaa", sum := "b99a0195b0b3b063228062dd588b636cfede27a6c5bd880f85deef948b4c6bc6", func := "loop.example/g00813/laws.FnBroken", spec := "fnBroken", inPlace := ["internal/abi.NoEscape", "internal/bytealg.MakeNoZero"], unfollowed := true, recurses := true, apart := false, narrowed := true }
def FnBrokenUptoSaid : Prop := fnBrokenUptoRow.holds Try.pinned (OpenSpec.upto fnBrokenSpec)

/-- 'laws.FnTwist', WHERE WHAT IT READS IS OF BULK AT MOST 1048576: true; the input reads as it did. -/
def fnTwistUptoRow : OpenClaim := { program := "ytjcgbpjgoacdjaa", sum := "b99a0195b0b3b063228062dd588b636cfede27a6c5bd880f85deef948b4c6bc6", func := "loop.example/g00813/laws.FnTwist", spec := "fnTwist", inPlace := ["internal/abi.NoEscape", "internal/bytealg.MakeNoZero"], unfollowed := true, recurses := true, apart := false, narrowed := true }
def FnTwistUptoSaid : Prop := fnTwistUptoRow.holds Try.pinned (OpenSpec.upto fnTwistSpec)

/-- 'laws.FnFragment', WHERE WHAT IT READS IS OF BULK AT MOST 1048576: true; the input reads as it did. -/
def fnFragmentUptoRow : OpenClaim := { program := "ytjcgbpjgoacdjaa", sum := "b99a0195b0b3b063228062dd588b636cfede27a6c5bd880f85deef948b4c6bc6", func := "loop.example/g00813/laws.FnFragment", spec := "fnFragment", inPlace := ["internal/abi.NoEscape", "internal/bytealg.MakeNoZero"], unfollowed := true, recurses := true, apart := false, narrowed := true }
def FnFragmentUptoSaid : Prop := fnFragmentUptoRow.holds Try.pinned (OpenSpec.upto fnFragmentSpec)

/-- 'laws.FnPieces', WHERE WHAT IT READS IS OF BULK AT MOST 1048576: true; the input reads as it did. -/
def fnPiecesUptoRow : OpenClaim := { program := "ytjcgbpjgoacdjaa", sum := "b99a0195b0b3b063228062dd588b636cfede27a6c5bd880f85deef948b4c6bc6", func := "loop.example/g00813/laws.FnPieces", spec := "fnPieces", inPlace := ["internal/abi.NoEscape", "internal/bytealg.MakeNoZero"], unfollowed := true, recurses := true, apart := false, narrowed := true }
def FnPiecesUptoSaid : Prop := fnPiecesUptoRow.holds Try.pinned (OpenSpec.upto fnPiecesSpec)

/-- 'laws.FnEmpties', WHERE WHAT IT READS IS OF BULK AT MOST 1048576: true; the input reads as it did. -/
def fnEmptiesUptoRow : OpenClaim := { program := "ytjcgbpjgoacdjaa", sum := "b99a0195b0b3b063228062dd588b636cfede27a6c5bd880f85deef948b4c6bc6", func := "loop.example/g00813/laws.FnEmpties", spec := "fnEmpties", inPlace := ["internal/abi.NoEscape", "internal/bytealg.MakeNoZero"], unfollowed := true, recurses := true, apart := false, narrowed := true }
def FnEmptiesUptoSaid : Prop := fnEmptiesUptoRow.holds Try.pinned (OpenSpec.upto fnEmptiesSpec)

/-- 'laws.FnExactFragment', WHERE WHAT IT READS IS OF BULK AT MOST 1048576: true; the input reads as it did. -/
def fnExactFragmentUptoRow : OpenClaim := { program := "ytjcgbpjgoacdjaa", sum := "b99a0195b0b3b063228062dd588b636cfede27a6c5bd880f85deef948b4c6bc6", func := "loop.example/g00813/laws.FnExactFragment", spec := "fnExactFragment", apart := false, narrowed := true }
def FnExactFragmentUptoSaid : Prop := fnExactFragmentUptoRow.holds Try.pinned (OpenSpec.upto fnExactFragmentSpec)

/-- 'laws.FnExactAppend', WHERE WHAT IT READS IS OF BULK AT MOST 1048576: true; the input reads as it did. -/
def fnExactAppendUptoRow : OpenClaim := { program := "ytjcgbpjgoacdjaa", sum := "b99a0195b0b3b063228062dd588b636cfede27a6c5bd880f85deef948b4c6bc6", func := "loop.example/g00813/laws.FnExactAppend", spec := "fnExactAppend", inPlace := ["internal/abi.NoEscape", "internal/bytealg.MakeNoZero"], unfollowed := true, recurses := true, apart := false, narrowed := true }
def FnExactAppendUptoSaid : Prop := fnExactAppendUptoRow.holds Try.pinned (OpenSpec.upto fnExactAppendSpec)

/-- 'laws.FnExactPutLog', WHERE WHAT IT READS IS OF BULK AT MOST 1048576: true; the input reads as it did. -/
def fnExactPutLogUptoRow : OpenClaim := { program := "ytjcgbpjgoacdjaa", sum := "b99a0195b0b3b063228062dd588b636cfede27a6c5bd880f85deef948b4c6bc6", func := "loop.example/g00813/laws.FnExactPutLog", spec := "fnExactPutLog", inPlace := ["internal/abi.NoEscape", "internal/bytealg.MakeNoZero"], unfollowed := true, recurses := true, apart := false, narrowed := true }
def FnExactPutLogUptoSaid : Prop := fnExactPutLogUptoRow.holds Try.pinned (OpenSpec.upto fnExactPutLogSpec)

/-- 'laws.FnExactGetLog', WHERE WHAT IT READS IS OF BULK AT MOST 1048576: true; the input reads as it did. -/
def fnExactGetLogUptoRow : OpenClaim := { program := "ytjcgbpjgoacdjaa", sum := "b99a0195b0b3b063228062dd588b636cfede27a6c5bd880f85deef948b4c6bc6", func := "loop.example/g00813/laws.FnExactGetLog", spec := "fnExactGetLog", inPlace := ["internal/abi.NoEscape", "internal/bytealg.MakeNoZero"], unfollowed := true, recurses := true, apart := false, narrowed := true }
def FnExactGetLogUptoSaid : Prop := fnExactGetLogUptoRow.holds Try.pinned (OpenSpec.upto fnExactGetLogSpec)

/-- 'laws.FnExactRecover', WHERE WHAT IT READS IS OF BULK AT MOST 1048576: true; the input reads as it did. -/
def fnExactRecoverUptoRow : OpenClaim := { program := "ytjcgbpjgoacdjaa", sum := "b99a0195b0b3b063228062dd588b636cfede27a6c5bd880f85deef948b4c6bc6", func := "loop.example/g00813/laws.FnExactRecover", spec := "fnExactRecover", inPlace := ["internal/abi.NoEscape", "internal/bytealg.MakeNoZero"], unfollowed := true, recurses := true, apart := false, narrowed := true }
def FnExactRecoverUptoSaid : Prop := fnExactRecoverUptoRow.holds Try.pinned (OpenSpec.upto fnExactRecoverSpec)

end Rows
end Go.Proofs.Ytjcgbpjgoacdjaa
