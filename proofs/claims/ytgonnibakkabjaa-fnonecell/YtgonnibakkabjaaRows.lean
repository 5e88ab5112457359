/-
  No cell of these rows narrows 'for every input' (looked for: loops, veiled, ifaces, maps, wideKeys, modest, calm, conditions, laid).
  DERIVED. THE GIVEN ROWS OF THIS SEAT. 9 by the template 'for every input the law returns true; each argument reads behind the call as it read before'; 0 by the template 'total and deterministic' (their statements: YtgonnibakkabjaaTotals.lean).
  GIVEN WITH THE SEED: the statements are not yours to turn. If you find one false, say at which input.
  Laid BY PROGRAM, IN A SANDBOX (cutbox-rows.mjs): the forced cells as the released guide's own fill.sh prints them over the translation c6096068c6e82945… (all of the seat's roots in one cut). By AI agents, Wed Nov 11 2026. No macro, syntax, notation, axiom, sorry.
-/
import Derived.Test.YtgonnibakkabjaaChecked
import GoSem.Claim
import GoSem.ClaimJoined
import GoSem.ClaimMapViews
import Derived.JoinedTies
import Derived.KernelRfl
namespace Go.Proofs.Ytgonnibakkabjaa
/- THE CELL 'sum', in the pinned program and in every row, IS THE sha256 OF THE DUMP (.gsa) THAT YtgonnibakkabjaaProg.lean LOADS. Nothing in Lean hashes anything: it is a label: what it is worth is what the hold of that sum in a sandbox is worth. -/
noncomputable def Try.pinned : Pinned := { name := "ytgonnibakkabjaa", sum := "c6096068c6e829450bef4dba30a1dfd7980e13295173e17a348d88d12cf79a0d", checked := Try.checked }
namespace Rows
def none {H : Type} : Left H := { results := [], args := [] }

/-- 'laws.FnBlock': WHATEVER THE INPUT: true; the input reads as it did. -/
def fnBlockSpec : ChangeSpec := { name := "fnBlock", fn := fun _ => fun
  | [d] => { results := [.lit (.bool true)], args := [d] }
  | _ => none }
def fnBlockRow : OpenClaim := { program := "ytgonnibakkabjaa", sum := "c6096068c6e829450bef4dba30a1dfd7980e13295173e17a348d88d12cf79a0d", func := "loop.example/g00813/laws.FnBlock", spec := "fnBlock", inPlace := ["internal/bytealg.IndexByteString", "internal/bytealg.IndexString"], unfollowed := true, recurses := true, named := ["internal/bytealg.MaxLen"], apart := false }
def FnBlockSaid : Prop := fnBlockRow.holds Try.pinned (OpenSpec.ofChange fnBlockSpec)

/-- ITS FALSE NEIGHBOUR: 'it returns false'. Refute it at one input. -/
def fnBlockWrong : ChangeSpec := { name := "fnBlock", fn := fun _ => fun
  | [d] => { results := [.lit (.bool false)], args := [d] }
  | _ => none }
def FnBlockWrongFalsely : Prop := fnBlockRow.holds Try.pinned (OpenSpec.ofChange fnBlockWrong)

/-- 'laws.FnGetBlock': WHATEVER THE INPUT: true; the input reads as it did. -/
def fnGetBlockSpec : ChangeSpec := { name := "fnGetBlock", fn := fun _ => fun
  | [d] => { results := [.lit (.bool true)], args := [d] }
  | _ => none }
def fnGetBlockRow : OpenClaim := { program := "ytgonnibakkabjaa", sum := "c6096068c6e829450bef4dba30a1dfd7980e13295173e17a348d88d12cf79a0d", func := "loop.example/g00813/laws.FnGetBlock", spec := "fnGetBlock", inPlace := ["internal/bytealg.IndexByteString", "internal/bytealg.IndexString"], unfollowed := true, recurses := true, named := ["internal/bytealg.MaxLen"], apart := false }
def FnGetBlockSaid : Prop := fnGetBlockRow.holds Try.pinned (OpenSpec.ofChange fnGetBlockSpec)

/-- ITS FALSE NEIGHBOUR: 'it returns false'. Refute it at one input. -/
def fnGetBlockWrong : ChangeSpec := { name := "fnGetBlock", fn := fun _ => fun
  | [d] => { results := [.lit (.bool false)], args := [d] }
  | _ => none }
def FnGetBlockWrongFalsely : Prop := fnGetBlockRow.holds Try.pinned (OpenSpec.ofChange fnGetBlockWrong)

/-- 'laws.FnSeek': WHATEVER THE INPUT: true; the input reads as it did. -/
def fnSeekSpec : ChangeSpec := { name := "fnSeek", fn := fun _ => fun
  | [d] => { results := [.lit (.bool true)], args := [d] }
  | _ => none }
def fnSeekRow : OpenClaim := { program := "ytgonnibakkabjaa", sum := "c6096068c6e829450bef4dba30a1dfd7980e13295173e17a348d88d12cf79a0d", func := "loop.example/g00813/laws.FnSeek", spec := "fnSeek", inPlace := ["internal/bytealg.IndexByteString", "internal/bytealg.IndexString"], unfollowed := true, recurses := true, named := ["internal/bytealg.MaxLen"], apart := false }
def FnSeekSaid : Prop := fnSeekRow.holds Try.pinned (OpenSpec.ofChange fnSeekSpec)

/-- ITS FALSE NEIGHBOUR: 'it returns false'. Refute it at one input. -/
def fnSeekWrong : ChangeSpec := { name := "fnSeek", fn := fun _ => fun
  | [d] => { results := [.lit (.bool false)], args := [d] }
  | _ => none }
def FnSeekWrongFalsely : Prop := fnSeekRow.holds Try.pinned (OpenSpec.ofChange fnSeekWrong)

/-- 'laws.FnEvery': WHATEVER THE INPUT: true; the input reads as it did. -/
def fnEverySpec : ChangeSpec := { name := "fnEvery", fn := fun _ => fun
  | [d] => { results := [.lit (.bool true)], args := [d] }
  | _ => none }
def fnEveryRow : OpenClaim := { program := "ytgonnibakkabjaa", sum := "c6096068c6e829450bef4dba30a1dfd7980e13295173e17a348d88d12cf79a0d", func := "loop.example/g00813/laws.FnEvery", spec := "fnEvery", inPlace := ["internal/bytealg.IndexByteString", "internal/bytealg.IndexString"], unfollowed := true, recurses := true, named := ["internal/bytealg.MaxLen"], apart := false }
def FnEverySaid : Prop := fnEveryRow.holds Try.pinned (OpenSpec.ofChange fnEverySpec)

/-- ITS FALSE NEIGHBOUR: 'it returns false'. Refute it at one input. -/
def fnEveryWrong : ChangeSpec := { name := "fnEvery", fn := fun _ => fun
  | [d] => { results := [.lit (.bool false)], args := [d] }
  | _ => none }
def FnEveryWrongFalsely : Prop := fnEveryRow.holds Try.pinned (OpenSpec.ofChange fnEveryWrong)

/-- 'laws.FnOneCell': WHATEVER THE INPUT: true; the input reads as it did. -/
def fnOneCellSpec : ChangeSpec := { name := "fnOneCell", fn := fun _ => fun
  | [d] => { results := [.lit (.bool true)], args := [d] }
  | _ => none }
def fnOneCellRow : OpenClaim := { program := "ytgonnibakkabjaa", sum := "c6096068c6e829450bef4dba30a1dfd7980e13295173e17a348d88d12cf79a0d", func := "loop.example/g00813/laws.FnOneCell", spec := "fnOneCell", inPlace := ["internal/bytealg.IndexByteString", "internal/bytealg.IndexString"], unfollowed := true, recurses := true, named := ["internal/bytealg.MaxLen"], apart := false }
def FnOneCellSaid : Prop := fnOneCellRow.holds Try.pinned (OpenSpec.ofChange fnOneCellSpec)

/-- ITS FALSE NEIGHBOUR: 'it returns false'. Refute it at one input. -/
def fnOneCellWrong : ChangeSpec := { name := "fnOneCell", fn := fun _ => fun
  | [d] => { results := [.lit (.bool false)], args := [d] }
  | _ => none }
def FnOneCellWrongFalsely : Prop := fnOneCellRow.holds Try.pinned (OpenSpec.ofChange fnOneCellWrong)

/-- 'laws.FnFifty': WHATEVER THE INPUT: true; the input reads as it did. -/
def fnFiftySpec : ChangeSpec := { name := "fnFifty", fn := fun _ => fun
  | [d] => { results := [.lit (.bool true)], args := [d] }
  | _ => none }
def fnFiftyRow : OpenClaim := { program := "ytgonnibakkabjaa", sum := "c6096068c6e829450bef4dba30a1dfd7980e13295173e17a348d88d12cf79a0d", func := "loop.example/g00813/laws.FnFifty", spec := "fnFifty", inPlace := ["internal/bytealg.IndexByteString", "internal/bytealg.IndexString"], unfollowed := true, recurses := true, named := ["internal/bytealg.MaxLen"], apart := false }
def FnFiftySaid : Prop := fnFiftyRow.holds Try.pinned (OpenSpec.ofChange fnFiftySpec)

/-- ITS FALSE NEIGHBOUR: 'it returns false'. Refute it at one input. -/
def fnFiftyWrong : ChangeSpec := { name := "fnFifty", fn := fun _ => fun
  | [d] => { results := [.lit (.bool false)], args := [d] }
  | _ => none }
def FnFiftyWrongFalsely : Prop := fnFiftyRow.holds Try.pinned (OpenSpec.ofChange fnFiftyWrong)

/-- 'laws.FnExactPutBlock': WHATEVER THE INPUT: true; the input reads as it did. -/
def fnExactPutBlockSpec : ChangeSpec := { name := "fnExactPutBlock", fn := fun _ => fun
  | [d1, d2] => { results := [.lit (.bool true)], args := [d1, d2] }
  | _ => none }
def fnExactPutBlockRow : OpenClaim := { program := "ytgonnibakkabjaa", sum := "c6096068c6e829450bef4dba30a1dfd7980e13295173e17a348d88d12cf79a0d", func := "loop.example/g00813/laws.FnExactPutBlock", spec := "fnExactPutBlock", unfollowed := true, recurses := true, apart := false }
def FnExactPutBlockSaid : Prop := fnExactPutBlockRow.holds Try.pinned (OpenSpec.ofChange fnExactPutBlockSpec)

/-- ITS FALSE NEIGHBOUR: 'it returns false'. Refute it at one input. -/
def fnExactPutBlockWrong : ChangeSpec := { name := "fnExactPutBlock", fn := fun _ => fun
  | [d1, d2] => { results := [.lit (.bool false)], args := [d1, d2] }
  | _ => none }
def FnExactPutBlockWrongFalsely : Prop := fnExactPutBlockRow.holds Try.pinned (OpenSpec.ofChange fnExactPutBlockWrong)

/-- 'laws.FnExactGetBlock': WHATEVER THE INPUT: true; the input reads as it did. -/
def fnExactGetBlockSpec : ChangeSpec := { name := "fnExactGetBlock", fn := fun _ => fun
  | [d1, d2] => { results := [.lit (.bool true)], args := [d1, d2] }
  | _ => none }
def fnExactGetBlockRow : OpenClaim := { program := "ytgonnibakkabjaa", sum := "c6096068c6e829450bef4dba30a1dfd7980e13295173e17a348d88d12cf79a0d", func := "loop.example/g00813/laws.FnExactGetBlock", spec := "fnExactGetBlock", inPlace := ["internal/bytealg.IndexByteString", "internal/bytealg.IndexString"], unfollowed := true, recurses := true, named := ["internal/bytealg.MaxLen"], apart := false }
def FnExactGetBlockSaid : Prop := fnExactGetBlockRow.holds Try.pinned (OpenSpec.ofChange fnExactGetBlockSpec)

/-- ITS FALSE NEIGHBOUR: 'it returns false'. Refute it at one input. -/
def fnExactGetBlockWrong : ChangeSpec := { name := "fnExactGetBlock", fn := fun _ => fun
  | [d1, d2] => { results := [.lit (.bool false)], args := [d1, d2] }
  | _ => none }
def FnExactGetBlockWrongFalsely : Prop := fnExactGetBlockRow.holds Try.pinned (OpenSpec.ofChange fnExactGetBlockWrong)

/-- 'laws.FnExactSeek': WHATEVER THE INPUT: true; the input reads as it did. -/
def fnExactSeekSpec : ChangeSpec := { name := "fnExactSeek", fn := fun _ => fun
  | [d1, d2, d3, d4, d5] => { results := [.lit (.bool true)], args := [d1, d2, d3, d4, d5] }
  | _ => none }
def fnExactSeekRow : OpenClaim := { program := "ytgonnibakkabjaa", sum := "c6096068c6e829450bef4dba30a1dfd7980e13295173e17a348d88d12cf79a0d", func := "loop.example/g00813/laws.FnExactSeek", spec := "fnExactSeek", inPlace := ["internal/bytealg.IndexByteString", "internal/bytealg.IndexString"], unfollowed := true, recurses := true, named := ["internal/bytealg.MaxLen"], apart := false }
def FnExactSeekSaid : Prop := fnExactSeekRow.holds Try.pinned (OpenSpec.ofChange fnExactSeekSpec)

/-- ITS FALSE NEIGHBOUR: 'it returns false'. Refute it at one input. -/
def fnExactSeekWrong : ChangeSpec := { name := "fnExactSeek", fn := fun _ => fun
  | [d1, d2, d3, d4, d5] => { results := [.lit (.bool false)], args := [d1, d2, d3, d4, d5] }
  | _ => none }
def FnExactSeekWrongFalsely : Prop := fnExactSeekRow.holds Try.pinned (OpenSpec.ofChange fnExactSeekWrong)

/- THE SECOND FORM. 'bulk': how many values and letters a reading holds, each counted each time it is reached (what is shared counts as often as it is met; a slice's spare places count too). A statement '..UptoSaid' is the law's where the arguments, and the package variables that the reading takes, are together of bulk at most 1048576: NARROWER than '..Said'. Prove '..Said' where nothing that the law and all that it calls make is longer than what came in: it says more and counts as full. Else prove '..UptoSaid'. A law counts once. -/
mutual
def uptoBulk {H : Type} : DataW H → Nat
  | .lit (.string bytes) => bytes.length + 1
  | .lit _ => 1
  | .nil => 1
  | .ptr d => uptoBulk d + 1
  | .slice elems spare => uptoBulkAll elems + uptoBulkAll spare + 1
  | .agg parts => uptoBulkAll parts + 1
  | .iface _ d => uptoBulk d + 1
  | .map entries => uptoBulkEntries entries + 1
  | .held _ => 1
def uptoBulkAll {H : Type} : List (DataW H) → Nat
  | [] => 0
  | d :: r => uptoBulk d + uptoBulkAll r
def uptoBulkEntries {H : Type} : List (Lit × DataW H) → Nat
  | [] => 0
  | x :: r => uptoBulkEntry x + uptoBulkEntries r
def uptoBulkEntry {H : Type} : Lit × DataW H → Nat
  | (.string bytes, d) => bytes.length + uptoBulk d + 1
  | (_, d) => uptoBulk d + 1
 end
def uptoSmall : (H : Type) → List (DataW H) → Bool := fun _ ds => decide (uptoBulkAll ds ≤ 1048576)
def OpenSpec.upto (s : _root_.Go.ChangeSpec) : _root_.Go.OpenSpec := { _root_.Go.OpenSpec.ofChange s with cond := some uptoSmall }

/-- 'laws.FnBlock', WHERE WHAT IT READS IS OF BULK AT MOST 1048576: true; the input reads as it did. -/
def fnBlockUptoRow : OpenClaim := { program := "ytgonnibakkabjaa", sum := "c6096068c6e829450bef4dba30a1dfd7980e13295173e17a348d88d12cf79a0d", func := "loop.example/g00813/laws.FnBlock", spec := "fnBlock", inPlace := ["internal/bytealg.IndexByteString", "internal/bytealg.IndexString"], unfollowed := true, recurses := true, named := ["internal/bytealg.MaxLen"], apart := false, narrowed := true }
def FnBlockUptoSaid : Prop := fnBlockUptoRow.holds Try.pinned (OpenSpec.upto fnBlockSpec)

/-- 'laws.FnGetBlock', WHERE WHAT IT READS IS OF BULK AT MOST 1048576: true; the input reads as it did. -/
def fnGetBlockUptoRow : OpenClaim := { program := "ytgonnibakkabjaa", sum := "c6096068c6e829450bef4dba30a1dfd7980e13295173e17a348d88d12cf79a0d", func := "loop.example/g00813/laws.FnGetBlock", spec := "fnGetBlock", inPlace := ["internal/bytealg.IndexByteString", "internal/bytealg.IndexString"], unfollowed := true, recurses := true, named := ["internal/bytealg.MaxLen"], apart := false, narrowed := true }
def FnGetBlockUptoSaid : Prop := fnGetBlockUptoRow.holds Try.pinned (OpenSpec.upto fnGetBlockSpec)

/-- 'laws.FnSeek', WHERE WHAT IT READS IS OF BULK AT MOST 1048576: true; the input reads as it did. -/
def fnSeekUptoRow : OpenClaim := { program := "ytgonnibakkabjaa", sum := "c6096068c6e829450bef4dba30a1dfd7980e13295173e17a348d88d12cf79a0d", func := "loop.example/g00813/laws.FnSeek", spec := "fnSeek", inPlace := ["internal/bytealg.IndexByteString", "internal/bytealg.IndexString"], unfollowed := true, recurses := true, named := ["internal/bytealg.MaxLen"], apart := false, narrowed := true }
def FnSeekUptoSaid : Prop := fnSeekUptoRow.holds Try.pinned (OpenSpec.upto fnSeekSpec)

/-- 'laws.FnEvery', WHERE WHAT IT READS IS OF BULK AT MOST 1048576: true; the input reads as it did. -/
def fnEveryUptoRow : OpenClaim := { program := "ytgonnibakkabjaa", sum := "c6096068c6e829450bef4dba30a1dfd7980e13295173e17a348d88d12cf79a0d", func := "loop.example/g00813/laws.FnEvery", spec := "fnEvery", inPlace := ["internal/bytealg.IndexByteString", "internal/bytealg.IndexString"], unfollowed := true, recurses := true, named := ["internal/bytealg.MaxLen"], apart := false, narrowed := true }
def FnEveryUptoSaid : Prop := fnEveryUptoRow.holds Try.pinned (OpenSpec.upto fnEverySpec)

/-- 'laws.FnOneCell', WHERE WHAT IT READS IS OF BULK AT MOST 1048576: true; the input reads as it did. -/
def fnOneCellUptoRow : OpenClaim := { program := "ytgonnibakkabjaa", sum := "c6096068c6e829450bef4dba30a1dfd7980e13295173e17a348d88d12cf79a0d", func := "loop.example/g00813/laws.FnOneCell", spec := "fnOneCell", inPlace := ["internal/bytealg.IndexByteString", "internal/bytealg.IndexString"], unfollowed := true, recurses := true, named := ["internal/bytealg.MaxLen"], apart := false, narrowed := true }
def FnOneCellUptoSaid : Prop := fnOneCellUptoRow.holds Try.pinned (OpenSpec.upto fnOneCellSpec)

/-- 'laws.FnFifty', WHERE WHAT IT READS IS OF BULK AT MOST 1048576: true; the input reads as it did. -/
def fnFiftyUptoRow : OpenClaim := { program := "ytgonnibakkabjaa", sum := "c6096068c6e829450bef4dba30a1dfd7980e13295173e17a348d88d12cf79a0d", func := "loop.example/g00813/laws.FnFifty", spec := "fnFifty", inPlace := ["internal/bytealg.IndexByteString", "internal/bytealg.IndexString"], unfollowed := true, recurses := true, named := ["internal/bytealg.MaxLen"], apart := false, narrowed := true }
def FnFiftyUptoSaid : Prop := fnFiftyUptoRow.holds Try.pinned (OpenSpec.upto fnFiftySpec)

/-- 'laws.FnExactPutBlock', WHERE WHAT IT READS IS OF BULK AT MOST 1048576: true; the input reads as it did. -/
def fnExactPutBlockUptoRow : OpenClaim := { program := "ytgonnibakkabjaa", sum := "c6096068c6e829450bef4dba30a1dfd7980e13295173e17a348d88d12cf79a0d", func := "loop.example/g00813/laws.FnExactPutBlock", spec := "fnExactPutBlock", unfollowed := true, recurses := true, apart := false, narrowed := true }
def FnExactPutBlockUptoSaid : Prop := fnExactPutBlockUptoRow.holds Try.pinned (OpenSpec.upto fnExactPutBlockSpec)

/-- 'laws.FnExactGetBlock', WHERE WHAT IT READS IS OF BULK AT MOST 1048576: true; the input reads as it did. -/
def fnExactGetBlockUptoRow : OpenClaim := { program := "ytgonnibakkabjaa", sum := "c6096068c6e829450bef4dba30a1dfd7980e13295173e17a348d88d12cf79a0d", func := "loop.example/g00813/laws.FnExactGetBlock", spec := "fnExactGetBlock", inPlace := ["internal/bytealg.IndexByteString", "internal/bytealg.IndexString"], unfollowed := true, recurses := true, named := ["internal/bytealg.MaxLen"], apart := false, narrowed := true }
def FnExactGetBlockUptoSaid : Prop := fnExactGetBlockUptoRow.holds Try.pinned (OpenSpec.upto fnExactGetBlockSpec)

/-- 'laws.FnExactSeek', WHERE WHAT IT READS IS OF BULK AT MOST 1048576: true; the input reads as it did. -/
def fnExactSeekUptoRow : OpenClaim := { program := "ytgonnibakkabjaa", sum := "c6096068c6e829450bef4dba30a1dfd7980e13295173e17a348d88d12cf79a0d", func := "loop.example/g00813/laws.FnExactSeek", spec := "fnExactSeek", inPlace := ["internal/bytealg.IndexByteString", "internal/bytealg.IndexString"], unfollowed := true, recurses := true, named := ["internal/bytealg.MaxLen"], apart := false, narrowed := true }
def FnExactSeekUptoSaid : Prop := fnExactSeekUptoRow.holds Try.pinned (OpenSpec.upto fnExactSeekSpec)

end Rows
end Go.Proofs.Ytgonnibakkabjaa
