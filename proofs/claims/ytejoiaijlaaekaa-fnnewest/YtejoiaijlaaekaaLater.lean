/- What drawn values leave behind. -/
import Derived.Test.YtejoiaijlaaekaaOnce
import Derived.Test.YtejoiaijlaaekaaPickInt
import Derived.Test.YtejoiaijlaaekaaPickStr
namespace Go.Proofs.Ytejoiaijlaaekaa
open Go.RowKit
set_option linter.unusedVariables false

/-- A number of 64 bits. -/
def I64 (x : Int) : Prop := -9223372036854775808 ≤ x ∧ x ≤ 9223372036854775807

/-- A number of 64 bits that is drawn by a code. -/
def IntOf (w : World) (e : Ending) (w' : World) : Prop := ∃ x : Int, I64 x ∧ e = .returned (.int .i64 x) ∧ Below w.heap.size w w'
/-- A short text that is drawn by a code. -/
def TextOf (w : World) (e : Ending) (w' : World) : Prop := ∃ s : ByteArray, s.size ≤ 1000 ∧ e = .returned (.string s) ∧ Below w.heap.size w w'

theorem grown_of_below {w w' : World} (h : Below w.heap.size w w') : w.grownBy w' none := ⟨h.os, h.tape, h.output, h.size, fun j hj _ => h.block j hj⟩
theorem CurAt.below {w w' : World} {T p : Nat} {a : Option Addr} {len cap : Nat} {zs : List Int} {i : Nat} {h : Int} (c : CurAt w T p a len cap zs i h) (hb : Below w.heap.size w w') : CurAt w' T p a len cap zs i h :=
  c.kept (grown_of_below hb) (by simp) (fun _ _ => Or.inl (by simp))
theorem below_bytes {w w1 : World} {a : Option Addr} {len : Nat} {zs : List Int} (hr : Bytes w w.heap.size a len zs) (hb : Below w.heap.size w w1) : Bytes w1 w1.heap.size a len zs := by
  refine ⟨hr.1, fun k hk => ?_⟩
  obtain ⟨b, off, ha, hlt, hne, hc, hr2⟩ := hr.2 k hk
  have := hb.size
  exact ⟨b, off, ha, by omega, by omega, (hb.cell (p := ⟨b, off + k, none⟩) hlt).trans hc, hr2⟩
end Go.Proofs.Ytejoiaijlaaekaa
