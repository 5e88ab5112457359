/- The model's MayHave. -/
import Derived.Test.YtkomnnijnggbpaaHashS
import Derived.BigQuiet
namespace Go.Proofs.Ytkomnnijnggbpaa
open Go.RowKit
set_option linter.unusedVariables false

theorem may_no {f key : List UInt8} {p : Nat} (hp : p ∈ probes key (8 * f.length : Nat)) (h : bitAt f p = false) : mayHave f key = false := by
 unfold mayHave
 rw [show (probes key (8 * f.length : Nat)).all (bitAt f) = false from List.all_eq_false.2 ⟨p, hp, by simp [h]⟩, Bool.and_false]
theorem may_none {f key : List UInt8} (h : probes key (8 * f.length : Nat) = []) : mayHave f key = false := by
 unfold mayHave
 rw [h]
 rfl
theorem may_yes {f key : List UInt8} (h0 : probes key (8 * f.length : Nat) ≠ []) (h : ∀ (j q : Nat), (probes key (8 * f.length : Nat))[j]? = some q → bitAt f q = true) : mayHave f key = true := by
 unfold mayHave
 rw [show (probes key (8 * f.length : Nat)).all (bitAt f) = true from List.all_eq_true.2 (fun q hq => by
   obtain ⟨j, hj⟩ := List.mem_iff_getElem?.1 hq
   exact h j q hj), Bool.and_true]
 cases hp : probes key (8 * f.length : Nat) with
 | nil => exact absurd hp h0
 | cons _ _ => rfl
theorem bit_at (f : ByteArray) (p q r : Nat) (h : q < f.size) (hq : p / 8 = q) (hr : p % 8 = r) : bitAt f.data.toList p = f[q].toNat.testBit r := by
 unfold bitAt
 rw [hq, hr, List.getD_eq_getElem?_getD, byte_at f q h]
 rfl
theorem nums_at {l : List Nat} {k : Nat} {p : Nat} (h : l[k]? = some p) : (nums l)[k]? = some (p : Int) := by unfold nums; rw [List.getElem?_map, h]; rfl

end Go.Proofs.Ytkomnnijnggbpaa
