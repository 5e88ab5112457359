/- Texts that begin alike: where they part, and where one ends. -/
import Derived.Test.YtejoiaijlaaekaaPure
import Derived.Test.YtejoiaijlaaekaaBase
namespace Go.Proofs.Ytejoiaijlaaekaa
open Go.RowKit
set_option linter.unusedVariables false

theorem alike_succ {a b : ByteArray} {k : Nat} (h1 : k < a.size) (h2 : k < b.size) (h : ∀ j, j < k → a.data.toList[j]? = b.data.toList[j]?)
    (hk : ((a[k].toNat : Int) != (b[k].toNat : Int)) = false) : ∀ j, j < k + 1 → a.data.toList[j]? = b.data.toList[j]? := by
  intro j hj
  by_cases e : j = k
  · subst e
    have : a[j] = b[j] := by
      have : a[j].toNat = b[j].toNat := by simp at hk; omega
      exact UInt8.toNat_inj.1 this
    rw [byte_at a j h1, byte_at b j h2, this]
  · exact h j (by omega)

theorem sharedParts {a b : ByteArray} {k : Nat} (h1 : k < a.size) (h2 : k < b.size) (h : ∀ j, j < k → a.data.toList[j]? = b.data.toList[j]?)
    (hk : ((a[k].toNat : Int) != (b[k].toNat : Int)) = true) : shared a.data.toList b.data.toList = k := by
  refine shared_eq k _ _ (by simp; omega) (by simp; omega) h (Or.inr (Or.inr ?_))
  rw [byte_at a k h1, byte_at b k h2]
  intro e
  simp only [Option.some.injEq] at e
  rw [e] at hk
  simp at hk

theorem sharedEnds {a b : ByteArray} {k : Nat} (h1 : k ≤ a.size) (h2 : k ≤ b.size) (h : ∀ j, j < k → a.data.toList[j]? = b.data.toList[j]?)
    (hk : ¬ (k < a.size ∧ k < b.size)) : shared a.data.toList b.data.toList = k := by
  refine shared_eq k _ _ (by simp; omega) (by simp; omega) h ?_
  simp only [Array.length_toList, ByteArray.size_data]
  omega
end Go.Proofs.Ytejoiaijlaaekaa
