/- PutVar of the program and of the model, the text under a name. -/
import Derived.Test.YtkhpgomgaimhkaaPutVar
namespace Go.Proofs.Ytkhpgomgaimhkaa
open Go.RowKit
set_option linter.unusedVariables false

/-- This very text; nothing that lay there has turned. -/
def Same (w : World) (A : ByteArray) (e : Ending) (w' : World) : Prop := e = .returned (.string A) ∧ Below w.heap.size w w'
theorem as_text {A : ByteArray} {l : List UInt8} (h : A.data.toList = l) : (⟨l.toArray⟩ : ByteArray) = A := bytes_ext (by rw [h])
theorem implPutVar_as (n : Int) (A : ByteArray) (hA : A.data.toList = putVar n) (w : World) : Calls Try.prog 17 #[.int .i64 n] w (Same w A) :=
  (implPutVar n w).mono fun e w' ⟨h1, h2⟩ => ⟨by rw [h1, as_text hA], h2⟩
theorem specPutVar_as (n : Int) (A : ByteArray) (hA : A.data.toList = putVar n) (w : World) : Calls Try.prog 21 #[.int .i64 n] w (Same w A) :=
  (specPutVar n w).mono fun e w' ⟨h1, h2⟩ => ⟨by rw [h1, as_text hA], h2⟩
/-- The text of a number's groups. -/
theorem text_of (l : List UInt8) : ∃ A : ByteArray, A.data.toList = l ∧ A.size = l.length := ⟨⟨l.toArray⟩, rfl, by simp [ByteArray.size]⟩
theorem same_beq (A : ByteArray) : (A.toList == A.toList) = true := by simp
theorem other_beq {A B : ByteArray} (h : A.data.toList ≠ B.data.toList) : (A.toList == B.toList) = false := by rw [ByteArray.toList_eq, ByteArray.toList_eq]; simpa using h
end Go.Proofs.Ytkhpgomgaimhkaa
