/- PutVar of the program and of the model, the text under a name. -/
import Derived.Test.YtkomnnijnggbpaaPutVar
import Derived.Test.YtkomnnijnggbpaaPureA
namespace Go.Proofs.Ytkomnnijnggbpaa
open Go.RowKit
set_option linter.unusedVariables false

theorem implPutVar_as (n : Int) (A : ByteArray) (hA : A.data.toList = putVar n) (w : World) : Calls Try.prog 54 #[.int .i64 n] w (Same w A) :=
  (implPutVar n w).mono fun e w' ⟨h1, h2⟩ => ⟨by rw [h1, as_text hA], h2⟩
theorem specPutVar_as (n : Int) (A : ByteArray) (hA : A.data.toList = putVar n) (w : World) : Calls Try.prog 33 #[.int .i64 n] w (Same w A) :=
  (specPutVar n w).mono fun e w' ⟨h1, h2⟩ => ⟨by rw [h1, as_text hA], h2⟩
end Go.Proofs.Ytkomnnijnggbpaa
