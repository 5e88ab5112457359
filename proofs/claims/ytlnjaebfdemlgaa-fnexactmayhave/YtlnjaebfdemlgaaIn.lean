/- Contracts of the model's look whether a number is of some range. -/
import Derived.Test.YtlnjaebfdemlgaaProg
import Derived.Test.YtlnjaebfdemlgaaPureA
namespace Go.Proofs.Ytlnjaebfdemlgaa
open Go.RowKit
set_option linter.unusedVariables false

theorem specIn_yes (x a b : Int) (w : World) (h1 : a ≤ x) (h2 : x ≤ b) :
    Calls Try.prog 45 #[.int .i64 x, .int .i64 a, .int .i64 b] w fun e w' => e = .returned (.bool true) ∧ w = w' := by
  go_enter Try.func45, Try.ntmps45
  go_wp2
  go_ret
  exact ⟨by simp, rfl⟩
theorem specIn_no (x a b : Int) (w : World) (h : x < a ∨ b < x) :
    Calls Try.prog 45 #[.int .i64 x, .int .i64 a, .int .i64 b] w fun e w' => e = .returned (.bool false) ∧ w = w' := by
  by_cases h1 : a ≤ x
  · have h2 : ¬ x ≤ b := by omega
    clear h
    go_enter Try.func45, Try.ntmps45
    go_wp2
    go_ret
    exact ⟨by simp, rfl⟩
  · clear h
    go_enter Try.func45, Try.ntmps45
    go_wp2
    go_ret
    exact ⟨by simp, rfl⟩
end Go.Proofs.Ytlnjaebfdemlgaa
