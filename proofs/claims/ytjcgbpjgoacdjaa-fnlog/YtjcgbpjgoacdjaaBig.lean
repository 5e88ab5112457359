/- The laws' look at how long a code is. -/
import Derived.Test.YtjcgbpjgoacdjaaProg
import Derived.Test.YtjcgbpjgoacdjaaZ0
namespace Go.Proofs.Ytjcgbpjgoacdjaa
open Go.RowKit
set_option linter.unusedVariables false

theorem big_no (a : Option Addr) (len cap : Nat) (w : World) (h : len ≤ 1048576) :
   Calls Try.prog 16 #[.slice a len cap] w fun e w' => e = .returned (.bool false) ∧ w = w' := by
 have hd : decide (1048576 < (len : Int)) = false := by simp; omega
 go_enter Try.func16, Try.ntmps16
 go_wp2
 go_ret
 exact ⟨rfl, rfl⟩
theorem big_yes (a : Option Addr) (len cap : Nat) (w : World) (h : ¬ len ≤ 1048576) :
   Calls Try.prog 16 #[.slice a len cap] w fun e w' => e = .returned (.bool true) ∧ w = w' := by
 have hd : decide (1048576 < (len : Int)) = true := by simp; omega
 go_enter Try.func16, Try.ntmps16
 go_wp2
 go_ret
 exact ⟨rfl, rfl⟩
end Go.Proofs.Ytjcgbpjgoacdjaa
