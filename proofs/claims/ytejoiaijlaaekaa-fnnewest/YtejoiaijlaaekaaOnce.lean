/- The model's draw of yes or no. -/
import Derived.Test.YtejoiaijlaaekaaPick
namespace Go.Proofs.Ytejoiaijlaaekaa
open Go.RowKit
set_option linter.unusedVariables false

set_option maxHeartbeats 400000 in
theorem l01Once_at (T p : Nat) (a : Option Addr) (len cap : Nat) (zs : List Int) (i : Nat) (h n : Int) (w : World) (c : CurAt w T p a len cap zs i h) (h1 : 1 ≤ n) (h2 : n ≤ 256) :
    Calls Try.prog 63 #[.pointer (some ⟨p, 0, none⟩), .int .i64 n] w (SomeBool T p a len cap zs w) := by
  have HC := Lib.hid c
  clear c
  go_enter Try.func63, Try.ntmps63
  go_wp2_with fail
  refine (l01Below_small _ _ _ _ _ _ _ _ _ _ HC.out h1 h2).mono ?_
  rintro e w1 ⟨rfl, c1, g1⟩
  have C1 := Lib.hid c1
  clear c1
  go_wp2
  go_ret
  exact ⟨_, _, _, rfl, C1.out, g1⟩
end Go.Proofs.Ytejoiaijlaaekaa
