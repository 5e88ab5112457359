/- The program's ConfigOk, and the name of a row and a column. -/
import Derived.Test.YtkomnnijnggbpaaNamesS
namespace Go.Proofs.Ytkomnnijnggbpaa
open Go.RowKit
set_option linter.unusedVariables false

set_option maxHeartbeats 1000000 in
theorem implConfigOk (e s : Int) (p : Bool) (w : World) :
    Calls Try.prog 18 #[.agg #[.int .i64 e, .int .i64 s, .bool p]] w fun r w' => r = .returned (.bool (confOk ⟨e, s, p⟩)) ∧ Below w.heap.size w w' := by
  have B0 := Lib.hid ((Below.refl w.heap.size w).alloc (Nat.le_refl _) (.cells #[.int .i64 e, .int .i64 s, .bool p] 28))
  unfold confOk
  by_cases h1 : 1 ≤ e
  · by_cases h2 : e ≤ 16
    · by_cases h3 : 1 ≤ s
      · go_enter Try.func18, Try.ntmps18
        go_wp2
        go_ret
        exact ⟨ret_bool (by simp [h1, h2, h3]), B0.out⟩
      · go_enter Try.func18, Try.ntmps18
        go_wp2
        go_ret
        exact ⟨ret_bool (by rw [show decide (1 ≤ s) = false from decide_eq_false (by omega)]; simp), B0.out⟩
    · go_enter Try.func18, Try.ntmps18
      go_wp2
      go_ret
      exact ⟨ret_bool (by rw [show decide (e ≤ 16) = false from decide_eq_false (by omega)]; simp), B0.out⟩
  · go_enter Try.func18, Try.ntmps18
    go_wp2
    go_ret
    exact ⟨ret_bool (by rw [show decide (1 ≤ e) = false from decide_eq_false (by omega)]; simp), B0.out⟩
theorem cfg_three {w : World} {g T : Nat} {a b c : Value} (h : w.heap[g]? = some (.cells #[a, b, c] T (0, 0))) : w.cell? ⟨g, 0, none⟩ = some a ∧ w.cell? ⟨g, 1, none⟩ = some b ∧ w.cell? ⟨g, 2, none⟩ = some c :=
  ⟨by simp [World.cell?, h], by simp [World.cell?, h], by simp [World.cell?, h]⟩
end Go.Proofs.Ytkomnnijnggbpaa
