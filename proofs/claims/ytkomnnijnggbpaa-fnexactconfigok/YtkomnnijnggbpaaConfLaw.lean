/- The walk of the law FnExactConfigOk. -/
import Derived.Test.YtkomnnijnggbpaaTabCfg
import Derived.Test.YtkomnnijnggbpaaConfArg
namespace Go.Proofs.Ytkomnnijnggbpaa
open Go.RowKit
set_option linter.unusedVariables false

set_option maxHeartbeats 1000000 in
theorem fnExactConfigOk_walk (w : World) (E Z : Int) (G : Bool) :
    Calls Try.prog 4 #[.agg #[.int .i64 E, .int .i64 Z, .bool G]] w fun e w' => e = .returned (.bool true) ∧ Below w.heap.size w w' := by
  have X0 := alloc_at w (.cells #[.int .i64 E, .int .i64 Z, .bool G] 37)
  have B0 := Lib.hid (one_below w (.cells #[.int .i64 E, .int .i64 Z, .bool G] 37))
  obtain ⟨b, hb⟩ : ∃ b, confOk ⟨E, Z, G⟩ = b := ⟨_, rfl⟩
  have HB := Lib.hid hb
  have hbb : (b != b) = false := by simp
  obtain ⟨w0, hw0⟩ : ∃ W, w.alloc (.cells #[.int .i64 E, .int .i64 Z, .bool G] 37) = W := ⟨_, rfl⟩
  rw [hw0] at X0 B0
  have XX := Lib.hid X0
  have c0 : w0.cell? ⟨w.heap.size, 0, none⟩ = some (.int .i64 E) := by simp [World.cell?, X0]
  have c1 : w0.cell? ⟨w.heap.size, 1, none⟩ = some (.int .i64 Z) := by simp [World.cell?, X0]
  have c2 : w0.cell? ⟨w.heap.size, 2, none⟩ = some (.bool G) := by simp [World.cell?, X0]
  clear hb X0
  go_enter Try.func4, Try.ntmps4
  go_wp2_with fail
  try rw [hw0]
  refine (toConfig_at E Z G _).mono ?_
  rintro e w1 ⟨rfl, b1⟩
  have B1 := Lib.hid (B0.out.trans (b1.mono B0.out.size))
  have X1 := Lib.hid ((b1.block _ (Array.getElem?_eq_some_iff.1 XX.out).1).trans XX.out)
  clear b1 c0 c1 c2 hw0
  go_wp2_with fail
  refine (specConfigOk E Z G _).mono ?_
  rw [HB.out]
  rintro e w2 ⟨rfl, b2⟩
  have B2 := Lib.hid (B1.out.trans (b2.mono B1.out.size))
  have X2 := (b2.block _ (Array.getElem?_eq_some_iff.1 X1.out).1).trans X1.out
  have c0 : w2.cell? ⟨w.heap.size, 0, none⟩ = some (.int .i64 E) := by simp [World.cell?, X2]
  have c1 : w2.cell? ⟨w.heap.size, 1, none⟩ = some (.int .i64 Z) := by simp [World.cell?, X2]
  have c2 : w2.cell? ⟨w.heap.size, 2, none⟩ = some (.bool G) := by simp [World.cell?, X2]
  clear b2 X2
  go_wp2_with fail
  refine (toConfig_at E Z G _).mono ?_
  rintro e w3 ⟨rfl, b3⟩
  have B3 := Lib.hid (B2.out.trans (b3.mono B2.out.size))
  clear b3 c0 c1 c2
  go_wp2_with fail
  refine (implConfigOk E Z G _).mono ?_
  rw [HB.out]
  rintro e w4 ⟨rfl, b4⟩
  have B4 := Lib.hid (B3.out.trans (b4.mono B3.out.size))
  clear b4
  go_wp2
  go_ret
  exact ⟨rfl, B4.out⟩
end Go.Proofs.Ytkomnnijnggbpaa
