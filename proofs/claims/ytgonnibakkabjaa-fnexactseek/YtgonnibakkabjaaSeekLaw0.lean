/- The walk of the law FnExactSeek. -/
import Derived.Test.YtgonnibakkabjaaSeekI
import Derived.Test.YtgonnibakkabjaaSeekS
import Derived.Test.YtgonnibakkabjaaCellHelpS
namespace Go.Proofs.Ytgonnibakkabjaa
open Go.RowKit
set_option linter.unusedVariables false

set_option maxHeartbeats 1000000 in
set_option maxRecDepth 100000 in
theorem fnExactSeek_walk (w : World) (a0 : ByteArray) (a1 : Int) (a2 a3 : ByteArray) (a4 : Int) :
    Calls Try.prog 11 #[.string a0, .int .i64 a1, .string a2, .string a3, .int .i64 a4] w fun e w' => e = .returned (.bool true) ∧ Below w.heap.size w w' := by
  by_cases q0 : a0.size ≤ 1048576
  · by_cases q1 : a2.size ≤ 1048576
    · by_cases q2 : a3.size ≤ 1048576
      · obtain ⟨r, ok, hg⟩ := got_some a0.data.toList a1
        have HG := Lib.hid hg
        clear hg
        obtain ⟨x, hx⟩ : ∃ x, newest r a2.data.toList a3.data.toList a4 = x := ⟨_, rfl⟩
        have HN := Lib.hid hx
        clear hx
        go_enter Try.func11, Try.ntmps11
        go_wp2_with fail
        refine (specSeek a0 a1 a2 a3 a4 q0 r ok HG.out _).mono ?_
        rw [HN.out]
        intro e w3 h3
        obtain ⟨R, C, T, G, V, hrr, rfl, hb3⟩ := h3.form
        have HRR := Lib.hid hrr
        obtain ⟨b, hb⟩ : ∃ b, x.isSome = b := ⟨_, rfl⟩
        rw [hb]
        have HBB := Lib.hid hb
        have hbb : (b != b) = false := by simp
        have K3 := Lib.hid (one_below w3 (.cells #[.string R, .string C, .int .i64 T, .bool G, .string V] 38))
        have B3 := Lib.hid (hb3.trans (K3.out.mono hb3.size))
        have X3 := Lib.hid (one5_new w3 (.string R) (.string C) (.int .i64 T) (.bool G) (.string V) 38)
        clear h3 hrr hb hb3 K3
        go_wp2_with fail
        refine (implSeek a0 a1 a2 a3 a4 q0 r ok HG.out _).mono ?_
        rw [HN.out]
        intro e w5 h5
        obtain ⟨R', C', T', G', V', hrr', rfl, hb5⟩ := h5.form
        rw [HRR.out] at hrr'
        cases hrr'
        rw [HBB.out]
        have K5 := Lib.hid (one_below w5 (.cells #[.string R, .string C, .int .i64 T, .bool G, .string V] 38))
        have B5 := Lib.hid ((B3.out.trans (hb5.mono B3.out.size)).trans (K5.out.mono (Nat.le_trans B3.out.size hb5.size)))
        have X5 := Lib.hid ((X3.out.below hb5).below K5.out)
        have Y5 := Lib.hid (one5_new w5 (.string R) (.string C) (.int .i64 T) (.bool G) (.string V) 38)
        clear h5 hb5 K5
        have X5o := X5.out
        unfold One5 at X5o
        obtain ⟨f0, f1, f2, f3, f4⟩ := X5o
        go_wp2_with fail
        refine (eqCell_same R C T G V _).mono ?_
        rintro e w6 ⟨rfl, hb6⟩
        have B6 := Lib.hid (B5.out.trans (hb6.mono B5.out.size))
        clear hb6 f0 f1 f2 f3 f4
        go_wp2
        go_ret
        exact ⟨rfl, B6.out⟩
      · go_enter Try.func11, Try.ntmps11
        go_wp2
        go_ret
        exact ⟨rfl, Below.refl _ _⟩
    · go_enter Try.func11, Try.ntmps11
      go_wp2
      go_ret
      exact ⟨rfl, Below.refl _ _⟩
  · go_enter Try.func11, Try.ntmps11
    go_wp2
    go_ret
    exact ⟨rfl, Below.refl _ _⟩
end Go.Proofs.Ytgonnibakkabjaa
