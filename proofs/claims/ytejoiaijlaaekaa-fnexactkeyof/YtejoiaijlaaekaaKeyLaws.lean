/- The walks of the laws FnExactKeyOf and FnExactReadKey. -/
import Derived.Test.YtejoiaijlaaekaaReadKeyS
namespace Go.Proofs.Ytejoiaijlaaekaa
open Go.RowKit
set_option linter.unusedVariables false

theorem same_self (K : ByteArray) : (!K.toList == K.toList) = false := by simp

set_option maxHeartbeats 400000 in
theorem fnExactKeyOf_walk (a0 a1 : ByteArray) (a2 : Int) (w0 : a0.size ≤ maxLen) (w1 : a1.size ≤ maxLen) (w : World) :
    Calls Try.prog 8 #[.string a0, .string a1, .int .i64 a2] w fun e w' => e = .returned (.bool true) ∧ Below w.heap.size w w' := by
  by_cases h0 : a0.size ≤ 1048576
  · by_cases h1 : a1.size ≤ 1048576
    · go_enter Try.func8, Try.ntmps8
      go_wp2_with fail
      refine (specKeyOf a0 a1 a2 w0 w1 _).mono ?_
      intro e w1 h1
      obtain ⟨K, hK, hKz, rfl, hb1⟩ := h1.text
      have HK := Lib.hid hK
      have B1 := Lib.hid hb1
      have hss := same_self K
      clear h1 hK hKz hb1
      go_wp2_with fail
      refine (implKeyOf a0 a1 a2 w0 (by assumption) _).mono ?_
      intro e w2 h2
      obtain ⟨K2, hK2, hKz2, rfl, hb2⟩ := h2.text
      have B2 := Lib.hid (B1.out.trans (hb2.mono B1.out.size))
      obtain rfl : K2 = K := bytes_ext (by rw [hK2, HK.out])
      clear h2 hK2 hKz2 hb2
      go_wp2
      go_ret
      exact ⟨rfl, B2.out⟩
    · go_enter Try.func8, Try.ntmps8
      go_wp2
      go_ret
      exact ⟨rfl, Below.refl _ _⟩
  · go_enter Try.func8, Try.ntmps8
    go_wp2
    go_ret
    exact ⟨rfl, Below.refl _ _⟩

set_option maxHeartbeats 400000 in
theorem fnExactReadKey_walk (a0 : ByteArray) (w0 : a0.size ≤ maxLen) (w : World) :
    Calls Try.prog 9 #[.string a0] w fun e w' => e = .returned (.bool true) ∧ Below w.heap.size w w' := by
  by_cases h0 : a0.size ≤ 1048576
  · go_enter Try.func9, Try.ntmps9
    go_wp2_with fail
    refine (specReadKey a0 h0 _).mono ?_
    rintro e w1 ⟨R, C, t, hr, rfl, hb1⟩
    have HR := Lib.hid hr
    have B1 := Lib.hid hb1
    have s1 := same_self R
    have s2 := same_self C
    clear hr hb1
    go_wp2_with fail
    refine (implReadKey a0 h0 _).mono ?_
    rintro e w2 ⟨R2, C2, t2, hr2, rfl, hb2⟩
    have B2 := Lib.hid (B1.out.trans (hb2.mono B1.out.size))
    obtain ⟨e1, e2, rfl⟩ := read_one hr2 HR.out
    obtain rfl : R2 = R := bytes_ext e1
    obtain rfl : C2 = C := bytes_ext e2
    have s3 : ((!t2 == t2) : Bool) = false := by simp
    clear hr2 hb2 e1 e2
    go_wp2
    go_ret
    exact ⟨rfl, B2.out⟩
  · go_enter Try.func9, Try.ntmps9
    go_wp2
    go_ret
    exact ⟨rfl, Below.refl _ _⟩
end Go.Proofs.Ytejoiaijlaaekaa
