/- The walk of the law FnWrap. -/
import Derived.Test.YtgonnibakkabjabLawA
import Derived.Test.YtgonnibakkabjabDrawWrap
import Derived.Test.YtgonnibakkabjabUnwrap
namespace Go.Proofs.Ytgonnibakkabjab
open Go.RowKit
set_option linter.unusedVariables false

set_option maxHeartbeats 1000000 in
set_option maxRecDepth 100000 in
theorem fnWrap_walk (a0 : Option Addr) (len0 cap0 : Nat) (z0 : List Int) (w : World) (w0 : IsRow .u8 w a0 len0 cap0 z0) :
    Calls Try.prog 3 #[.slice a0 len0 cap0] w fun e w' => e = .returned (.bool true) ∧ Below w.heap.size w w' := by
  have HR := Lib.hid (bytes_of_row w0 w.heap.size (Nat.le_refl _))
  clear w0
  by_cases hbig : len0 ≤ 1048576
  · go_enter Try.func3, Try.ntmps3
    go_wp2_with fail
    refine (big_no a0 len0 cap0 _ hbig).mono ?_
    rintro e w1 ⟨rfl, rfl⟩
    go_wp2_with fail
    refine (drawWrap_at a0 len0 cap0 z0 _ HR.out).mono ?_
    rintro e w1 ⟨s, p, hs, rfl, b1⟩
    have B1 := Lib.hid b1
    clear b1 HR
    have hsl : s.data.toList.length = s.size := by simp
    obtain ⟨X, hX, hXs⟩ := text_of (wrapB s.data.toList p)
    have HX := Lib.hid hX
    have hX9 : X.size ≤ 2005 := by rw [hXs]; exact wrap_most _ _
    obtain ⟨Y, hY, hYs⟩ := text_of (wrapB s.data.toList false)
    have HY := Lib.hid hY
    have hY9 : Y.size ≤ 2005 := by rw [hYs]; exact wrap_most _ _
    go_wp2_with fail
    refine (implWrap s X p HX.out _).mono ?_
    rintro e w2 ⟨rfl, b2⟩
    have B2 := Lib.hid (B1.out.trans (b2.mono B1.out.size))
    clear b2
    go_wp2_with fail
    refine (specWrap s X p HX.out _).mono ?_
    rintro e w3 ⟨rfl, b3⟩
    have B3 := Lib.hid (B2.out.trans (b3.mono B2.out.size))
    clear b3
    by_cases h2 : s.size ≤ 2000
    · have HU := Lib.hid (unwrap_wrap p (l := s.data.toList) (by rw [hsl]; exact h2))
      have hl := (wrapB_len p (l := s.data.toList) (by rw [hsl]; exact h2)).1
      have hf := wrap_false (l := s.data.toList) (by rw [hsl]; exact h2)
      rw [hsl, ← hXs] at hl
      rw [hsl, ← hYs] at hf
      have e1 : ((Y.size : Int) == (s.size : Int) + 5) = true := by rw [beq_iff_eq]; omega
      have e2 : decide ((X.size : Int) ≤ (s.size : Int) + 5) = true := by rw [decide_eq_true_iff]; omega
      clear hX hXs hY hYs hsl hl hf
      go_wp2_with fail
      refine (implUnwrap X s 0 (by omega) (by rw [HX.out, HU.out]) _).mono ?_
      rintro e w4 ⟨rfl, b4⟩
      have B4 := Lib.hid (B3.out.trans (b4.mono B3.out.size))
      clear b4
      go_wp2_with fail
      refine (implWrap s Y false HY.out _).mono ?_
      rintro e w5 ⟨rfl, b5⟩
      have B5 := Lib.hid (B4.out.trans (b5.mono B4.out.size))
      clear b5
      go_wp2
      go_ret
      exact ⟨rfl, B5.out⟩
    · have hX0 : X = ⟨#[]⟩ := no_text (by rw [HX.out]; exact wrap_long _ (by rw [hsl]; omega))
      subst hX0
      clear hX hXs hY hYs hsl
      go_wp2
      go_ret
      exact ⟨rfl, B3.out⟩
  · go_enter Try.func3, Try.ntmps3
    go_wp2_with fail
    refine (big_yes a0 len0 cap0 _ hbig).mono ?_
    rintro e w1 ⟨rfl, rfl⟩
    go_wp2
    go_ret
    exact ⟨rfl, Below.refl _ _⟩
end Go.Proofs.Ytgonnibakkabjab
