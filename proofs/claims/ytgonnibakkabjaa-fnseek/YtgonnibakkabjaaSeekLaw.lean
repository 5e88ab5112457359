/- The walk of the law FnSeek: what is sought in a block is what is sought in its cells. -/
import Derived.Test.YtgonnibakkabjaaDrawBlk
import Derived.Test.YtgonnibakkabjaaSeekA
import Derived.Test.YtgonnibakkabjaaLawA
namespace Go.Proofs.Ytgonnibakkabjaa
open Go.RowKit
set_option linter.unusedVariables false

set_option maxHeartbeats 4000000 in
set_option maxRecDepth 100000 in
theorem fnSeek_walk (a0 : Option Addr) (len0 cap0 : Nat) (z0 : List Int) (w : World) (w0 : IsRow .u8 w a0 len0 cap0 z0) :
    Calls Try.prog 5 #[.slice a0 len0 cap0] w fun e w' => e = .returned (.bool true) ∧ Below w.heap.size w w' := by
  have HR := Lib.hid (bytes_of_row w0 w.heap.size (Nat.le_refl _))
  clear w0
  by_cases hbig : len0 ≤ 1048576
  · go_enter Try.func5, Try.ntmps5
    go_wp2_with fail
    refine (big_no a0 len0 cap0 _ hbig).mono ?_
    rintro e w1 ⟨rfl, rfl⟩
    go_wp2_with fail
    refine (drawSeek_at a0 len0 cap0 z0 _ HR.out).mono ?_
    rintro e w1 ⟨s, ev, R, C, t, rfl, hs, hR, hC, b1⟩
    have B1 := Lib.hid b1
    obtain ⟨l, gk, hg⟩ := got_some s.data.toList ev
    have HG := Lib.hid hg
    obtain ⟨r, hr⟩ : ∃ r, newest l R.data.toList C.data.toList t = r := ⟨_, rfl⟩
    have HN := Lib.hid hr
    have hs20 : s.size ≤ 1048576 := by omega
    clear hr hg b1
    go_wp2_with fail
    refine (implSeek s ev R C t hs20 l gk HG.out _).mono ?_
    rw [HN.out]
    intro e w2 h2
    obtain ⟨Rx, Cx, Tx, Gx, Vx, hrr, rfl, b2⟩ := h2.form
    have HRR := Lib.hid hrr
    obtain ⟨ok, hok⟩ : ∃ b, r.isSome = b := ⟨_, rfl⟩
    rw [hok]
    have HOK := Lib.hid hok
    have X2 := Lib.hid (one5_new w2 (.string Rx) (.string Cx) (.int .i64 Tx) (.bool Gx) (.string Vx) 38)
    have K2 := Lib.hid (b2.trans ((one_below w2 (.cells #[.string Rx, .string Cx, .int .i64 Tx, .bool Gx, .string Vx] 38)).mono b2.size))
    have B2 := Lib.hid (B1.out.trans (K2.out.mono B1.out.size))
    clear h2 hrr hok b2 K2
    go_wp2_with fail
    obtain ⟨w3, hw3⟩ : ∃ W, w2.alloc (.cells #[.string Rx, .string Cx, .int .i64 Tx, .bool Gx, .string Vx] 38) = W := ⟨_, rfl⟩
    rw [hw3] at X2 B2 ⊢
    clear hw3
    obtain ⟨A, hA⟩ : ∃ A, w2.heap.size = A := ⟨_, rfl⟩
    rw [hA] at X2 ⊢
    clear hA
    refine (specSeek s ev R C t hs20 l gk HG.out _).mono ?_
    rw [HN.out]
    intro e w4 h4
    obtain ⟨R', C', T', G', V', hrr', rfl, b4⟩ := h4.form
    rw [HRR.out] at hrr'
    cases hrr'
    rw [HOK.out]
    have Y4 := Lib.hid (one5_new w4 (.string Rx) (.string Cx) (.int .i64 Tx) (.bool Gx) (.string Vx) 38)
    have K4 := Lib.hid (b4.trans ((one_below w4 (.cells #[.string Rx, .string Cx, .int .i64 Tx, .bool Gx, .string Vx] 38)).mono b4.size))
    have X4 := Lib.hid (X2.out.below K4.out)
    have B4 := Lib.hid (B2.out.trans (K4.out.mono B2.out.size))
    clear h4 b4 K4
    go_wp2_with fail
    obtain ⟨w5, hw5⟩ : ∃ W, w4.alloc (.cells #[.string Rx, .string Cx, .int .i64 Tx, .bool Gx, .string Vx] 38) = W := ⟨_, rfl⟩
    rw [hw5] at X4 Y4 B4 ⊢
    clear hw5
    obtain ⟨D, hD⟩ : ∃ A, w4.heap.size = A := ⟨_, rfl⟩
    rw [hD] at Y4 ⊢
    clear hD
    refine (specGetBlock s ev hs20 _).mono ?_
    rintro e w6 ⟨v, l', ok', rfl, hg', ho, b6⟩
    obtain ⟨rfl, rfl⟩ := got_one HG.out hg'
    obtain ⟨ad, cap, rfl⟩ := own_slice ho
    have R6 := Lib.hid ho.row
    have X6 := Lib.hid (X4.out.below b6)
    have Y6 := Lib.hid (Y4.out.below b6)
    have B6 := Lib.hid (B4.out.trans (b6.mono B4.out.size))
    clear hg' ho b6
    go_wp2_with fail
    refine (implNewest ad l.length cap l R C t (by have := (got_few HG.out).1; omega) (got_fit HG.out) _ R6.out).mono ?_
    rw [HN.out]
    intro e w7 h7
    obtain ⟨R', C', T', G', V', hrr', rfl, b7⟩ := h7.form
    rw [HRR.out] at hrr'
    cases hrr'
    rw [HOK.out]
    have Z7 := Lib.hid (one5_new w7 (.string Rx) (.string Cx) (.int .i64 Tx) (.bool Gx) (.string Vx) 38)
    have K7 := Lib.hid (b7.trans ((one_below w7 (.cells #[.string Rx, .string Cx, .int .i64 Tx, .bool Gx, .string Vx] 38)).mono b7.size))
    have X7 := Lib.hid (X6.out.below K7.out)
    have Y7 := Lib.hid (Y6.out.below K7.out)
    have B7 := Lib.hid (B6.out.trans (K7.out.mono B6.out.size))
    clear h7 b7 K7
    have X7o := X7.out
    unfold One5 at X7o
    obtain ⟨f0, f1, f2, f3, f4⟩ := X7o
    have Y7o := Y7.out
    unfold One5 at Y7o
    obtain ⟨e0, e1, e2, e3, e4⟩ := Y7o
    have Z7o := Z7.out
    unfold One5 at Z7o
    obtain ⟨d0, d1, d2, d3, d4⟩ := Z7o
    have nok : (ok == ok) = true := by simp
    go_wp2
    go_ret
    exact ⟨ret_bool (by simp), B7.out⟩
  · go_enter Try.func5, Try.ntmps5
    go_wp2_with fail
    refine (big_yes a0 len0 cap0 _ hbig).mono ?_
    rintro e w1 ⟨rfl, rfl⟩
    go_wp2
    go_ret
    exact ⟨rfl, Below.refl _ _⟩
end Go.Proofs.Ytgonnibakkabjaa
