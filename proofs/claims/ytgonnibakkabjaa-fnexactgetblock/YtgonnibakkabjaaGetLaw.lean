/- The walk of the law FnExactGetBlock. -/
import Derived.Test.YtgonnibakkabjaaGetBlk
import Derived.Test.YtgonnibakkabjaaGetBlkS
import Derived.Test.YtgonnibakkabjaaGotPure
import Derived.Test.YtgonnibakkabjaaCellHelpS
import Derived.Test.YtgonnibakkabjaaCelMarks
namespace Go.Proofs.Ytgonnibakkabjaa
open Go.RowKit
set_option linter.unusedVariables false

set_option maxHeartbeats 2000000 in
set_option maxRecDepth 100000 in
theorem fnExactGetBlock_walk (w : World) (a0 : ByteArray) (a1 : Int) :
    Calls Try.prog 10 #[.string a0, .int .i64 a1] w fun e w' => e = .returned (.bool true) ∧ Below w.heap.size w w' := by
  by_cases q0 : a0.size ≤ 1048576
  · go_enter Try.func10, Try.ntmps10
    go_wp2_with fail
    refine (specGetBlock a0 a1 q0 _).mono ?_
    rintro e w1 ⟨v0, r, ok, rfl, hg, ho1, hb1⟩
    have HG := Lib.hid hg
    obtain ⟨ad0, cap0, rfl⟩ := own_slice ho1
    have hlen := (got_few hg).1
    obtain ⟨n, hn⟩ : ∃ n, r.length = n := ⟨_, rfl⟩
    have Y1 := Lib.hid ho1
    have B1 := Lib.hid hb1
    have hbb : (ok != ok) = false := by simp
    clear ho1 hb1 hg
    rw [hn]
    go_wp2_with fail
    refine (implGetBlock a0 a1 q0 _).mono ?_
    rintro e w2 ⟨v1, r', ok', rfl, hg', ho2, hb2⟩
    obtain ⟨rfl, rfl⟩ := got_one HG.out hg'
    obtain ⟨ad1, cap1, rfl⟩ := own_slice ho2
    rw [hn]
    have A2 := Lib.hid (Y1.out.below hb2)
    have R2 := Lib.hid ho2
    have B2 := Lib.hid hb2
    clear hg' ho2 hb2
    have HN := Lib.hid hn
    rw [hn] at hlen
    clear hn
    go_wp2_with fail
    refine (eqCellS_same ad1 ad0 n cap1 cap0 r (by omega) _ (by have := R2.out.row; rwa [HN.out] at this) (by have := A2.out.row; rwa [HN.out] at this)).mono ?_
    rintro e w3 ⟨rfl, hb3⟩
    have R3 := Lib.hid (R2.out.below hb3)
    have B3 := Lib.hid (B2.out.trans (hb3.mono B2.out.size))
    clear hb3
    go_wp2_with fail
    refine (markCellS_at (.slice ad1 n cap1) 1 w1.heap.size r _ (by have := R3.out; unfold OwnC at this; rw [HN.out] at this ⊢; exact this) (by omega) (by rw [HN.out]; omega) B3.out.size).mono ?_
    rw [HN.out]
    rintro e w4 ⟨rfl, r4, b4⟩
    have Y4 := Lib.hid (And.intro r4 (B3.out.trans b4))
    clear r4 b4
    go_wp2_with fail
    refine (heldCellS_at (.slice ad1 n cap1) 1 _ n _ Y4.out.1 (by omega) (by omega)).mono ?_
    rintro e w5 ⟨rfl, b5⟩
    have Y5 := Lib.hid (And.intro (row5_below Y4.out.1 b5) (Y4.out.2.trans (b5.mono Y4.out.2.size)))
    clear b5
    go_wp2_with fail
    refine (implGetBlock a0 a1 q0 _).mono ?_
    rintro e w6 ⟨v2, r', ok', rfl, hg', ho6, hb6⟩
    obtain ⟨rfl, rfl⟩ := got_one HG.out hg'
    obtain ⟨ad2, cap2, rfl⟩ := own_slice ho6
    have Y6 := Lib.hid (And.intro (row5_below Y5.out.1 hb6) (Y5.out.2.trans (hb6.mono Y5.out.2.size)))
    have A6 := Lib.hid (Y1.out.below Y6.out.2)
    have R6 := Lib.hid ho6
    clear ho6 hb6 hg'
    rw [HN.out]
    go_wp2_with fail
    refine (eqCellS_same ad2 ad0 n cap2 cap0 r (by omega) _ (by have := R6.out.row; rwa [HN.out] at this) (by have := A6.out.row; rwa [HN.out] at this)).mono ?_
    rintro e w7 ⟨rfl, b7⟩
    have Y7 := Lib.hid (And.intro (row5_below Y6.out.1 b7) (Y6.out.2.trans (b7.mono Y6.out.2.size)))
    clear b7
    go_wp2_with fail
    refine (heldCellS_at (.slice ad1 n cap1) 1 _ n _ Y7.out.1 (by omega) (by omega)).mono ?_
    rintro e w8 ⟨rfl, b8⟩
    have Y8 := Lib.hid (B1.out.trans ((Y7.out.2.trans (b8.mono Y7.out.2.size)).mono B1.out.size))
    clear b8
    go_wp2
    go_ret
    exact ⟨rfl, Y8.out⟩
  · go_enter Try.func10, Try.ntmps10
    go_wp2
    go_ret
    exact ⟨rfl, Below.refl _ _⟩
end Go.Proofs.Ytgonnibakkabjaa
