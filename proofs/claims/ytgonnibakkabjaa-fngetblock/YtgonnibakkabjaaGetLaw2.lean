/- The walk of the law FnGetBlock: what is read is put so, and only so. -/
import Derived.Test.YtgonnibakkabjaaDrawBlk
import Derived.Test.YtgonnibakkabjaaGetA
import Derived.Test.YtgonnibakkabjaaSameCels
import Derived.Test.YtgonnibakkabjaaCellsOkI
import Derived.Test.YtgonnibakkabjaaLawA
namespace Go.Proofs.Ytgonnibakkabjaa
open Go.RowKit
set_option linter.unusedVariables false

set_option maxHeartbeats 4000000 in
set_option maxRecDepth 100000 in
theorem fnGetBlock_walk (a0 : Option Addr) (len0 cap0 : Nat) (z0 : List Int) (w : World) (w0 : IsRow .u8 w a0 len0 cap0 z0) :
    Calls Try.prog 4 #[.slice a0 len0 cap0] w fun e w' => e = .returned (.bool true) ∧ Below w.heap.size w w' := by
  have HR := Lib.hid (bytes_of_row w0 w.heap.size (Nat.le_refl _))
  clear w0
  by_cases hbig : len0 ≤ 1048576
  · go_enter Try.func4, Try.ntmps4
    go_wp2_with fail
    refine (big_no a0 len0 cap0 _ hbig).mono ?_
    rintro e w1 ⟨rfl, rfl⟩
    go_wp2_with fail
    refine (drawGetBlock_at a0 len0 cap0 z0 _ HR.out).mono ?_
    rintro e w1 ⟨s, ev, rfl, hs, b1⟩
    have B1 := Lib.hid b1
    have hs20 : s.size ≤ 1048576 := by omega
    clear b1
    go_wp2_with fail
    refine (implGetBlock s ev hs20 _).mono ?_
    rintro e w2 ⟨v1, l, ok, rfl, hg, ho2, b2⟩
    have HG := Lib.hid hg
    obtain ⟨ad1, cap1, rfl⟩ := own_slice ho2
    have hlen := (got_few hg).1
    obtain ⟨n, hn⟩ : ∃ n, l.length = n := ⟨_, rfl⟩
    have R2 := Lib.hid ho2
    have B2 := Lib.hid (B1.out.trans (b2.mono B1.out.size))
    have hbb : (ok != ok) = false := by simp
    clear ho2 b2 hg
    rw [hn]
    go_wp2_with fail
    refine (specGetBlock s ev hs20 _).mono ?_
    rintro e w3 ⟨v2, l', ok', rfl, hg', ho3, b3⟩
    obtain ⟨rfl, rfl⟩ := got_one HG.out hg'
    obtain ⟨ad2, cap2, rfl⟩ := own_slice ho3
    rw [hn]
    have R3 := Lib.hid (R2.out.below b3)
    have Y3 := Lib.hid ho3
    have B3 := Lib.hid (B2.out.trans (b3.mono B2.out.size))
    clear hg' ho3 b3
    have HN := Lib.hid hn
    rw [hn] at hlen
    clear hn
    go_wp2_with fail
    refine (sameCells_same ad1 ad2 n cap1 cap2 l (by omega) _ (by have := R3.out.row; rwa [HN.out] at this) (by have := Y3.out.row; rwa [HN.out] at this)).mono ?_
    rintro e w4 ⟨rfl, b4⟩
    have R4 := Lib.hid (R3.out.below b4)
    have B4 := Lib.hid (B3.out.trans (b4.mono B3.out.size))
    clear b4
    rcases HG.out with ⟨rfl, h1, h2⟩ | ⟨rfl, rfl, h1⟩
    · have HP := Lib.hid (as_text h1.symm)
      have HF := Lib.hid (got_fit HG.out)
      have HOK := Lib.hid (got_few HG.out).2
      clear h1 h2
      have hsame := same_beq s
      go_wp2_with fail
      refine (implPutBlock ad1 n cap1 l ev (by omega) HF.out _ (by have := R4.out.row; rwa [HN.out] at this)).mono ?_
      rintro e w5 ⟨rfl, b5⟩
      rw [HP.out]
      have R5 := Lib.hid (R4.out.below b5)
      have B5 := Lib.hid (B4.out.trans (b5.mono B4.out.size))
      clear b5
      go_wp2_with fail
      refine (implCellsOk ad1 n cap1 l (by omega) HF.out _ (by have := R5.out.row; rwa [HN.out] at this)).mono ?_
      rw [HOK.out]
      rintro e w6 ⟨rfl, b6⟩
      have B6 := Lib.hid (B5.out.trans (b6.mono B5.out.size))
      clear b6
      go_wp2
      go_ret
      exact ⟨ret_bool (by simp), B6.out⟩
    · obtain rfl : n = 0 := HN.out.symm
      go_wp2
      go_ret
      exact ⟨ret_bool (by simp), B4.out⟩
  · go_enter Try.func4, Try.ntmps4
    go_wp2_with fail
    refine (big_yes a0 len0 cap0 _ hbig).mono ?_
    rintro e w1 ⟨rfl, rfl⟩
    go_wp2
    go_ret
    exact ⟨rfl, Below.refl _ _⟩
end Go.Proofs.Ytgonnibakkabjaa
