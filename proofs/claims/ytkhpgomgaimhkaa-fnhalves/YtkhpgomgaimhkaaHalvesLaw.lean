/- The walk of the law FnHalves. -/
import Derived.Test.YtkhpgomgaimhkaaAt
import Derived.Test.YtkhpgomgaimhkaaBig
import Derived.Test.YtkhpgomgaimhkaaGetFix
import Derived.Test.YtkhpgomgaimhkaaPutFix
import Derived.Test.YtkhpgomgaimhkaaCrc
namespace Go.Proofs.Ytkhpgomgaimhkaa
open Go.RowKit
set_option linter.unusedVariables false

theorem get_all (N : Nat) (h : N < 4294967296) : getFix (fixB N 4) 0 4 = N := by
  have := getFix_yes (l := fixB N 4) (a := 0) (b := 4) (by omega) (by omega) (by rw [fix_length]; omega)
  have e : (fixB N 4).take 4 = fixB N 4 := List.take_of_length_le (by rw [fix_length]; omega)
  rw [List.drop_zero, e, fixVal_fix, Nat.mod_eq_of_lt (by omega)] at this
  exact this
theorem get_high (N : Nat) (h : N < 4294967296) : getFix (fixB N 4) 2 2 = (N : Int) / 65536 := by
  have := getFix_yes (l := fixB N 4) (a := 2) (b := 2) (by omega) (by omega) (by rw [fix_length]; omega)
  have e : ((fixB N 4).drop 2).take 2 = fixB (N / 65536) 2 := by
    rw [fix_add N 2 2, List.drop_left' (fix_length _ _)]
    exact List.take_of_length_le (by rw [fix_length]; omega)
  rw [e, fixVal_fix, Nat.mod_eq_of_lt (by omega)] at this
  rw [show ((2 : Nat) : Int) = 2 from rfl] at this
  rw [this]; omega
theorem get_none (N : Nat) : getFix (fixB N 4) 1 4 = -1 := getFix_no (by rw [fix_length]; omega)
theorem sum_digits : crc [49, 50, 51, 52, 53, 54, 55, 56, 57] = 3808858755 := by decide +kernel
theorem sum_a : crc [97] = 3251651376 := by decide +kernel

set_option maxHeartbeats 1000000 in
set_option maxRecDepth 100000 in
theorem fnHalves_walk (a0 : Option Addr) (len0 cap0 : Nat) (z0 : List Int) (w : World) (w0 : IsRow .u8 w a0 len0 cap0 z0) :
    Calls Try.prog 10 #[.slice a0 len0 cap0] w fun e w' => e = .returned (.bool true) ∧ Below w.heap.size w w' := by
  have hr := bytes_of_row w0 w.heap.size (Nat.le_refl _)
  have HR := Lib.hid hr
  clear hr w0
  by_cases hbig : len0 ≤ 1048576
  · go_enter Try.func10, Try.ntmps10
    go_wp2_with fail
    refine (big_no a0 len0 cap0 _ hbig).mono ?_
    rintro e w1 ⟨rfl, rfl⟩
    go_wp2_with fail
    refine (at_some a0 len0 cap0 z0 0 _ _ HR.out hbig (by omega)).mono ?_
    rintro e w1 ⟨x0, h0, rfl, rfl⟩
    go_wp2_with fail
    refine (at_some a0 len0 cap0 z0 1 _ _ HR.out hbig (by omega)).mono ?_
    rintro e w1 ⟨x1, h1, rfl, rfl⟩
    go_wp2_with fail
    refine (at_some a0 len0 cap0 z0 2 _ _ HR.out hbig (by omega)).mono ?_
    rintro e w1 ⟨x2, h2, rfl, rfl⟩
    go_wp2_with fail
    refine (at_some a0 len0 cap0 z0 3 _ _ HR.out hbig (by omega)).mono ?_
    rintro e w1 ⟨x3, h3, rfl, rfl⟩
    go_wp2_with fail
    obtain ⟨N, hN, hN2⟩ : ∃ N : Nat, ((x0 : Int) * 256 + x1) * 65536 + x2 * 256 + x3 = (N : Int) ∧ N < 4294967296 := ⟨(x0 * 256 + x1) * 65536 + x2 * 256 + x3, by omega, by omega⟩
    rw [hN]
    have HN := Lib.hid hN2
    have hN3 : (N : Int) ≤ 4294967295 := by omega
    clear hN hN2 h0 h1 h2 h3 HR
    refine (implPutFix_in N 4 _ (by omega) (by omega) (by omega)).mono ?_
    intro e w1 h
    obtain ⟨S, hS, hS4, rfl, hb⟩ := h.text
    rw [fix_length] at hS4
    have HS := Lib.hid hS
    have s4 : S.size ≤ 4 := by omega
    have B1 := Lib.hid hb
    clear hb h hS hS4
    go_wp2_with fail
    refine (implPutFix_in N 2 _ (by omega) (by omega) (by omega)).mono ?_
    intro e w2 h
    obtain ⟨P, hP, hP2, rfl, hb⟩ := h.text
    rw [fix_length] at hP2
    have HP := Lib.hid hP
    have p2 : P.size ≤ 2 := by omega
    have B2 := Lib.hid (B1.out.trans (hb.mono B1.out.size))
    clear hb B1 h hP hP2
    go_wp2_with fail
    have e16 : (N : Int) / 65536 = ((N / 65536 : Nat) : Int) := by omega
    rw [e16]
    refine (implPutFix_in (N / 65536) 2 _ (by omega) (by omega) (by omega)).mono ?_
    rw [← e16]
    clear e16
    intro e w3 h
    obtain ⟨Q, hQ, hQ2, rfl, hb⟩ := h.text
    rw [fix_length] at hQ2
    have HQ := Lib.hid hQ
    have q2 : Q.size ≤ 2 := by omega
    have B3 := Lib.hid (B2.out.trans (hb.mono B2.out.size))
    clear hb B2 h hQ hQ2
    have hb : (S.toList == (P ++ Q).toList) = true := by
      rw [ByteArray.toList_eq, ByteArray.toList_eq, HS.out]
      have h1 := HP.out
      have h2 := HQ.out
      have := fix_add N 2 2
      simp only [ByteArray.data_append, Array.toList_append, h1, h2, beq_iff_eq]
      exact this
    go_wp2_with fail
    refine (implGetFix S 0 4 _ (by unfold maxLen; omega)).mono ?_
    rw [HS.out, get_all N HN.out]
    rintro e w4 ⟨rfl, hb4⟩
    have B4 := Lib.hid (B3.out.trans (hb4.mono B3.out.size))
    clear hb4 B3
    go_wp2_with fail
    refine (implGetFix S 2 2 _ (by unfold maxLen; omega)).mono ?_
    rw [HS.out, get_high N HN.out]
    rintro e w5 ⟨rfl, hb5⟩
    have B5 := Lib.hid (B4.out.trans (hb5.mono B4.out.size))
    clear hb5 B4
    go_wp2_with fail
    refine (implGetFix S 1 4 _ (by unfold maxLen; omega)).mono ?_
    rw [HS.out, get_none N]
    rintro e w6 ⟨rfl, hb6⟩
    have B6 := Lib.hid (B5.out.trans (hb6.mono B5.out.size))
    clear hb6 B5
    go_wp2_with fail
    refine (implCrc _ _ (by unfold maxLen; decide)).mono ?_
    simp only
    rw [sum_digits]
    rintro e w7 ⟨rfl, hb7⟩
    have B7 := Lib.hid (B6.out.trans (hb7.mono B6.out.size))
    clear hb7 B6
    go_wp2_with fail
    refine (implCrc _ _ (by unfold maxLen; decide)).mono ?_
    simp only
    rw [sum_a]
    rintro e w8 ⟨rfl, hb8⟩
    have B8 := Lib.hid (B7.out.trans (hb8.mono B7.out.size))
    clear hb8 B7
    go_wp2
    go_ret
    exact ⟨rfl, B8.out⟩
  · go_enter Try.func10, Try.ntmps10
    go_wp2_with fail
    refine (big_yes a0 len0 cap0 _ hbig).mono ?_
    rintro e w1 ⟨rfl, rfl⟩
    go_wp2
    go_ret
    exact ⟨rfl, Below.refl _ _⟩
end Go.Proofs.Ytkhpgomgaimhkaa
