/- The walk of the law FnVarOrder. -/
import Derived.Test.YtkhpgomgaimhkaaAt
import Derived.Test.YtkhpgomgaimhkaaBig
import Derived.Test.YtkhpgomgaimhkaaVarAs
namespace Go.Proofs.Ytkhpgomgaimhkaa
open Go.RowKit
set_option linter.unusedVariables false

/-- The second number of the law. -/
theorem second (n k : Nat) (hn : n < 16777216) (hk : k < 40) : ∃ m : Nat, bits .or .i64 (bits .and .i64 (wrap64 ((n : Int) * 2 ^ k)) 4611686018427387903) (n : Int) = (m : Int) ∧ n ≤ m ∧ (m : Int) ≤ 4611686018427387903 := by
  have hp : 2 ^ k ≤ 2 ^ 39 := Nat.pow_le_pow_right (by omega) (by omega)
  have hm : n * 2 ^ k ≤ 16777215 * 2 ^ 39 := Nat.mul_le_mul (by omega) hp
  have e : (n : Int) * 2 ^ k = ((n * 2 ^ k : Nat) : Int) := by simp
  have e2 : wrap64 ((n * 2 ^ k : Nat) : Int) = ((n * 2 ^ k : Nat) : Int) := by unfold wrap64; omega
  have h1 := i64_and_nat (n * 2 ^ k) 4611686018427387903 (by omega) (by omega)
  rw [show ((4611686018427387903 : Nat) : Int) = 4611686018427387903 from rfl] at h1
  have hb : n * 2 ^ k &&& 4611686018427387903 < 2 ^ 62 := by
    have : n * 2 ^ k &&& 4611686018427387903 ≤ 4611686018427387903 := Nat.and_le_right
    omega
  have ho : (n * 2 ^ k &&& 4611686018427387903) ||| n < 2 ^ 62 := Nat.or_lt_two_pow hb (by omega)
  refine ⟨(n * 2 ^ k &&& 4611686018427387903) ||| n, ?_, Nat.right_le_or, by omega⟩
  rw [e, e2, h1, i64_or_nat _ _ (by omega) (by omega)]

set_option maxHeartbeats 1000000 in
set_option maxRecDepth 100000 in
theorem fnVarOrder_walk (a0 : Option Addr) (len0 cap0 : Nat) (z0 : List Int) (w : World) (w0 : IsRow .u8 w a0 len0 cap0 z0) :
    Calls Try.prog 4 #[.slice a0 len0 cap0] w fun e w' => e = .returned (.bool true) ∧ Below w.heap.size w w' := by
  have hr := bytes_of_row w0 w.heap.size (Nat.le_refl _)
  have HR := Lib.hid hr
  clear hr w0
  by_cases hbig : len0 ≤ 1048576
  · go_enter Try.func4, Try.ntmps4
    go_wp2_with fail
    refine (big_no a0 len0 cap0 _ hbig).mono ?_
    rintro e w1 ⟨rfl, rfl⟩
    go_wp2_with fail
    refine (at_some a0 len0 cap0 z0 0 _ _ HR.out hbig (by omega)).mono ?_
    rintro e w1 ⟨x0, h0, rfl, rfl⟩
    go_wp2_with fail
    refine (at_some a0 len0 cap0 z0 1 _ _ HR.out hbig (by omega)).mono ?_
    rintro e w1 ⟨x1, h1, rfl, rfl⟩
    go_wp2_with fail
    refine (at_some a0 len0 cap0 z0 2 _ _ HR.out hbig (by omega)).mono ?_
    rintro e w1 ⟨x2, h2, rfl, rfl⟩
    go_wp2_with fail
    obtain ⟨N, hN, hN2⟩ : ∃ N : Nat, ((x0 : Int) * 256 + x1) * 256 + x2 = (N : Int) ∧ N < 16777216 := ⟨(x0 * 256 + x1) * 256 + x2, by omega, by omega⟩
    rw [hN]
    clear hN h0 h1 h2
    refine (at_some a0 len0 cap0 z0 3 _ _ HR.out hbig (by omega)).mono ?_
    rintro e w1 ⟨x3, h3, rfl, rfl⟩
    clear HR
    obtain ⟨M, hM, hM1, hM2⟩ := second N (x3 % 40) hN2 (by omega)
    obtain ⟨A, hA, hAl⟩ := text_of (varB N)
    obtain ⟨B, hB, hBl⟩ := text_of (varB M)
    obtain ⟨C, hC, hCl⟩ := text_of (varB (128 * N))
    have HA := Lib.hid (show A.data.toList = putVar N by rw [hA, putVar_in (by omega)])
    have HB := Lib.hid (show B.data.toList = putVar M by rw [hB, putVar_in (by omega)])
    have HC := Lib.hid (show C.data.toList = putVar (128 * (N : Int)) by
      rw [hC, show (128 * (N : Int)) = ((128 * N : Nat) : Int) by omega, putVar_in (by omega)])
    have hAB : A.size ≤ B.size := by rw [hAl, hBl]; exact var_len_mono N M hM1
    have HLC := Lib.hid (show 0 < N → C.size = A.size + 1 by intro h; rw [hCl, hAl]; exact var_shift h)
    have ha9 : A.size ≤ 9 := by rw [hAl]; exact var_len_le 8 N (by omega)
    have HEQ := Lib.hid (show A.data.toList = B.data.toList → N = M by rw [hA, hB]; exact var_inj)
    clear hA hAl hB hBl hC hCl
    have hn3 : (N : Int) ≤ 16777215 := by omega
    go_wp2_with fail
    refine (implPutVar_as _ A HA.out _).mono ?_
    rintro e w1 ⟨rfl, hb⟩
    have B1 := Lib.hid (hb)
    clear hb
    go_wp2_with fail
    refine (implPutVar_as _ B HB.out _).mono ?_
    rintro e w2 ⟨rfl, hb⟩
    have B2 := Lib.hid (B1.out.trans (hb.mono B1.out.size))
    clear hb B1
    go_wp2_with fail
    refine (specPutVar_as _ A HA.out _).mono ?_
    rintro e w3 ⟨rfl, hb⟩
    have B3 := Lib.hid (B2.out.trans (hb.mono B2.out.size))
    clear hb B2
    go_wp2_with fail
    refine (specPutVar_as _ B HB.out _).mono ?_
    rintro e w4 ⟨rfl, hb⟩
    have B4 := Lib.hid (B3.out.trans (hb.mono B3.out.size))
    clear hb B3
    by_cases hnm : N = M
    · have hb1 : ((N : Int) == (M : Int)) = true := by simp; omega
      have hAB2 : B = A := bytes_ext (by rw [HB.out, HA.out, hnm])
      subst hAB2
      clear hnm
      go_wp2_with fail
      refine (implPutVar_as _ C HC.out _).mono ?_
      rintro e w5 ⟨rfl, hb⟩
      have B5 := Lib.hid (B4.out.trans (hb.mono B4.out.size))
      clear hb B4
      go_wp2_with fail
      refine (specPutVar_as _ C HC.out _).mono ?_
      rintro e w6 ⟨rfl, hb⟩
      have B6 := Lib.hid (B5.out.trans (hb.mono B5.out.size))
      clear hb B5
      by_cases hn0 : N = 0
      · have hz : ((N : Int) == 0) = true := by simp; omega
        clear hn0
        go_wp2_with fail
        go_ret
        exact ⟨rfl, B6.out⟩
      · have hz : ((N : Int) == 0) = false := by simp; omega
        have hlc := HLC.out (by omega)
        have hl1 : ((C.size : Int) == (B.size : Int) + 1) = true := by simp; omega
        clear hn0 hlc
        go_wp2_with fail
        refine (implPutVar_as _ C HC.out _).mono ?_
        rintro e w7 ⟨rfl, hb⟩
        have B7 := Lib.hid (B6.out.trans (hb.mono B6.out.size))
        clear hb B6
        go_wp2
        go_ret
        exact ⟨rfl, B7.out⟩
    · have hb1 : ((N : Int) == (M : Int)) = false := by simp; omega
      have hb2 : (A.toList == B.toList) = false := other_beq (fun h => hnm (HEQ.out h))
      clear hnm
      go_wp2_with fail
      refine (implPutVar_as _ C HC.out _).mono ?_
      rintro e w5 ⟨rfl, hb⟩
      have B5 := Lib.hid (B4.out.trans (hb.mono B4.out.size))
      clear hb B4
      go_wp2_with fail
      refine (specPutVar_as _ C HC.out _).mono ?_
      rintro e w6 ⟨rfl, hb⟩
      have B6 := Lib.hid (B5.out.trans (hb.mono B5.out.size))
      clear hb B5
      by_cases hn0 : N = 0
      · have hz : ((N : Int) == 0) = true := by simp; omega
        clear hn0
        go_wp2_with fail
        go_ret
        exact ⟨rfl, B6.out⟩
      · have hz : ((N : Int) == 0) = false := by simp; omega
        have hlc := HLC.out (by omega)
        have hl1 : ((C.size : Int) == (A.size : Int) + 1) = true := by simp; omega
        clear hn0 hlc
        go_wp2_with fail
        refine (implPutVar_as _ C HC.out _).mono ?_
        rintro e w7 ⟨rfl, hb⟩
        have B7 := Lib.hid (B6.out.trans (hb.mono B6.out.size))
        clear hb B6
        go_wp2
        go_ret
        exact ⟨rfl, B7.out⟩
  · go_enter Try.func4, Try.ntmps4
    go_wp2_with fail
    refine (big_yes a0 len0 cap0 _ hbig).mono ?_
    rintro e w1 ⟨rfl, rfl⟩
    go_wp2
    go_ret
    exact ⟨rfl, Below.refl _ _⟩
end Go.Proofs.Ytkhpgomgaimhkaa
