/- Contracts of the program's Zig and Zag and of the model's. -/
import Derived.Test.YtkhpgomgaimhkaaIn
namespace Go.Proofs.Ytkhpgomgaimhkaa
open Go.RowKit
set_option linter.unusedVariables false

def zig (n : Int) : Int := if n < -1000000000 ∨ 1000000000 < n then -1 else if n < 0 then -2 * n - 1 else 2 * n
def zag (n : Int) : Int := if n < 0 ∨ 2000000000 < n then 1000000001 else if n % 2 = 1 then -((n + 1) / 2) else n / 2

theorem half_neg (n : Int) (h0 : 0 ≤ n) (h1 : n ≤ 2000000000) (h : n % 2 = 1) : wrap64 (-(n + 1).tdiv 2) = zag n := by
  unfold zag
  rw [if_neg (by omega), if_pos h, Int.tdiv_eq_ediv_of_nonneg (by omega)]
  unfold wrap64
  omega

set_option maxHeartbeats 400000 in
theorem implZig (n : Int) (w : World) : Calls Try.prog 25 #[.int .i64 n] w fun e w' => e = .returned (.int .i64 (zig n)) ∧ w = w' := by
  by_cases h1 : n < -1000000000
  · go_enter Try.func25, Try.ntmps25
    go_wp2
    go_ret
    exact ⟨ret_int (by unfold zig; rw [if_pos (by omega)]), rfl⟩
  · by_cases h2 : 1000000000 < n
    · go_enter Try.func25, Try.ntmps25
      go_wp2
      go_ret
      exact ⟨ret_int (by unfold zig; rw [if_pos (by omega)]), rfl⟩
    · have h3 : -1000000000 ≤ n := by omega
      have h4 : n ≤ 1000000000 := by omega
      clear h1 h2
      by_cases h5 : n < 0
      · go_enter Try.func25, Try.ntmps25
        go_wp2
        go_ret
        exact ⟨ret_int (by unfold zig; rw [if_neg (by omega), if_pos h5]), rfl⟩
      · go_enter Try.func25, Try.ntmps25
        go_wp2
        go_ret
        exact ⟨ret_int (by unfold zig; rw [if_neg (by omega), if_neg (by omega)]), rfl⟩

set_option maxHeartbeats 400000 in
theorem specZig (n : Int) (w : World) : Calls Try.prog 27 #[.int .i64 n] w fun e w' => e = .returned (.int .i64 (zig n)) ∧ w = w' := by
  by_cases h1 : n < -1000000000 ∨ 1000000000 < n
  · have H1 := Lib.hid h1
    clear h1
    go_enter Try.func27, Try.ntmps27
    go_wp2_with fail
    refine (specIn_no _ _ _ _ H1.out).mono ?_
    rintro e w1 ⟨rfl, rfl⟩
    go_wp2
    go_ret
    exact ⟨ret_int (by unfold zig; rw [if_pos H1.out]), rfl⟩
  · have h3 : -1000000000 ≤ n := by omega
    have h4 : n ≤ 1000000000 := by omega
    clear h1
    by_cases h5 : n < 0
    · go_enter Try.func27, Try.ntmps27
      go_wp2_with fail
      refine (specIn_yes _ _ _ _ h3 h4).mono ?_
      rintro e w1 ⟨rfl, rfl⟩
      go_wp2
      go_ret
      exact ⟨ret_int (by unfold zig; rw [if_neg (by omega), if_pos h5]), rfl⟩
    · go_enter Try.func27, Try.ntmps27
      go_wp2_with fail
      refine (specIn_yes _ _ _ _ h3 h4).mono ?_
      rintro e w1 ⟨rfl, rfl⟩
      go_wp2
      go_ret
      exact ⟨ret_int (by unfold zig; rw [if_neg (by omega), if_neg (by omega)]), rfl⟩

set_option maxHeartbeats 400000 in
theorem implZag (n : Int) (w : World) : Calls Try.prog 26 #[.int .i64 n] w fun e w' => e = .returned (.int .i64 (zag n)) ∧ w = w' := by
  by_cases h1 : n < 0
  · go_enter Try.func26, Try.ntmps26
    go_wp2
    go_ret
    exact ⟨ret_int (by unfold zag; rw [if_pos (by omega)]), rfl⟩
  · by_cases h2 : 2000000000 < n
    · go_enter Try.func26, Try.ntmps26
      go_wp2
      go_ret
      exact ⟨ret_int (by unfold zag; rw [if_pos (by omega)]), rfl⟩
    · have h3 : 0 ≤ n := by omega
      have h4 : n ≤ 2000000000 := by omega
      clear h1 h2
      by_cases h5 : n % 2 = 1
      · have h6 : (n % 2 == 1) = true := by simpa using h5
        have H5 := Lib.hid h5
        clear h5
        go_enter Try.func26, Try.ntmps26
        go_wp2
        go_ret
        exact ⟨ret_int (half_neg n h3 h4 H5.out), rfl⟩
      · have h6 : (n % 2 == 1) = false := by simpa using h5
        have H5 := Lib.hid h5
        clear h5
        go_enter Try.func26, Try.ntmps26
        go_wp2
        go_ret
        exact ⟨ret_int (by unfold zag; rw [if_neg (by omega), if_neg H5.out]), rfl⟩

set_option maxHeartbeats 400000 in
theorem specZag (n : Int) (w : World) : Calls Try.prog 28 #[.int .i64 n] w fun e w' => e = .returned (.int .i64 (zag n)) ∧ w = w' := by
  by_cases h1 : n < 0 ∨ 2000000000 < n
  · have H1 := Lib.hid h1
    clear h1
    go_enter Try.func28, Try.ntmps28
    go_wp2_with fail
    refine (specIn_no _ _ _ _ H1.out).mono ?_
    rintro e w1 ⟨rfl, rfl⟩
    go_wp2
    go_ret
    exact ⟨ret_int (by unfold zag; rw [if_pos H1.out]), rfl⟩
  · have h3 : 0 ≤ n := by omega
    have h4 : n ≤ 2000000000 := by omega
    clear h1
    by_cases h5 : n % 2 = 1
    · have h6 : (n % 2 == 1) = true := by simpa using h5
      have H5 := Lib.hid h5
      clear h5
      go_enter Try.func28, Try.ntmps28
      go_wp2_with fail
      refine (specIn_yes _ _ _ _ h3 h4).mono ?_
      rintro e w1 ⟨rfl, rfl⟩
      go_wp2
      go_ret
      exact ⟨ret_int (half_neg n h3 h4 H5.out), rfl⟩
    · have h6 : (n % 2 == 1) = false := by simpa using h5
      have H5 := Lib.hid h5
      clear h5
      go_enter Try.func28, Try.ntmps28
      go_wp2_with fail
      refine (specIn_yes _ _ _ _ h3 h4).mono ?_
      rintro e w1 ⟨rfl, rfl⟩
      go_wp2
      go_ret
      exact ⟨ret_int (by unfold zag; rw [if_neg (by omega), if_neg H5.out]), rfl⟩
end Go.Proofs.Ytkhpgomgaimhkaa
