/- Contracts of what tells names and times: the program's and the model's. -/
import Derived.Test.YtejoiaijlaaekaaProg
import Derived.Test.YtejoiaijlaaekaaBase
import Derived.Test.YtejoiaijlaaekaaIn
import Derived.Test.YtejoiaijlaaekaaCellPure
namespace Go.Proofs.Ytejoiaijlaaekaa
open Go.RowKit
set_option linter.unusedVariables false

/-- A truth; nothing has turned. -/
def TellsB (w : World) (b : Bool) (e : Ending) (w' : World) : Prop := e = .returned (.bool b) ∧ ∃ n, w' = w.drewN n

theorem byte_get (s : ByteArray) (k : Nat) (h : k < s.size) : s.data.toList[k]? = some (s[k]'h) := byte_at s k h

set_option maxHeartbeats 1000000 in
theorem implName (s : ByteArray) (hs : s.size ≤ maxLen) (w : World) : Calls Try.prog 42 #[.string s] w (TellsB w (nameOk s.data.toList)) := by
  unfold maxLen at hs
  have hl : s.data.toList.length = s.size := by simp
  by_cases h1 : s.size < 1
  · have HR := Lib.hid (name_len (l := s.data.toList) (by rw [hl]; omega))
    clear hl
    go_enter Try.func42, Try.ntmps42
    go_wp2
    go_ret
    exact ⟨ret_bool HR.out.symm, 0, rfl⟩
  by_cases h2 : 16 < s.size
  · have HR := Lib.hid (name_len (l := s.data.toList) (by rw [hl]; omega))
    clear hl
    go_enter Try.func42, Try.ntmps42
    go_wp2
    go_ret
    exact ⟨ret_bool HR.out.symm, 0, rfl⟩
  have HL := Lib.hid hl
  clear hl
  go_enter Try.func42, Try.ntmps42
  go_wp2_with fail
  go_loopw [14] (fun i wr => ∃ k : Nat, k ≤ s.size ∧ i = .int .i64 k ∧ Hid (∀ j, j < k → ∃ c, s.data.toList[j]? = some c ∧ sign c = true) ∧ ∃ n, wr = w.drewN n) (fun i _ => s.size - (intOf i).toNat)
  case atStart => exact ⟨0, Nat.zero_le _, rfl, fun j hj => absurd hj (by omega), 0, rfl⟩
  case round =>
    obtain ⟨k, hk, rfl, HJ, n, rfl⟩ := hrel
    by_cases hlt : k < s.size
    · have i1 : (k : Int) < (s.size : Int) := by omega
      have HB := Lib.hid (byte_get s k hlt)
      by_cases hc1 : s[k].toNat < 33
      · have HR := Lib.hid (name_bad HB.out (sign_no (.inl hc1)))
        go_wp2
        go_ret
        exact ⟨ret_bool HR.out.symm, _, rfl⟩
      by_cases hc2 : 126 < s[k].toNat
      · have HR := Lib.hid (name_bad HB.out (sign_no (.inr hc2)))
        go_wp2
        go_ret
        exact ⟨ret_bool HR.out.symm, _, rfl⟩
      have HS := Lib.hid (sign_yes (c := s[k]) (by omega) (by omega))
      go_wp2
      go_roundw
      case rel =>
        refine ⟨k + 1, by omega, by go_num, ?_, _, rfl⟩
        intro j hj
        by_cases hj2 : j < k
        · exact HJ.out j hj2
        · obtain rfl : j = k := by omega
          exact ⟨_, HB.out, HS.out⟩
      case measure => simp [intOf]; omega
    · obtain rfl : k = s.size := by omega
      have HR := Lib.hid (name_good (l := s.data.toList) (fun j hj => HJ.out j (by rw [HL.out] at hj; exact hj)) (by rw [HL.out]; omega) (by rw [HL.out]; omega))
      go_wp2
      go_ret
      exact ⟨ret_bool HR.out.symm, _, rfl⟩

set_option maxHeartbeats 1000000 in
theorem specName (s : ByteArray) (hs : s.size ≤ maxLen) (w : World) : Calls Try.prog 50 #[.string s] w (TellsB w (nameOk s.data.toList)) := by
  unfold maxLen at hs
  have hl : s.data.toList.length = s.size := by simp
  have HL := Lib.hid hl
  clear hl
  go_enter Try.func50, Try.ntmps50
  go_wp2_with fail
  go_loopw [3] (fun i wr => ∃ k : Nat, k ≤ s.size ∧ i = .int .i64 k ∧ Hid (∀ j, j < k → ∃ c, s.data.toList[j]? = some c ∧ sign c = true) ∧ ∃ n, wr = w.drewN n) (fun i _ => s.size - (intOf i).toNat)
  case atStart => exact ⟨0, Nat.zero_le _, rfl, fun j hj => absurd hj (by omega), 0, rfl⟩
  case round =>
    obtain ⟨k, hk, rfl, HJ, n, rfl⟩ := hrel
    by_cases hlt : k < s.size
    · have i1 : (k : Int) < (s.size : Int) := by omega
      have HB := Lib.hid (byte_get s k hlt)
      have hc0 := s[k].toNat_lt
      by_cases hc : s[k].toNat < 33 ∨ 126 < s[k].toNat
      · have HR := Lib.hid (name_bad HB.out (sign_no hc))
        have HC := Lib.hid hc
        clear hc
        go_wp2_with fail
        refine (specIn_no _ 33 126 _ (by have := HC.out; omega)).mono ?_
        rintro e w1 ⟨rfl, rfl⟩
        go_wp2
        go_ret
        exact ⟨ret_bool HR.out.symm, _, rfl⟩
      have HS := Lib.hid (sign_yes (c := s[k]) (by omega) (by omega))
      have HC := Lib.hid hc
      clear hc
      go_wp2_with fail
      refine (specIn_yes _ 33 126 _ (by have := HC.out; omega) (by have := HC.out; omega)).mono ?_
      rintro e w1 ⟨rfl, rfl⟩
      go_wp2
      go_roundw
      case rel =>
        refine ⟨k + 1, by omega, by go_num, ?_, _, rfl⟩
        intro j hj
        by_cases hj2 : j < k
        · exact HJ.out j hj2
        · obtain rfl : j = k := by omega
          exact ⟨_, HB.out, HS.out⟩
      case measure => simp [intOf]; omega
    · obtain rfl : k = s.size := by omega
      by_cases h12 : s.size < 1 ∨ 16 < s.size
      · have HR := Lib.hid (name_len (l := s.data.toList) (by rw [HL.out]; omega))
        have HC := Lib.hid h12
        clear h12
        go_wp2_with fail
        refine (specIn_no _ 1 16 _ (by have := HC.out; omega)).mono ?_
        rintro e w1 ⟨rfl, rfl⟩
        go_wp2
        go_ret
        exact ⟨ret_bool HR.out.symm, _, rfl⟩
      · have HR := Lib.hid (name_good (l := s.data.toList) (fun j hj => HJ.out j (by rw [HL.out] at hj; exact hj)) (by rw [HL.out]; omega) (by rw [HL.out]; omega))
        go_wp2_with fail
        refine (specIn_yes _ 1 16 _ (by omega) (by omega)).mono ?_
        rintro e w1 ⟨rfl, rfl⟩
        go_wp2
        go_ret
        exact ⟨ret_bool HR.out.symm, _, rfl⟩

theorem implTime (t : Int) (w : World) : Calls Try.prog 43 #[.int .i64 t] w fun e w' => e = .returned (.bool (timeOk t)) ∧ w = w' := by
  by_cases h1 : t < 0
  · have HR := Lib.hid (time_no (t := t) (.inl h1))
    go_enter Try.func43, Try.ntmps43
    go_wp2
    go_ret
    exact ⟨ret_bool HR.out.symm, rfl⟩
  by_cases h2 : 1000000000 < t
  · have HR := Lib.hid (time_no (t := t) (.inr h2))
    go_enter Try.func43, Try.ntmps43
    go_wp2
    go_ret
    exact ⟨ret_bool (by rw [HR.out]; exact decide_eq_false (by omega)), rfl⟩
  have HR := Lib.hid (time_yes (t := t) (by omega) (by omega))
  go_enter Try.func43, Try.ntmps43
  go_wp2
  go_ret
  exact ⟨ret_bool HR.out.symm, rfl⟩
theorem specTime (t : Int) (w : World) : Calls Try.prog 51 #[.int .i64 t, .int .i64 0, .int .i64 1000000000] w fun e w' => e = .returned (.bool (timeOk t)) ∧ w = w' := by
  by_cases h : t < 0 ∨ 1000000000 < t
  · rw [time_no h]
    exact specIn_no t 0 1000000000 w h
  · rw [time_yes (by omega) (by omega)]
    exact specIn_yes t 0 1000000000 w (by omega) (by omega)
end Go.Proofs.Ytejoiaijlaaekaa
