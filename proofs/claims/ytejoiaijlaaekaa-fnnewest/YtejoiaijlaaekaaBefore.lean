/- Contracts of the program's Before and of the model's: each tells which of two texts stands ahead, and leaves memory as it was. -/
import Derived.Test.YtejoiaijlaaekaaText
namespace Go.Proofs.Ytejoiaijlaaekaa
open Go.RowKit
set_option linter.unusedVariables false


set_option maxHeartbeats 400000 in
theorem implBefore (a b : ByteArray) (w : World) :
    Calls Try.prog 25 #[.string a, .string b] w fun e w' => e = .returned (.bool (ahead a.data.toList b.data.toList)) ∧ ∃ n, w' = w.drewN n := by
  go_enter Try.func25, Try.ntmps25
  go_wp2
  go_ret
  exact ⟨ret_bool (by rw [← ahead_less]; rw [ByteArray.toList_eq, ByteArray.toList_eq]), 0, rfl⟩

set_option maxHeartbeats 400000 in
theorem specBefore (a b : ByteArray) (w : World) (ha : a.size ≤ maxLen) (hb : b.size ≤ maxLen) :
    Calls Try.prog 53 #[.string a, .string b] w fun e w' => e = .returned (.bool (ahead a.data.toList b.data.toList)) ∧ ∃ n, w' = w.drewN n := by
  go_enter Try.func53, Try.ntmps53
  go_wp2_with fail
  refine (specShared a b _ ha hb).mono ?_
  rintro e w1 ⟨rfl, n1, rfl⟩
  have l1 := shared_le_left a.data.toList b.data.toList
  have l2 := shared_le_right a.data.toList b.data.toList
  have HA := Lib.hid (ahead_def a.data.toList b.data.toList)
  obtain ⟨k, hk⟩ : ∃ k, shared a.data.toList b.data.toList = k := ⟨_, rfl⟩
  rw [hk] at HA l1 l2 ⊢
  clear hk
  simp only [Array.length_toList, ByteArray.size_data] at l1 l2
  go_wp2_with fail
  · have h1 : k < a.size := by assumption
    have h2 : k < b.size := by assumption
    have i1 : (k : Int) < (a.size : Int) := by omega
    have i2 : (k : Int) < (b.size : Int) := by omega
    go_quiet (fail)
    go_wp2
    go_ret
    refine ⟨ret_bool ?_, _, World.drewN_drewN _ _ _⟩
    rw [HA.out, if_pos ⟨by simpa using h1, by simpa using h2⟩, List.getD_eq_getElem?_getD, List.getD_eq_getElem?_getD, byte_at a k h1, byte_at b k h2]
    simp
  · have h2 : ¬ k < b.size := by assumption
    go_ret
    exact ⟨ret_bool (by rw [HA.out, if_neg (by simp; omega)]; simp), n1, rfl⟩
  · have h1 : ¬ k < a.size := by assumption
    go_ret
    exact ⟨ret_bool (by rw [HA.out, if_neg (by simp; omega)]; simp), n1, rfl⟩
end Go.Proofs.Ytejoiaijlaaekaa
