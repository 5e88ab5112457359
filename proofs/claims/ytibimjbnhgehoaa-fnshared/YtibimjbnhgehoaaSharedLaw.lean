/- The walk of the law FnShared. -/
import Derived.Test.YtibimjbnhgehoaaText
import Derived.Test.YtibimjbnhgehoaaDrawTwo
import Derived.Test.YtibimjbnhgehoaaBig
import Derived.Deep.RegionWith
namespace Go.Proofs.Ytibimjbnhgehoaa
open Go.RowKit
set_option linter.unusedVariables false
theorem selfShared (s : ByteArray) (hs : s.size ≤ 10) (w : World) : Calls Try.prog 22 #[.string s, .string s] w fun e w' => e = .returned (.int .i64 s.size) ∧ ∃ m, w' = w.drewN m := by
  refine (implShared s s w (by unfold maxLen; omega) (by unfold maxLen; omega)).mono ?_
  rintro e w' ⟨rfl, m, rfl⟩
  exact ⟨ret_int (by rw [shared_self]; simp), m, rfl⟩
theorem moreShared (s t : ByteArray) (hs : s.size ≤ 10) (ht : t.size ≤ 10) (w : World) : Calls Try.prog 22 #[.string (s ++ t), .string s] w fun e w' => e = .returned (.int .i64 s.size) ∧ ∃ m, w' = w.drewN m := by
  refine (implShared (s ++ t) s w (by rw [ByteArray.size_append]; unfold maxLen; omega) (by unfold maxLen; omega)).mono ?_
  rintro e w' ⟨rfl, m, rfl⟩
  refine ⟨ret_int ?_, m, rfl⟩
  have e : (s ++ t).data.toList = s.data.toList ++ t.data.toList := by simp
  rw [e, shared_more]; simp
theorem head_same (s t : ByteArray) (k : Nat) (h : s.data.toList.take k = t.data.toList.take k) : s.extract 0 k = t.extract 0 k := by
  apply bytes_ext
  simp only [ByteArray.data_extract, Array.toList_extract, List.extract_eq_take_drop, List.drop_zero, Nat.sub_zero]
  exact h

set_option maxHeartbeats 1000000 in
theorem fnShared_walk (a0 : Option Addr) (len0 cap0 : Nat) (z0 : List Int) (w : World) (w0 : IsRow .u8 w a0 len0 cap0 z0) :
    Calls Try.prog 5 #[.slice a0 len0 cap0] w fun e w' => e = .returned (.bool true) ∧ Below w.heap.size w w' := by
  have hr := bytes_of_row w0 w.heap.size (Nat.le_refl _)
  have HR := Lib.hid hr
  clear hr w0
  by_cases hbig : len0 ≤ 1048576
  · go_enter Try.func5, Try.ntmps5
    go_wp2_with fail
    refine (big_no a0 len0 cap0 _ hbig).mono ?_
    rintro e w1 ⟨rfl, rfl⟩
    go_wp2_with fail
    refine (drawShared_at a0 len0 cap0 z0 _ HR.out).mono ?_
    rintro e w1 ⟨s, t, hs, ht, rfl, hb⟩
    have HB := Lib.hid hb
    have l1 := shared_le_left s.data.toList t.data.toList
    have l2 := shared_le_right s.data.toList t.data.toList
    simp only [Array.length_toList, ByteArray.size_data] at l1 l2
    have HC := Lib.hid (shared_comm t.data.toList s.data.toList)
    have HS := Lib.hid (shared_self s.data.toList)
    have HT := Lib.hid (shared_take s.data.toList t.data.toList)
    have HP := Lib.hid (shared_part s.data.toList t.data.toList)
    clear hb
    go_wp2_with fail
    refine (implShared s t _ (by unfold maxLen; omega) (by unfold maxLen; omega)).mono ?_
    rintro e w2 ⟨rfl, hw⟩
    have HB2 := Lib.hid (HB.out.trans (draws_below hw _))
    clear hw HB
    go_wp2_with fail
    refine (specShared s t _ (by unfold maxLen; omega) (by unfold maxLen; omega)).mono ?_
    rintro e w3 ⟨rfl, hw⟩
    have HB3 := Lib.hid (HB2.out.trans (draws_below hw _))
    clear hw HB2
    go_wp2_with fail
    refine (implShared t s _ (by unfold maxLen; omega) (by unfold maxLen; omega)).mono ?_
    rintro e w4 ⟨rfl, hw⟩
    have HB4 := Lib.hid (HB3.out.trans (draws_below hw _))
    clear hw HB3
    rw [HC.out]
    obtain ⟨k, hk⟩ : ∃ k, shared s.data.toList t.data.toList = k := ⟨_, rfl⟩
    rw [hk] at l1 l2 HT HP ⊢
    clear hk
    have hh := head_same s t k HT.out
    have hq : ((s.extract 0 k).toList == (t.extract 0 k).toList) = true := by rw [hh]; simp
    clear hh
    by_cases k1 : k = s.size
    · have b1 : ((k : Int) == (s.size : Int)) = true := by simp; omega
      clear k1
      go_wp2_with fail
      go_quiet (first | (go_at_call_of 22 (Value.string (s ++ t)); exact Calls.quiet_of (moreShared s t hs ht _)) | (go_at_call_of 22 (Value.string s); exact Calls.quiet_of (selfShared s hs _)))
      go_wp2
      go_ret
      exact ⟨rfl, HB4.out.trans (below_draws _)⟩
    · have b1 : ((k : Int) == (s.size : Int)) = false := by simp; omega
      by_cases k2 : k = t.size
      · have b2 : ((k : Int) == (t.size : Int)) = true := by simp; omega
        clear k1 k2
        go_wp2_with fail
        go_quiet (first | (go_at_call_of 22 (Value.string (s ++ t)); exact Calls.quiet_of (moreShared s t hs ht _)) | (go_at_call_of 22 (Value.string s); exact Calls.quiet_of (selfShared s hs _)))
        go_wp2
        go_ret
        exact ⟨rfl, HB4.out.trans (below_draws _)⟩
      · have b2 : ((k : Int) == (t.size : Int)) = false := by simp; omega
        have j1 : k < s.size := by omega
        have j2 : k < t.size := by omega
        have i1 : (k : Int) < (s.size : Int) := by omega
        have i2 : (k : Int) < (t.size : Int) := by omega
        have hp := HP.out (by simpa using j1) (by simpa using j2)
        rw [List.getD_eq_getElem?_getD, List.getD_eq_getElem?_getD, byte_at s k j1, byte_at t k j2] at hp
        simp only [Option.getD_some] at hp
        have b3 : ((s[k].toNat : Int) != (t[k].toNat : Int)) = true := by
          simp only [bne_iff_ne, ne_eq, Int.natCast_inj]
          exact fun e => hp (UInt8.toNat_inj.1 e)
        clear k1 k2 hp
        go_wp2_with fail
        go_quiet (first | (go_at_call_of 22 (Value.string (s ++ t)); exact Calls.quiet_of (moreShared s t hs ht _)) | (go_at_call_of 22 (Value.string s); exact Calls.quiet_of (selfShared s hs _)))
        go_wp2
        go_ret
        exact ⟨rfl, HB4.out.trans (below_draws _)⟩
  · go_enter Try.func5, Try.ntmps5
    go_wp2_with fail
    refine (big_yes a0 len0 cap0 _ hbig).mono ?_
    rintro e w1 ⟨rfl, rfl⟩
    go_wp2
    go_ret
    exact ⟨rfl, Below.refl _ _⟩
end Go.Proofs.Ytibimjbnhgehoaa
