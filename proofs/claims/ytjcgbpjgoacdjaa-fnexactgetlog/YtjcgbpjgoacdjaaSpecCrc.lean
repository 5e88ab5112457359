/- Contract of the model's Crc. -/
import Derived.Test.YtjcgbpjgoacdjaaProg
import Derived.Test.YtjcgbpjgoacdjaaZ0
import Derived.Laws.BitsAllLaws
namespace Go.Proofs.Ytjcgbpjgoacdjaa
open Go.RowKit
set_option linter.unusedVariables false

theorem and_one (x : Nat) (h : x < 4294967296) : bits .and .u32 (x : Int) 1 = ((x % 2 : Nat) : Int) := by
 have := u32_and_nat x 1 h (by omega)
 rw [show ((1 : Nat) : Int) = 1 from rfl] at this
 rw [this, Nat.and_one_is_mod]
theorem stp_odd {x : Nat} (h : x < 4294967296) (h1 : x % 2 = 1) : bits .xor .u32 ((x : Int) / 2) 2197175160 = ((stp x : Nat) : Int) := by
 have := u32_xor_nat (x / 2) 2197175160 (by omega) (by omega)
 have e : ((x / 2 : Nat) : Int) = (x : Int) / 2 := by omega
 rw [e, show ((2197175160 : Nat) : Int) = 2197175160 from rfl] at this
 rw [this]
 unfold stp poly
 rw [if_pos h1]
theorem stp_even {x : Nat} (h1 : x % 2 = 0) : (x : Int) / 2 = ((stp x : Nat) : Int) := by
 unfold stp
 rw [if_neg (by omega), Nat.xor_zero]
 omega
theorem stN_snoc (n x : Nat) : stN (n + 1) x = stp (stN n x) := by
 rw [stN_add n 1]; rfl
theorem crc_turn (x : Nat) (h : x < 4294967296) : bits .xor .u32 4294967295 (x : Int) = ((4294967295 - x : Nat) : Int) := by
 have h1 := u32_xor_nat 4294967295 x (by omega) h
 rw [show ((4294967295 : Nat) : Int) = 4294967295 from rfl] at h1
 rw [h1]
 congr 1
 have e : (4294967295 : Nat) = 2 ^ 32 - 1 := by decide
 apply Nat.eq_of_testBit_eq
 intro i
 rw [Nat.testBit_xor, e, Nat.testBit_two_pow_sub_one, show 2 ^ 32 - 1 - x = 2 ^ 32 - (x + 1) by omega, Nat.testBit_two_pow_sub_succ (by omega)]
 by_cases hi : i < 32
 · simp [hi]
 · have : x.testBit i = false := Nat.testBit_lt_two_pow (Nat.lt_of_lt_of_le h (Nat.pow_le_pow_right (n := 2) (by omega) (by omega : 32 ≤ i)))
   simp [hi, this]
theorem crc_end (l : List UInt8) : wrap64 (bits .xor .u32 IntKind.u32.max ((crcF 4294967295 l : Nat) : Int)) = ((crc l : Nat) : Int) := by
 have h := crcF_lt l (x := 4294967295) (by omega)
 have e : IntKind.u32.max = 4294967295 := rfl
 rw [e, crc_turn _ h]
 unfold crc wrap64
 omega
theorem xor_byte (x : Nat) (c : UInt8) (h : x < 4294967296) : bits .xor .u32 (x : Int) (c.toNat : Int) = ((x ^^^ c.toNat : Nat) : Int) := u32_xor_nat x c.toNat h (by have := c.toNat_lt; omega)
theorem xor_byte_lt (x : Nat) (c : UInt8) (h : x < 4294967296) : x ^^^ c.toNat < 4294967296 := by
 have hc := c.toNat_lt
 have : x ^^^ c.toNat < 2 ^ 32 := Nat.xor_lt_two_pow h (by omega)
 exact this

set_option maxHeartbeats 1000000 in
theorem specCrc (s : ByteArray) (w : World) (hs : s.size ≤ maxLen) :
   Calls Try.prog 58 #[.string s] w fun e w' => e = .returned (.int .i64 (crc s.data.toList : Nat)) ∧ w = w' := by
 unfold maxLen at hs
 go_enter Try.func58, Try.ntmps58
 go_wp2_with fail
 go_loop [3, 4] (fun x i => ∃ k : Nat, k ≤ s.size ∧ i = .int .i64 k ∧ x = .int .u32 (crcF 4294967295 (s.data.toList.take k) : Nat)) (fun _ i => s.size - (intOf i).toNat)
 case atStart => exact ⟨0, Nat.zero_le _, rfl, rfl⟩
 case round =>
   obtain ⟨k, hk, rfl, rfl⟩ := hrel
   have hX := crcF_lt (s.data.toList.take k) (x := 4294967295) (by omega)
   by_cases hlt : k < s.size
   · have HS := Lib.hid (show crcF 4294967295 (s.data.toList.take (k + 1)) = crcB (crcF 4294967295 (s.data.toList.take k)) s[k] by rw [take_snoc s k hlt, crcF_snoc])
     have HB := Lib.hid (xor_byte _ s[k] hX)
     have hbl := xor_byte_lt _ s[k] hX
     have hc := s[k].toNat_lt
     generalize crcF 4294967295 (s.data.toList.take k) = X at HS HB hbl hX ⊢
     have HX := Lib.hid hX
     clear hX
     go_wp2_with fail
     rw [HB.out]
     generalize hY : X ^^^ s[k].toNat = Y at hbl ⊢
     have HY := Lib.hid hY
     have HYL := Lib.hid hbl
     clear hY hbl
     go_loop [3, 5] (fun x i => ∃ j : Nat, j ≤ 8 ∧ i = .int .i64 j ∧ x = .int .u32 (stN j Y : Nat)) (fun _ i => 8 - (intOf i).toNat)
     case atStart => exact ⟨0, by omega, rfl, rfl⟩
     case round =>
       obtain ⟨j, hj, rfl, rfl⟩ := hrel
       have hZ := stN_lt j HYL.out
       by_cases hj8 : j < 8
       · have HN := Lib.hid (stN_snoc j Y)
         generalize stN j Y = Z at hZ HN ⊢
         rcases Nat.mod_two_eq_zero_or_one Z with h2 | h2
         · have ha := and_one Z hZ
           rw [h2] at ha
           have HE := Lib.hid (stp_even h2)
           have HZ := Lib.hid hZ
           clear h2 hZ
           go_wp2
           go_round
           case rel => exact ⟨j + 1, by omega, by go_num, congrArg (Value.int IntKind.u32) (by rw [HN.out, HE.out])⟩
           case measure => simp [intOf]; omega
         · have ha := and_one Z hZ
           rw [h2] at ha
           have HE := Lib.hid (stp_odd hZ h2)
           have HZ := Lib.hid hZ
           clear h2 hZ
           go_wp2
           go_round
           case rel => exact ⟨j + 1, by omega, by go_num, congrArg (Value.int IntKind.u32) (by rw [HN.out, HE.out])⟩
           case measure => simp [intOf]; omega
       · obtain rfl : j = 8 := by omega
         have HE := Lib.hid (show stN 8 Y = crcF 4294967295 (s.data.toList.take (k + 1)) by rw [HS.out, ← HY.out]; rfl)
         clear hZ
         rw [HE.out]
         go_wp2
         go_round
         case rel => exact ⟨k + 1, by omega, by go_num, rfl⟩
         case measure => simp [intOf]; omega
   · obtain rfl : k = s.size := by omega
     have e0 : s.data.toList.take s.size = s.data.toList := List.take_of_length_le (by simp)
     rw [e0] at hX ⊢
     have HT := Lib.hid (crc_end s.data.toList)
     clear e0 hX
     go_wp2
     go_ret
     exact ⟨ret_int HT.out, rfl⟩
end Go.Proofs.Ytjcgbpjgoacdjaa
