/- Contract of the model's GetFix. -/
import Derived.Test.YtjcgbpjgoacdjaaZ0
namespace Go.Proofs.Ytjcgbpjgoacdjaa
open Go.RowKit
set_option linter.unusedVariables false

theorem fixVal_up (s : ByteArray) (a b k : Nat) (hb : k < b) (h : a + b ≤ s.size) : fixVal (((s.data.toList.drop a).take b).drop k) = fixVal (((s.data.toList.drop a).take b).drop (k + 1)) * 256 + s[a + k].toNat := by
 have hk : k < ((s.data.toList.drop a).take b).length := by simp; omega
 rw [List.drop_eq_getElem_cons hk, fixVal]
 have e : ((s.data.toList.drop a).take b)[k] = s[a + k] := by rw [List.getElem_take, List.getElem_drop]; rfl
 rw [e]
 omega
theorem fixVal_up_lt (l : List UInt8) (b k : Nat) (hb : b ≤ 4) (hk : 1 ≤ k) : fixVal ((l.take b).drop k) < 16777216 := by
 refine Nat.lt_of_lt_of_le (fixVal_lt _) ?_
 have : ((l.take b).drop k).length ≤ 3 := by rw [List.length_drop, List.length_take]; omega
 have h2 : 2 ^ (8 * ((l.take b).drop k).length) ≤ 2 ^ 24 := Nat.pow_le_pow_right (by omega) (by omega)
 exact h2

set_option maxHeartbeats 400000 in
theorem specGetFix (s : ByteArray) (a b : Int) (w : World) (hs : s.size ≤ maxLen) (ha : -9223372036854775808 ≤ a ∧ a ≤ 9223372036854775807) :
   Calls Try.prog 31 #[.string s, .int .i64 a, .int .i64 b] w (IntIs w (getFix s.data.toList a b)) := by
 unfold maxLen at hs
 have hl : s.data.toList.length = s.size := by simp
 by_cases hb : b < 1 ∨ 4 < b
 · have HR := Lib.hid (getFix_no (l := s.data.toList) (a := a) (b := b) (by rw [hl]; omega))
   have HB := Lib.hid hb
   clear hb hl
   go_enter Try.func31, Try.ntmps31
   go_wp2_with fail
   refine (specIn_no _ _ _ _ HB.out).mono ?_
   rintro e w1 ⟨rfl, rfl⟩
   go_wp2
   go_ret
   exact ⟨ret_int HR.out.symm, Below.refl _ _⟩
 · obtain ⟨b, rfl⟩ := Int.eq_ofNat_of_zero_le (by omega : 0 ≤ b)
   have h1 : 1 ≤ b := by omega
   have h4 : b ≤ 4 := by omega
   by_cases hn : a < 0 ∨ s.size - b < a
   · have HR := Lib.hid (getFix_no (l := s.data.toList) (a := a) (b := b) (by rw [hl]; omega))
     clear hb hl
     by_cases h0 : a < 0
     · clear hn
       go_enter Try.func31, Try.ntmps31
       go_wp2_with fail
       refine (specIn_yes _ _ _ _ (by omega) (by omega)).mono ?_
       rintro e w1 ⟨rfl, rfl⟩
       go_wp2
       go_ret
       exact ⟨ret_int HR.out.symm, Below.refl _ _⟩
     · have h2 : (s.size : Int) - (b : Int) < a := by omega
       clear hn
       go_enter Try.func31, Try.ntmps31
       go_wp2_with fail
       refine (specIn_yes _ _ _ _ (by omega) (by omega)).mono ?_
       rintro e w1 ⟨rfl, rfl⟩
       go_wp2
       go_ret
       exact ⟨ret_int HR.out.symm, Below.refl _ _⟩
   · obtain ⟨a, rfl⟩ := Int.eq_ofNat_of_zero_le (by omega : 0 ≤ a)
     have h5 : a + b ≤ s.size := by omega
     have h6 : (a : Int) ≤ (s.size : Int) - (b : Int) := by omega
     have HR := Lib.hid (getFix_yes (l := s.data.toList) h1 h4 (by rw [hl]; exact h5))
     clear hn hl hb
     go_enter Try.func31, Try.ntmps31
     go_wp2_with fail
     refine (specIn_yes _ _ _ _ (by omega) (by omega)).mono ?_
     rintro e w1 ⟨rfl, rfl⟩
     go_wp2_with fail
     go_loop [7, 8] (fun n i => ∃ k : Nat, k ≤ b ∧ i = .int .i64 ((k : Int) - 1) ∧ n = .int .i64 (fixVal (((s.data.toList.drop a).take b).drop k))) (fun _ i => ((intOf i) + 1).toNat)
     case atStart => exact ⟨b, Nat.le_refl _, rfl, by rw [List.drop_of_length_le (List.length_take_le _ _)]; rfl⟩
     case round =>
       obtain ⟨k, hk, rfl, rfl⟩ := hrel
       cases k with
       | zero =>
         go_wp2
         go_ret
         exact ⟨ret_int (by rw [HR.out]), Below.refl _ _⟩
       | succ k =>
         have HU := Lib.hid (fixVal_up s a b k (by omega) h5)
         have hu := fixVal_up_lt (s.data.toList.drop a) b (k + 1) h4 (by omega)
         have hc := s[a + k].toNat_lt
         have e1 : ((k + 1 : Nat) : Int) - 1 = (k : Int) := by omega
         rw [e1]
         clear e1
         have i1 : (a : Int) + (k : Int) < (s.size : Int) := by omega
         have i2 : ((a : Int) + (k : Int)).toNat = a + k := by omega
         go_wp2
         go_round
         case rel => exact ⟨k, by omega, rfl, congrArg (Value.int IntKind.i64) (by rw [HU.out]; omega)⟩
         case measure => simp [intOf]
end Go.Proofs.Ytjcgbpjgoacdjaa
