/- The program's Fragment, and what is left of a piece. -/
import Derived.Test.YtjcgbpjgoacdjaaZ0
import Derived.Test.YtjcgbpjgoacdjaaCrc
namespace Go.Proofs.Ytjcgbpjgoacdjaa
open Go.RowKit
set_option linter.unusedVariables false

theorem fix_one (k : Nat) : fixB k 1 = [UInt8.ofNat k] := by
 rw [fix_cons]
 simp [fixB]
theorem leftAt_at (n : Nat) (hn : n ≤ 4000000000000000) (w : World) : Calls Try.prog 68 #[.int .i64 n] w fun e w' => e = .returned (.int .i64 (leftAt n : Nat)) ∧ w' = w := by
 have HL := Lib.hid (show (64 : Int) - (n : Int) % 64 = ((leftAt n : Nat) : Int) by unfold leftAt; omega)
 go_enter Try.func68, Try.ntmps68
 go_wp2
 go_ret
 exact ⟨ret_int HL.out, rfl⟩
theorem gapAt_at (n : Nat) (hn : n ≤ 4000000000000000) (w : World) : Calls Try.prog 63 #[.int .i64 n] w fun e w' => e = .returned (.int .i64 (padAt n : Nat)) ∧ w' = w := by
 obtain ⟨lf, hlf⟩ : ∃ x, leftAt n = x := ⟨_, rfl⟩
 have hlf1 : 1 ≤ lf ∧ lf ≤ 64 := by rw [← hlf]; unfold leftAt; omega
 have HP := Lib.hid (show padAt n = if lf < 7 then lf else 0 by rw [← hlf]; rfl)
 have HL := Lib.hid hlf
 clear hlf
 go_enter Try.func63, Try.ntmps63
 go_wp2_with fail
 refine (leftAt_at n hn _).mono ?_
 rw [HL.out]
 rintro e w1 ⟨rfl, rfl⟩
 by_cases h7 : lf < 7
 · have h7i : (lf : Int) < 7 := by omega
   go_wp2
   go_ret
   exact ⟨ret_int (by rw [HP.out, if_pos h7]), rfl⟩
 · have h7i : ¬ (lf : Int) < 7 := by omega
   go_wp2
   go_ret
   exact ⟨ret_int (by rw [HP.out, if_neg h7]; rfl), rfl⟩
set_option maxHeartbeats 1000000 in
set_option maxRecDepth 100000 in
theorem implFragment (k : Int) (s : ByteArray) (hk : -9223372036854775808 ≤ k ∧ k ≤ 9223372036854775807) (hs : s.size ≤ maxLen) (w : World) :
   Calls Try.prog 33 #[.int .i64 k, .string s] w (TextIs w (fragment k s.data.toList)) := by
 have hsl : s.data.toList.length = s.size := by simp
 by_cases h1 : k < 1
 · have HN := Lib.hid (fragment_no (s := s.data.toList) (show k < 1 ∨ 4 < k ∨ 57 < s.data.toList.length by omega))
   go_enter Try.func33, Try.ntmps33
   go_wp2
   go_ret
   exact ⟨by rw [HN.out]; rfl, Below.refl _ _⟩
 · by_cases h4 : 4 < k
   · have HN := Lib.hid (fragment_no (s := s.data.toList) (show k < 1 ∨ 4 < k ∨ 57 < s.data.toList.length by omega))
     go_enter Try.func33, Try.ntmps33
     go_wp2
     go_ret
     exact ⟨by rw [HN.out]; rfl, Below.refl _ _⟩
   · by_cases hl : 57 < s.size
     · have hli : (57 : Int) < (s.size : Int) := by omega
       have HN := Lib.hid (fragment_no (k := k) (s := s.data.toList) (show k < 1 ∨ 4 < k ∨ 57 < s.data.toList.length by omega))
       clear hsl
       go_enter Try.func33, Try.ntmps33
       go_wp2
       go_ret
       exact ⟨by rw [HN.out]; rfl, Below.refl _ _⟩
     · obtain ⟨k, rfl⟩ := Int.eq_ofNat_of_zero_le (show 0 ≤ k by omega)
       have hli : ¬ (57 : Int) < (s.size : Int) := by omega
       have HF := Lib.hid (fragment_yes (k := k) (s := s.data.toList) (by omega) (by omega) (show s.data.toList.length ≤ 57 by omega))
       have HC := Lib.hid (crc_lt (UInt8.ofNat k :: s.data.toList))
       clear hsl
       go_enter Try.func33, Try.ntmps33
       go_wp2_with fail
       refine (implPutFix_in k 1 _ (by omega) (by omega) (by omega)).mono ?_
       rw [fix_one]
       intro e w1 h
       obtain ⟨P, hP, hPs, rfl, b1⟩ := h.text
       have hPs1 : P.size = 1 := hPs
       have hPs2 : P.size ≤ 1 := by omega
       obtain ⟨B, hB⟩ : ∃ B, P ++ s = B := ⟨_, rfl⟩
       have HBD := Lib.hid (show B.data.toList = UInt8.ofNat k :: s.data.toList by rw [← hB]; simp [hP])
       have hBs : B.size ≤ s.size + 1 := by rw [← hB, ByteArray.size_append]; omega
       have HB := Lib.hid hB
       have L1 := Lib.hid b1
       have q1 : ¬ 9223372036854775807 < P.size + s.size := by omega
       clear h hP hPs hPs1 hB b1
       go_wp2_with fail
       try rw [HB.out]
       refine (implCrc B _ (by unfold maxLen; omega)).mono ?_
       rw [HBD.out]
       rintro e w2 ⟨rfl, b2⟩
       have L2 := Lib.hid (L1.out.trans (b2.mono L1.out.size))
       clear b2
       obtain ⟨cv, hcv⟩ : ∃ c, crc (UInt8.ofNat k :: s.data.toList) = c := ⟨_, rfl⟩
       rw [hcv]
       have hc := HC.out
       rw [hcv] at hc
       have HCV := Lib.hid hcv
       clear hcv
       go_wp2_with fail
       refine (implPutFix_in cv 4 _ (by omega) (by omega) (by omega)).mono ?_
       intro e w3 h
       obtain ⟨C, hC, hCs, rfl, b3⟩ := h.text
       rw [fix_length] at hCs
       have HCC := Lib.hid hC
       have L3 := Lib.hid (L2.out.trans (b3.mono L2.out.size))
       clear h hC b3
       go_wp2_with fail
       refine (implPutFix_in s.size 2 _ (by omega) (by omega) (by omega)).mono ?_
       intro e w4 h
       obtain ⟨D, hD, hDs, rfl, b4⟩ := h.text
       rw [fix_length] at hDs
       have HDD := Lib.hid hD
       have L4 := Lib.hid (L3.out.trans (b4.mono L3.out.size))
       clear h hD b4
       have q2 : ¬ 9223372036854775807 < C.size + D.size := by omega
       have q3 : ¬ 9223372036854775807 < C.size + D.size + B.size := by omega
       have HT := Lib.hid (show (C ++ D) ++ B = ⟨(fragB k s.data.toList).toArray⟩ from bytes_ext (by
         have h1 := HCC.out
         have h2 := HDD.out
         have h3 := HBD.out
         have h4 : s.data.toList.length = s.size := by simp
         unfold fragB
         rw [h4, HCV.out]
         simp only [ByteArray.data_append, Array.toList_append, h1, h2, h3, List.append_assoc]))
       go_wp2
       go_ret
       exact ⟨by rw [HF.out, ← HT.out]; rfl, L4.out⟩
end Go.Proofs.Ytjcgbpjgoacdjaa
