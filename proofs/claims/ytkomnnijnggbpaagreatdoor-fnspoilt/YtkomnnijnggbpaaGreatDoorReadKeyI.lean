/- The library's Cut at a byte 0, and the program's ReadKey. -/
import Derived.Test.YtkomnnijnggbpaaGreatDoorShelf
import Derived.Test.YtkomnnijnggbpaaGreatDoorZ1
namespace Go.Proofs.YtkomnnijnggbpaaGreatDoor
open Go.RowKit
set_option linter.unusedVariables false

def CutIs (s : ByteArray) (w : World) (e : Ending) (w' : World) : Prop := ∃ (A B : ByteArray) (b : Bool), A.data.toList = cut1 s.data.toList ∧ B.data.toList = cut2 s.data.toList ∧ e = .returned (.tuple #[.string A, .string B, .bool b]) ∧ ∃ n, w' = w.drewN n
theorem part_take (s : ByteArray) (k : Nat) : (s.extract 0 k).data.toList = s.data.toList.take k := by
 simp only [ByteArray.data_extract, Array.toList_extract, List.extract_eq_take_drop]
 simp
theorem part_drop (s : ByteArray) (k : Nat) : (s.extract k s.size).data.toList = s.data.toList.drop k := by
 simp only [ByteArray.data_extract, Array.toList_extract, List.extract_eq_take_drop]
 rw [List.take_of_length_le (by simp)]

set_option maxHeartbeats 400000 in
theorem litCut (s : ByteArray) (hs : s.size ≤ 1048576) (w : World) : Calls Tryz.prog 167 #[.string s, .string ⟨#[0]⟩] w (CutIs s w) := by
 rcases cut_index s.data.toList with ⟨e1, e2, e3⟩ | ⟨k, e1, e2, e3, e4⟩
 · have HE := Lib.hid (And.intro e2 e3)
   have H1 := Lib.hid e1
   clear e1 e2 e3
   go_enter Tryz.func167, Tryz.ntmps167
   go_wp2_with fail
   refine (Tryz.stringslite_Index_one s 0 _).mono ?_
   rw [H1.out]
   rintro e w1 ⟨rfl, rfl⟩
   go_wp2_with fail
   exact bodyPost_ret (results_tmp3 rfl _ _ _) rfl ⟨s, ⟨#[]⟩, false, HE.out.1.symm, HE.out.2.symm, rfl, 0, rfl⟩
 · have HE := Lib.hid (And.intro e3 e4)
   have H1 := Lib.hid e1
   have hk : k < s.size := by simpa using e2
   clear e1 e2 e3 e4
   have hk0 : (0 : Int) ≤ (k : Int) := by omega
   have hk1 : (k : Int) ≤ (s.size : Int) := by omega
   have hk2 : (k : Int) + 1 ≤ (s.size : Int) := by omega
   have hk3 : ((k : Int) + 1).toNat = k + 1 := by omega
   have hk4 : (0 : Int) ≤ (k : Int) + 1 := by omega
   go_enter Tryz.func167, Tryz.ntmps167
   go_wp2_with fail
   refine (Tryz.stringslite_Index_one s 0 _).mono ?_
   rw [H1.out]
   rintro e w1 ⟨rfl, rfl⟩
   go_wp2_with fail
   go_quiet (fail)
   go_wp2_with fail
   refine bodyPost_ret (results_tmp3 rfl _ _ _) rfl ⟨s.extract 0 k, s.extract (k + 1) s.size, true, by rw [part_take, HE.out.1], by rw [part_drop, HE.out.2], rfl, _, rfl⟩

set_option maxHeartbeats 400000 in
theorem strCut (s : ByteArray) (hs : s.size ≤ 1048576) (w : World) : Calls Tryz.prog 165 #[.string s, .string ⟨#[0]⟩] w (CutIs s w) := by
 go_enter Tryz.func165, Tryz.ntmps165
 go_wp2_with fail
 refine (litCut s hs _).mono ?_
 rintro e w1 ⟨A, B, b, hA, hB, rfl, n, rfl⟩
 have HA := Lib.hid (And.intro hA hB)
 clear hA hB
 go_wp2_with fail
 exact bodyPost_ret (results_tmp3 rfl _ _ _) rfl ⟨A, B, b, HA.out.1, HA.out.2, rfl, _, rfl⟩

def ReadOut (s : ByteArray) (w : World) (e : Ending) (w' : World) : Prop := ∃ (R C : ByteArray) (t : Int), ReadIs s.data.toList R.data.toList C.data.toList t ∧ e = .returned (.tuple #[.string R, .string C, .int .i64 t]) ∧ Below w.heap.size w w'
theorem cut1_le (l : List UInt8) : (cut1 l).length ≤ l.length := (List.takeWhile_prefix _).length_le
theorem cut2_le (l : List UInt8) : (cut2 l).length ≤ l.length := by unfold cut2; simp

set_option maxHeartbeats 1000000 in
theorem implReadKey (s : ByteArray) (hs : s.size ≤ 1048576) (w : World) : Calls Tryz.prog 163 #[.string s] w (ReadOut s w) := by
 have hll : s.data.toList.length = s.size := by simp
 have HLL := Lib.hid hll
 clear hll
 go_enter Tryz.func163, Tryz.ntmps163
 go_wp2_with fail
 refine (strCut s hs _).mono ?_
 rintro e w1 ⟨R, D, b, hR, hD, rfl, n1, rfl⟩
 have hRs : R.size ≤ 1048576 := by have := cut1_le s.data.toList; rw [← hR, HLL.out] at this; simp at this; omega
 have hDs : D.size ≤ 1048576 := by have := cut2_le s.data.toList; rw [← hD, HLL.out] at this; simp at this; omega
 have HR := Lib.hid hR
 have HD := Lib.hid hD
 clear hR hD
 go_wp2_with fail
 refine (strCut D hDs _).mono ?_
 rintro e w1 ⟨C, L, b', hC, hL, rfl, n2, rfl⟩
 have hCs : C.size ≤ 1048576 := by have := cut1_le D.data.toList; rw [← hC] at this; simp at this; omega
 have hLs : L.size ≤ 1048576 := by have := cut2_le D.data.toList; rw [← hL] at this; simp at this; omega
 rw [HD.out] at hC hL
 have HC := Lib.hid hC
 have HL := Lib.hid hL
 clear hC hL HD
 go_wp2_with fail
 refine (implReversed L hLs _).mono ?_
 intro e w1 h1
 obtain ⟨S, hS, hSz, rfl, hb1⟩ := h1.text
 rw [HL.out] at hS
 have hSs : S.size ≤ 1048576 := by rw [hSz]; simpa using hLs
 have HS := Lib.hid hS
 have B1 := Lib.hid ((below_draws (B := w.heap.size) (w := w) (n1 + n2)).trans (hb1.mono (by simp)))
 clear h1 hS hSz hb1 HL
 go_wp2_with fail
 refine (implGetFix S 0 4 _ (by unfold maxLen; omega)).mono ?_
 rw [HS.out]
 rintro e w2 ⟨rfl, hb2⟩
 have B2 := Lib.hid (B1.out.trans (hb2.mono B1.out.size))
 obtain ⟨g, hg⟩ : ∃ g, getFix (cut2 (cut2 s.data.toList)).reverse 0 4 = g := ⟨_, rfl⟩
 have hgb := getFix_bd (cut2 (cut2 s.data.toList)).reverse
 have HT := Lib.hid (show rdTime s.data.toList = 1000000000 - g by unfold rdTime; rw [hg])
 rw [hg] at hgb ⊢
 clear hg hb2 HS
 by_cases he : s.data.toList = []
 · have HN := Lib.hid (read_impl_no (.inl he))
   have hem : s.toList.isEmpty = true := by rw [ByteArray.toList_eq, he]; rfl
   clear he
   go_wp2_with fail
   exact bodyPost_ret (results_tmp3 rfl _ _ _) rfl ⟨⟨#[]⟩, ⟨#[]⟩, -1, HN.out, rfl, B2.out⟩
 · have hem : s.toList.isEmpty = false := by rw [ByteArray.toList_eq, List.isEmpty_eq_false_iff]; exact he
   have HE := Lib.hid he
   clear he
   go_wp2_with fail
   refine (implKeyOf R C (1000000000 - g) (by unfold maxLen; omega) (by unfold maxLen; omega) _).mono ?_
   rw [HR.out, HC.out, ← HT.out]
   intro e w3 h3
   obtain ⟨K, hK, hKz, rfl, hb3⟩ := h3.text
   have B3 := Lib.hid (B2.out.trans (hb3.mono B2.out.size))
   clear h3 hKz hb3
   by_cases hsame : K.data.toList = s.data.toList
   · have e1 : (K.toList == s.toList) = true := by rw [ByteArray.toList_eq, ByteArray.toList_eq, hsame]; simp
     have HN := Lib.hid (read_impl_yes HE.out (by rw [← hK]; exact hsame))
     clear hsame hK
     go_wp2_with fail
     refine bodyPost_ret (results_tmp3 rfl _ _ _) rfl ⟨R, C, 1000000000 - g, by rw [HR.out, HC.out, ← HT.out]; exact HN.out, ?_, B3.out⟩
     first | rfl | (rw [HT.out]; rfl)
   · have e1 : (K.toList == s.toList) = false := by rw [ByteArray.toList_eq, ByteArray.toList_eq]; simpa using hsame
     have HN := Lib.hid (read_impl_no (.inr (by rw [← hK]; exact hsame)))
     clear hsame hK
     go_wp2_with fail
     exact bodyPost_ret (results_tmp3 rfl _ _ _) rfl ⟨⟨#[]⟩, ⟨#[]⟩, -1, HN.out, rfl, B3.out⟩
end Go.Proofs.YtkomnnijnggbpaaGreatDoor
