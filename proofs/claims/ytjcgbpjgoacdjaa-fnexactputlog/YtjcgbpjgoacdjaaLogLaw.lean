/- The walks of the laws FnExactPutLog and FnLog: records come back from a log. -/
import Derived.Test.YtjcgbpjgoacdjaaZ10
import Derived.Test.YtjcgbpjgoacdjaaZ3
import Derived.Test.YtjcgbpjgoacdjaaSameStrs
import Derived.Test.YtjcgbpjgoacdjaaDrawLog
import Derived.Test.YtjcgbpjgoacdjaaZ0
import Derived.Test.YtjcgbpjgoacdjaaBig
namespace Go.Proofs.Ytjcgbpjgoacdjaa
open Go.RowKit
set_option linter.unusedVariables false

theorem lists_one {xs ys : List ByteArray} (h : lists xs = lists ys) : xs = ys := (List.map_inj_right (fun x y e => bytes_ext e)).1 h
set_option maxHeartbeats 2000000 in
set_option maxRecDepth 100000 in
theorem fnExactPutLog_walk (w : World) (a : Option Addr) (len cap : Nat) (xs : List ByteArray) (w0 : StrsIn w a len cap xs) :
   Calls Try.prog 13 #[.slice a len cap] w fun e w' => e = .returned (.bool true) ∧ Below w.heap.size w w' := by
 have HA := Lib.hid (strs_at w0)
 clear w0
 have HF := Lib.hid HA.out.2.2.2.1
 have HL := Lib.hid HA.out.1
 obtain ⟨A, hA⟩ : ∃ A : ByteArray, (⟨(putLogB (lists xs)).toArray⟩ : ByteArray) = A := ⟨_, rfl⟩
 have HAT := Lib.hid hA
 clear hA
 go_enter Try.func13, Try.ntmps13
 go_wp2_with fail
 refine (szStringS_at a len cap xs 1048576 (by omega) (by omega) _ HA.out).mono ?_
 rintro e w1 ⟨m, rfl, hm, rfl⟩
 rcases hm with rfl | ⟨hm0, hm1⟩
 · go_wp2
   go_ret
   exact ⟨rfl, Below.refl _ _⟩
 · have hmn : ¬ (m < 0) := by omega
   have hfew : len ≤ 1048576 := by omega
   clear hm1
   go_wp2_with fail
   refine (toStringS_at a len cap xs hfew _ HA.out).mono ?_
   rintro e w2 ⟨g, rfl, hg, hc2, hb2⟩
   have C2 := Lib.hid (hc2.row HL.out)
   have A2 := Lib.hid (HA.out.below hb2)
   have B2 := Lib.hid hb2
   clear hc2 hb2
   go_wp2_with fail
   refine (specPutLog _ len len xs hfew HF.out _ C2.out).mono ?_
   rintro e w3 ⟨rfl, hb3⟩
   rw [HAT.out]
   have A3 := Lib.hid (A2.out.below hb3)
   have B3 := Lib.hid (B2.out.trans (hb3.mono B2.out.size))
   clear hb3
   go_wp2_with fail
   refine (toStringS_at a len cap xs hfew _ A3.out).mono ?_
   rintro e w4 ⟨g4, rfl, hg4, hc4, hb4⟩
   have C4 := Lib.hid (hc4.row HL.out)
   have A4 := Lib.hid (A3.out.below hb4)
   have B4 := Lib.hid (B3.out.trans (hb4.mono B3.out.size))
   clear hc4 hb4
   go_wp2_with fail
   refine (implPutLog _ len len xs hfew HF.out _ C4.out).mono ?_
   rintro e w5 ⟨rfl, hb5⟩
   rw [HAT.out]
   have C5 := Lib.hid (C4.out.below hb5)
   have A5 := Lib.hid (A4.out.below hb5)
   have B5 := Lib.hid (B4.out.trans (hb5.mono B4.out.size))
   have hsame : (A.toList == A.toList) = true := by simp
   clear hb5
   go_wp2_with fail
   refine (toStringS_at a len cap xs hfew _ A5.out).mono ?_
   rintro e w7 ⟨g7, rfl, hg7, hc7, hb7⟩
   have C7 := Lib.hid (C5.out.below hb7)
   have D7 := Lib.hid (hc7.row HL.out)
   have B7 := Lib.hid (B5.out.trans (hb7.mono B5.out.size))
   clear hc7 hb7
   go_wp2_with fail
   refine (eqStrs_same _ _ len len len xs hfew _ C7.out D7.out).mono ?_
   rintro e w8 ⟨rfl, hb8⟩
   have B8 := Lib.hid (B7.out.trans (hb8.mono B7.out.size))
   clear hb8
   go_wp2
   go_ret
   exact ⟨rfl, B8.out⟩
set_option maxHeartbeats 4000000 in
set_option maxRecDepth 100000 in
theorem fnLog_walk (a0 : Option Addr) (len0 cap0 : Nat) (z0 : List Int) (w : World) (w0 : IsRow .u8 w a0 len0 cap0 z0) :
   Calls Try.prog 3 #[.slice a0 len0 cap0] w fun e w' => e = .returned (.bool true) ∧ Below w.heap.size w w' := by
 have HR := Lib.hid (bytes_of_row w0 w.heap.size (Nat.le_refl _))
 clear w0
 by_cases hbig : len0 ≤ 1048576
 · go_enter Try.func3, Try.ntmps3
   go_wp2_with fail
   refine (big_no a0 len0 cap0 _ hbig).mono ?_
   rintro e w1 ⟨rfl, rfl⟩
   go_wp2_with fail
   refine (drawPutLog_at a0 len0 cap0 z0 _ HR.out).mono ?_
   rintro e w1 ⟨ad, n, c, xs, rfl, hn, row1, hsz, b1⟩
   have R1 := Lib.hid row1
   have HL := Lib.hid row1.1
   have hnc := row1.2.1
   have B1 := Lib.hid b1
   have HSZ := Lib.hid hsz
   have HF := Lib.hid (show FitS xs from fun x hx => Nat.le_trans (hsz x hx) (by unfold maxLen; omega))
   obtain ⟨S, hS, hSl⟩ := text_of (putLogB (lists xs))
   have HS := Lib.hid hS
   have hSs : S.size ≤ 41000 := by
     rw [hSl]
     unfold putLogB
     split
     · rename_i hok
       have h2 := log_short hok 0
       rw [lists_len, HL.out] at h2
       unfold logB
       omega
     · simp
   have hsame : (S.toList == S.toList) = true := by simp
   clear row1 b1 hsz hS hSl
   go_wp2_with fail
   refine (implPutLog ad n c xs (by omega) HF.out _ R1.out).mono ?_
   intro e w2 h2
   obtain ⟨Y, hY, _, rfl, b2⟩ := h2.text
   rw [← HS.out] at hY
   obtain rfl : Y = S := bytes_ext hY
   have R2 := Lib.hid (R1.out.below b2)
   have B2 := Lib.hid (B1.out.trans (b2.mono B1.out.size))
   clear h2 hY b2
   go_wp2_with fail
   refine (specPutLog ad n c xs (by omega) HF.out _ R2.out).mono ?_
   intro e w3 h3
   obtain ⟨Z, hZ, _, rfl, b3⟩ := h3.text
   rw [← HS.out] at hZ
   obtain rfl : Z = Y := bytes_ext hZ
   have R3 := Lib.hid (R2.out.below b3)
   have B3 := Lib.hid (B2.out.trans (b3.mono B2.out.size))
   clear h3 hZ b3
   go_wp2_with fail
   go_loopw [5] (fun ii wr => ∃ i : Nat, i ≤ n ∧ ii = .int .i64 i ∧ Hid (recsOk (lists (xs.take i))) ∧ Hid (Below w3.heap.size w3 wr)) (fun ii _ => n - (intOf ii).toNat)
   case atStart => exact ⟨0, Nat.zero_le _, rfl, fun r hr => by simp [lists] at hr, Below.refl _ _⟩
   case round =>
     obtain ⟨i, hi, rfl, HOK, HB⟩ := hrel
     by_cases hlt : i < n
     · obtain ⟨x, hx⟩ : ∃ x, xs[i]? = some x := ⟨_, List.getElem?_eq_getElem (by rw [HL.out]; exact hlt)⟩
       obtain ⟨g, hg, c0'⟩ := R3.out.2.2 i x hx
       subst hg
       have c0 := (HB.out.cell (p := ⟨g, i, none⟩) (cell_lt c0')).trans c0'
       have HTK := Lib.hid (show lists (xs.take (i + 1)) = lists (xs.take i) ++ [x.data.toList] by rw [take_next hx, lists_snoc])
       have HXX := Lib.hid (lists_at hx)
       have hxl : x.data.toList.length = x.size := by simp
       have i1 : (i : Int) < (n : Int) := by omega
       have i0 : (0 : Int) ≤ (i : Int) := by omega
       clear hx c0'
       by_cases h300 : x.size ≤ 300
       · have h3i : ¬ (300 : Int) < (x.size : Int) := by omega
         have HOK2 := Lib.hid (show recsOk (lists (xs.take (i + 1))) by rw [HTK.out]; exact recs_snoc HOK.out (by omega))
         go_wp2
         go_roundw
         case rel => exact ⟨i + 1, by omega, by go_num, HOK2.out, HB.out⟩
         case measure => simp [intOf]; omega
       · have h3i : (300 : Int) < (x.size : Int) := by omega
         have hem : Z.toList.isEmpty = true := by
           rw [ByteArray.toList_eq, HS.out]
           unfold putLogB
           rw [if_neg]
           · rfl
           · intro hok
             have := hok x.data.toList (List.mem_of_getElem? HXX.out)
             omega
         go_wp2
         go_ret
         exact ⟨rfl, B3.out.trans (HB.out.mono B3.out.size)⟩
     · obtain rfl : i = n := by omega
       have h3 : ¬ (i : Int) < (i : Int) := by omega
       have HE := Lib.hid (show xs.take i = xs from List.take_of_length_le (by rw [HL.out]; exact Nat.le_refl _))
       have HALL := Lib.hid (show recsOk (lists xs) by have := HOK.out; rwa [HE.out] at this)
       have HLB := Lib.hid (show logB (lists xs) = Z.data.toList by rw [HS.out, putLogB, if_pos HALL.out])
       have R4 := Lib.hid (R3.out.below HB.out)
       have B4 := Lib.hid (B3.out.trans (HB.out.mono B3.out.size))
       go_wp2_with fail
       refine (implGetLog Z (by omega) _).mono ?_
       rintro e w5 ⟨v5, ys, b, rfl, hli, o5, b5⟩
       obtain ⟨e1, rfl⟩ := logIs_one hli (.inl ⟨rfl, HALL.out, HLB.out⟩)
       obtain rfl : ys = xs := lists_one e1
       obtain ⟨ad5, c5, rfl⟩ := o5.form
       have O5 := Lib.hid o5.row
       have R5 := Lib.hid (R4.out.below b5)
       have B5 := Lib.hid (B4.out.trans (b5.mono B4.out.size))
       clear hli e1 o5 b5
       rw [HL.out] at O5 ⊢
       go_wp2_with fail
       refine (implRecover Z (by omega) _).mono ?_
       rintro e w6 ⟨v6, zs, rfl, hlo, o6, b6⟩
       obtain rfl : zs = ys := lists_one (longest_one hlo (by rw [← HLB.out]; exact longest_log HALL.out))
       obtain ⟨ad6, c6, rfl⟩ := o6.form
       have O6 := Lib.hid o6.row
       have P6 := Lib.hid (O5.out.below b6)
       have R6 := Lib.hid (R5.out.below b6)
       have B6 := Lib.hid (B5.out.trans (b6.mono B5.out.size))
       have HZL := Lib.hid (show (logB (lists zs)).length = Z.size by rw [HLB.out]; simp)
       clear hlo o6 b6
       rw [HL.out] at O6 ⊢
       rw [HZL.out]
       go_wp2_with fail
       refine (sameStrs_same ad5 ad i c5 c zs (by omega) _ P6.out R6.out).mono ?_
       rintro e w7 ⟨rfl, b7⟩
       have O7 := Lib.hid (O6.out.below b7)
       have R7 := Lib.hid (R6.out.below b7)
       have B7 := Lib.hid (B6.out.trans (b7.mono B6.out.size))
       clear b7
       go_wp2_with fail
       refine (sameStrs_same ad6 ad i c6 c zs (by omega) _ O7.out R7.out).mono ?_
       rintro e w8 ⟨rfl, b8⟩
       have B8 := Lib.hid (B7.out.trans (b8.mono B7.out.size))
       clear b8
       go_wp2
       go_ret
       exact ⟨rfl, B8.out⟩
 · go_enter Try.func3, Try.ntmps3
   go_wp2_with fail
   refine (big_yes a0 len0 cap0 _ (by omega)).mono ?_
   rintro e w1 ⟨rfl, rfl⟩
   go_wp2
   go_ret
   exact ⟨rfl, Below.refl _ _⟩
end Go.Proofs.Ytjcgbpjgoacdjaa
