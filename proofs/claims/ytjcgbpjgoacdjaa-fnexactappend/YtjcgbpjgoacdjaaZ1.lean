/- The model's Fragment. -/
import Derived.Test.YtjcgbpjgoacdjaaZ0
import Derived.Test.YtjcgbpjgoacdjaaPutFix
import Derived.Test.YtjcgbpjgoacdjaaSpecCrc
import Derived.Deep.CutRange
namespace Go.Proofs.Ytjcgbpjgoacdjaa
open Go.RowKit
set_option linter.unusedVariables false

theorem one_text (w : World) (k : Nat) (hk : k < 256) : (convert 22 9 (.slice (some ⟨w.heap.size, 0, none⟩) 1 1)).run Try.prog (w.alloc (.cells #[.int .u8 (k : Int)] 5)) = .ok (.string ⟨#[UInt8.ofNat k]⟩) (w.alloc (.cells #[.int .u8 (k : Int)] 5)) := by
 refine str_of_cells [UInt8.ofNat k] rfl (fun j hj => ?_)
 have h0 : j = 0 := by simpa using hj
 subst h0
 have hb := alloc_at w (.cells #[.int .u8 (k : Int)] 5)
 simp only [World.cell?, hb]
 unfold u8v
 have : (UInt8.ofNat k).toNat = k := by rw [UInt8.toNat_ofNat']; exact Nat.mod_eq_of_lt (by omega)
 simp [this]
theorem u8_wrap (k : Nat) (hk : k < 256) : IntKind.u8.wrap (k : Int) = (k : Int) := by
 simp [IntKind.wrap, IntKind.bits, IntKind.signed]
 try omega
set_option maxHeartbeats 1000000 in
set_option maxRecDepth 100000 in
theorem specFragment (k : Int) (s : ByteArray) (hk : -9223372036854775808 ≤ k ∧ k ≤ 9223372036854775807) (hs : s.size ≤ maxLen) (w : World) :
   Calls Try.prog 35 #[.int .i64 k, .string s] w (TextIs w (fragment k s.data.toList)) := by
 have hsl : s.data.toList.length = s.size := by simp
 by_cases hn : k < 1 ∨ 4 < k
 · have HN := Lib.hid (fragment_no (s := s.data.toList) (show k < 1 ∨ 4 < k ∨ 57 < s.data.toList.length by omega))
   go_enter Try.func35, Try.ntmps35
   go_wp2_with fail
   refine (specIn_no k 1 4 _ hn).mono ?_
   rintro e w1 ⟨rfl, rfl⟩
   go_wp2
   go_ret
   exact ⟨by rw [HN.out]; rfl, Below.refl _ _⟩
 · obtain ⟨k, rfl⟩ := Int.eq_ofNat_of_zero_le (show 0 ≤ k by omega)
   have h1 : 1 ≤ k := by omega
   have h4 : k ≤ 4 := by omega
   by_cases hl : s.size ≤ 57
   · have HF := Lib.hid (fragment_yes h1 h4 (show s.data.toList.length ≤ 57 by omega))
     have hu := u8_wrap k (by omega)
     obtain ⟨B, hB⟩ : ∃ B, (⟨#[UInt8.ofNat k]⟩ : ByteArray) ++ s = B := ⟨_, rfl⟩
     have hBd : B.data.toList = UInt8.ofNat k :: s.data.toList := by rw [← hB]; simp
     have hBs : B.size = s.size + 1 := by rw [← hB, ByteArray.size_append]; show 1 + s.size = _; omega
     have HB := Lib.hid hB
     have HBD := Lib.hid hBd
     have HC := Lib.hid (crc_lt (UInt8.ofNat k :: s.data.toList))
     have ht := one_text w k (by omega)
     have q1 : ¬ 9223372036854775807 < 1 + s.size := by omega
     have L0 := Lib.hid (one_below w (.cells #[.int .u8 (k : Int)] 5))
     clear hB hBd hn hsl
     go_enter Try.func35, Try.ntmps35
     go_wp2_with fail
     refine (specIn_yes (k : Int) 1 4 _ (by omega) (by omega)).mono ?_
     rintro e w1 ⟨rfl, rfl⟩
     have hls : ¬ (57 : Int) < (s.size : Int) := by omega
     go_wp2_with fail
     try rw [HB.out]
     refine (specCrc B _ (by unfold maxLen; omega)).mono ?_
     rw [HBD.out]
     rintro e w1 ⟨rfl, rfl⟩
     clear ht
     go_wp2_with fail
     refine (specPutFix _ 4 _ (by have := HC.out; omega) (by have := HC.out; omega)).mono ?_
     rw [show putFix ((crc (UInt8.ofNat k :: s.data.toList) : Nat) : Int) 4 = fixB (crc (UInt8.ofNat k :: s.data.toList)) 4 from putFix_in (b := 4) (by omega) (by omega)]
     intro e w2 h2
     obtain ⟨C, hC, hCs, rfl, b2⟩ := h2.text
     rw [fix_length] at hCs
     have HCC := Lib.hid hC
     have L2 := Lib.hid (L0.out.trans (b2.mono L0.out.size))
     clear h2 hC b2
     go_wp2_with fail
     refine (specPutFix (s.size : Int) 2 _ (by omega) (by omega)).mono ?_
     rw [show putFix (s.size : Int) 2 = fixB s.size 2 from putFix_in (b := 2) (by omega) (by omega)]
     intro e w3 h3
     obtain ⟨D, hD, hDs, rfl, b3⟩ := h3.text
     rw [fix_length] at hDs
     have HDD := Lib.hid hD
     have L3 := Lib.hid (L2.out.trans (b3.mono L2.out.size))
     clear h3 hD b3
     have q2 : ¬ 9223372036854775807 < C.size + D.size := by omega
     have q3 : ¬ 9223372036854775807 < C.size + D.size + B.size := by omega
     have HT := Lib.hid (show (C ++ D) ++ B = ⟨(fragB k s.data.toList).toArray⟩ from bytes_ext (by
       have h1 := HCC.out
       have h2 := HDD.out
       have h3 := HBD.out
       have h4 : s.data.toList.length = s.size := by simp
       unfold fragB
       rw [h4]
       simp only [ByteArray.data_append, Array.toList_append, h1, h2, h3, List.append_assoc]))
     go_wp2
     go_ret
     exact ⟨by rw [HF.out, ← HT.out]; rfl, L3.out⟩
   · have HN := Lib.hid (fragment_no (k := (k : Int)) (s := s.data.toList) (show (k : Int) < 1 ∨ 4 < (k : Int) ∨ 57 < s.data.toList.length by omega))
     have hls : (57 : Int) < (s.size : Int) := by omega
     clear hsl hn
     go_enter Try.func35, Try.ntmps35
     go_wp2_with fail
     refine (specIn_yes (k : Int) 1 4 _ (by omega) (by omega)).mono ?_
     rintro e w1 ⟨rfl, rfl⟩
     go_wp2
     go_ret
     exact ⟨by rw [HN.out]; rfl, Below.refl _ _⟩
theorem rec_at_most (n : Nat) (first : Bool) (r : List UInt8) : (putRec n first r).length ≤ r.length + 13 * (2 * r.length + (if roomAt n = 0 then 1 else 0) + 1) := by
 induction n, first, r using putRec.induct with
 | case1 n first r h =>
   rw [putRec_fits h, List.length_append, frag_len, List.length_replicate]
   have := pad_le n
   omega
 | case2 n first r h ih =>
   have h1 := pad_le n
   have h2 := (room_zero (piece_end n)).2
   rw [h2, List.length_drop, if_neg (by omega)] at ih
   rw [putRec_more h, List.length_append, List.length_append, frag_len, List.length_replicate, List.length_take]
   split <;> omega
theorem rec_short {n : Nat} {first : Bool} {r : List UInt8} (h : r.length ≤ 300) : (putRec n first r).length ≤ 8200 := by
 have h1 := rec_at_most n first r
 have h2 : (if roomAt n = 0 then 1 else 0) ≤ 1 := by split <;> omega
 omega
def Putting (w : World) (L R : ByteArray) (fst : Bool) (out : List UInt8) (W : World) : Prop := L.data.toList ++ putRec L.size fst R.data.toList = out ∧ Below w.heap.size w W
theorem Putting.bound {w W : World} {L R : ByteArray} {fst : Bool} {out : List UInt8} (h : Putting w L R fst out W) : L.size + 7 + R.size ≤ out.length := by
 rw [← h.1, List.length_append]
 have h1 := rec_at_least L.size fst R.data.toList
 have h2 : L.data.toList.length = L.size := by simp
 have h3 : R.data.toList.length = R.size := by simp
 omega
theorem zero_list (n : Nat) : (⟨(List.replicate n (0 : UInt8)).toArray⟩ : ByteArray).size = n := by simp [ByteArray.size]
theorem take_of_extract (s : ByteArray) (n : Nat) : (s.extract 0 n).data.toList = s.data.toList.take n := by
 simp only [ByteArray.data_extract, Array.toList_extract, List.extract_eq_take_drop]
 simp
theorem rest_of_extract (s : ByteArray) (a : Nat) : (s.extract a s.size).data.toList = s.data.toList.drop a := by
 simp only [ByteArray.data_extract, Array.toList_extract, List.extract_eq_take_drop]
 refine List.take_of_length_le ?_
 rw [List.length_drop]
 have : s.data.toList.length = s.size := by simp
 omega
set_option maxHeartbeats 4000000 in
set_option maxRecDepth 100000 in
theorem specAppend (l r : ByteArray) (hl : l.size ≤ 1000000000000000) (hr : r.size ≤ maxLen) (w : World) :
   Calls Try.prog 28 #[.string l, .string r] w (TextIs w (appendB l.data.toList r.data.toList)) := by
 have hsr : r.data.toList.length = r.size := by simp
 have hsl : l.data.toList.length = l.size := by simp
 by_cases h300 : r.size ≤ 300
 · obtain ⟨out, ho⟩ : ∃ o, appendB l.data.toList r.data.toList = o := ⟨_, rfl⟩
   have hout : l.data.toList ++ putRec l.size true r.data.toList = out := by
     rw [← ho, appendB, if_pos (by omega), hsl]
   have hol : out.length ≤ 1000000000008200 := by
     rw [← hout, List.length_append]
     have := rec_short (n := l.size) (first := true) (r := r.data.toList) (by omega)
     omega
   have P0 := Lib.hid (show Putting w l r true out w from ⟨hout, Below.refl _ _⟩)
   have hn3 : ¬ (300 : Int) < (r.size : Int) := by omega
   rw [ho]
   clear ho hout hsr hsl
   go_enter Try.func28, Try.ntmps28
   go_wp2_with fail
   go_loopw [0, 1, 5] (fun v0 v1 v5 wr => ∃ (L R : ByteArray) (fst : Bool), v0 = .string L ∧ v1 = .string R ∧ v5 = .bool fst ∧ R.size ≤ 300 ∧ Hid (Putting w L R fst out wr)) (fun v0 v1 _ _ => match v0, v1 with | .string L, .string R => 2 * R.size + (if roomAt L.size = 0 then 1 else 0) | _, _ => 0)
   case atStart => exact ⟨l, r, true, rfl, rfl, rfl, h300, P0.out⟩
   case round =>
     obtain ⟨L, R, fst, rfl, rfl, rfl, hR, HP⟩ := hrel
     have hb := HP.out.bound
     have hLs : L.data.toList.length = L.size := by simp
     have hRs : R.data.toList.length = R.size := by simp
     obtain ⟨lf, hlf⟩ : ∃ x, leftAt L.size = x := ⟨_, rfl⟩
     have hlf1 : 1 ≤ lf ∧ lf ≤ 64 := by rw [← hlf]; unfold leftAt; omega
     have hli : (64 : Int) - (L.size : Int) % 64 = (lf : Int) := by rw [← hlf]; unfold leftAt; omega
     obtain ⟨pd, hpd⟩ : ∃ x, padAt L.size = x := ⟨_, rfl⟩
     obtain ⟨rm, hrm⟩ : ∃ x, roomAt L.size = x := ⟨_, rfl⟩
     have hpr := pad_room L.size
     have hrm57 := room_le L.size
     have hpd6 := pad_le L.size
     rw [hpd] at hpd6
     rw [hpd, hrm] at hpr
     rw [hrm] at hrm57
     have hpd2 : pd = if lf < 7 then lf else 0 := by rw [← hpd, ← hlf]; rfl
     obtain ⟨Z, hZ⟩ : ∃ Z : ByteArray, (⟨(List.replicate pd (0 : UInt8)).toArray⟩ : ByteArray) = Z := ⟨_, rfl⟩
     have hZs : Z.size = pd := by rw [← hZ]; exact zero_list pd
     have hZd : Z.data.toList = List.replicate pd 0 := by rw [← hZ]
     obtain ⟨LZ, hLZ⟩ : ∃ X, L ++ Z = X := ⟨_, rfl⟩
     have hLZs : LZ.size = L.size + pd := by rw [← hLZ, ByteArray.size_append, hZs]
     have hLZd : LZ.data.toList = L.data.toList ++ List.replicate pd 0 := by rw [← hLZ, ByteArray.data_append, Array.toList_append, hZd]
     have HPD := Lib.hid hpd
     have HRM := Lib.hid hrm
     have HLZ := Lib.hid hLZ
     have HLZD := Lib.hid hLZd
     have HZ := Lib.hid hZ
     have q1 : ¬ 9223372036854775807 < L.size + pd := by omega
     clear hpd hrm hlf hZ hZd hLZ hLZd
     go_upto_if 18 with fail
     go_cut [0, 6] from 19 to 23 (fun v0 v6 wx => v0 = .string LZ ∧ v6 = .int .i64 ((rm : Int) + 7) ∧ Below w.heap.size w wx)
     case first =>
       by_cases h7 : lf < 7
       · have h7i : (lf : Int) < 7 := by omega
         rw [if_pos h7] at hpd2
         subst hpd2
         have hrm7 : rm + 7 = 64 := by
           have h1 := hpr
           have h2 := hli
           unfold leftAt at h1
           omega
         have hm := zeros_made pd wr (by omega)
         have ht := zeros_text pd wr
         rw [HZ.out] at ht
         go_wp2_with fail
         try rw [HLZ.out]
         go_meet
         case rel => exact ⟨by first | rfl | rw [HLZ.out], by congr 1; omega, HP.out.2.trans ((one_below wr (zerosObj pd)).mono HP.out.2.size)⟩
       · have h7i : ¬ (lf : Int) < 7 := by omega
         rw [if_neg h7] at hpd2
         subst hpd2
         have hrm7 : rm + 7 = lf := by
           have h1 := hpr
           have h2 := hli
           unfold leftAt at h1
           omega
         have hLL : LZ = L := bytes_ext (by rw [HLZD.out]; simp)
         go_wp2_with fail
         go_meet
         case rel => exact ⟨by rw [hLL], by congr 1; omega, HP.out.2⟩
     case rest =>
       obtain ⟨rfl, rfl, b2⟩ := hcut
       have B2 := Lib.hid b2
       clear b2
       have hrmi : (rm : Int) + 7 - 7 = (rm : Int) := by omega
       by_cases hfit : R.size ≤ rm
       · have hfi : (R.size : Int) ≤ (rm : Int) := by omega
         have HO := Lib.hid (show LZ.data.toList ++ fragB (if fst then 1 else 4) R.data.toList = out by
           have h1 := HP.out.1
           rw [putRec_fits (by rw [HRM.out, hRs]; exact hfit), HPD.out, ← List.append_assoc, ← HLZD.out] at h1
           exact h1)
         cases fst
         · go_wp2_with fail
           refine (specFragment 4 R (by omega) (by unfold maxLen; omega) _).mono ?_
           rw [show fragment 4 R.data.toList = fragB 4 R.data.toList from fragment_yes (k := 4) (by omega) (by omega) (by omega)]
           intro e w4 h4
           obtain ⟨F, hF, hFs, rfl, b4⟩ := h4.text
           rw [frag_len, hRs] at hFs
           have HF := Lib.hid (show LZ ++ F = ⟨out.toArray⟩ from bytes_ext (by rw [ByteArray.data_append, Array.toList_append, hF]; exact HO.out))
           have B4 := Lib.hid (B2.out.trans (b4.mono B2.out.size))
           have q2 : ¬ 9223372036854775807 < LZ.size + F.size := by omega
           clear h4 hF b4
           go_wp2
           go_ret
           exact ⟨by rw [← HF.out]; rfl, B4.out⟩
         · go_wp2_with fail
           refine (specFragment 1 R (by omega) (by unfold maxLen; omega) _).mono ?_
           rw [show fragment 1 R.data.toList = fragB 1 R.data.toList from fragment_yes (k := 1) (by omega) (by omega) (by omega)]
           intro e w4 h4
           obtain ⟨F, hF, hFs, rfl, b4⟩ := h4.text
           rw [frag_len, hRs] at hFs
           have HF := Lib.hid (show LZ ++ F = ⟨out.toArray⟩ from bytes_ext (by rw [ByteArray.data_append, Array.toList_append, hF]; exact HO.out))
           have B4 := Lib.hid (B2.out.trans (b4.mono B2.out.size))
           have q2 : ¬ 9223372036854775807 < LZ.size + F.size := by omega
           clear h4 hF b4
           go_wp2
           go_ret
           exact ⟨by rw [← HF.out]; rfl, B4.out⟩
       · have hfi : ¬ (R.size : Int) ≤ (rm : Int) := by omega
         have j0 : (0 : Int) ≤ (rm : Int) := by omega
         have j1 : (rm : Int) ≤ (R.size : Int) := by omega
         obtain ⟨A, hA⟩ : ∃ X, R.extract 0 rm = X := ⟨_, rfl⟩
         obtain ⟨D, hD⟩ : ∃ X, R.extract rm R.size = X := ⟨_, rfl⟩
         have hAd : A.data.toList = R.data.toList.take rm := by rw [← hA]; exact take_of_extract R rm
         have hDd : D.data.toList = R.data.toList.drop rm := by rw [← hD]; exact rest_of_extract R rm
         have hAs : A.size = rm := by rw [← hA, ByteArray.size_extract]; omega
         have hDs : D.size = R.size - rm := by rw [← hD, ByteArray.size_extract]; omega
         have HA := Lib.hid hA
         have HD := Lib.hid hD
         have HAD := Lib.hid hAd
         have HO := Lib.hid (show LZ.data.toList ++ (fragB (if fst then 2 else 3) A.data.toList ++ putRec (LZ.size + 7 + rm) false D.data.toList) = out by
           have h1 := HP.out.1
           rw [putRec_more (by rw [HRM.out, hRs]; exact hfit), HPD.out, HRM.out, ← List.append_assoc, ← HLZD.out, ← hAd, ← hDd, ← hLZs] at h1
           exact h1)
         have HZR := Lib.hid (show roomAt (LZ.size + 7 + rm) = 57 by
           have h1 := (room_zero (piece_end L.size)).2
           rw [HPD.out, HRM.out, ← hLZs] at h1
           exact h1)
         clear hA hD hAd hDd
         cases fst
         · go_wp2_with fail
           try rw [HA.out]
           refine (specFragment 3 A (by omega) (by unfold maxLen; omega) _).mono ?_
           rw [show fragment 3 A.data.toList = fragB 3 A.data.toList from fragment_yes (k := 3) (by omega) (by omega) (by have : A.data.toList.length = A.size := (by simp); omega)]
           intro e w4 h4
           obtain ⟨F, hF, hFs, rfl, b4⟩ := h4.text
           rw [frag_len, show A.data.toList.length = A.size by simp] at hFs
           have B4 := Lib.hid (B2.out.trans (b4.mono B2.out.size))
           have q2 : ¬ 9223372036854775807 < LZ.size + F.size := by omega
           have HN := Lib.hid (show Putting w (LZ ++ F) D false out w4 from ⟨by
             rw [ByteArray.data_append, Array.toList_append, hF, ByteArray.size_append, List.append_assoc, show LZ.size + F.size = LZ.size + 7 + rm by omega]
             exact HO.out, B4.out⟩)
           have HSZ := Lib.hid (show (LZ ++ F).size = LZ.size + 7 + rm by rw [ByteArray.size_append]; omega)
           clear h4 hF b4
           go_wp2
           go_roundw
           case rel => exact ⟨LZ ++ F, D, false, rfl, by rw [HD.out], rfl, by omega, HN.out⟩
           case measure =>
             simp only [HSZ.out, HZR.out]
             have h5 := HRM.out
             rw [HD.out, hDs, h5, if_neg (show ¬ (57 = 0) by omega)]
             split <;> omega
         · go_wp2_with fail
           try rw [HA.out]
           refine (specFragment 2 A (by omega) (by unfold maxLen; omega) _).mono ?_
           rw [show fragment 2 A.data.toList = fragB 2 A.data.toList from fragment_yes (k := 2) (by omega) (by omega) (by have : A.data.toList.length = A.size := (by simp); omega)]
           intro e w4 h4
           obtain ⟨F, hF, hFs, rfl, b4⟩ := h4.text
           rw [frag_len, show A.data.toList.length = A.size by simp] at hFs
           have B4 := Lib.hid (B2.out.trans (b4.mono B2.out.size))
           have q2 : ¬ 9223372036854775807 < LZ.size + F.size := by omega
           have HN := Lib.hid (show Putting w (LZ ++ F) D false out w4 from ⟨by
             rw [ByteArray.data_append, Array.toList_append, hF, ByteArray.size_append, List.append_assoc, show LZ.size + F.size = LZ.size + 7 + rm by omega]
             exact HO.out, B4.out⟩)
           have HSZ := Lib.hid (show (LZ ++ F).size = LZ.size + 7 + rm by rw [ByteArray.size_append]; omega)
           clear h4 hF b4
           go_wp2
           go_roundw
           case rel => exact ⟨LZ ++ F, D, false, rfl, by rw [HD.out], rfl, by omega, HN.out⟩
           case measure =>
             simp only [HSZ.out, HZR.out]
             have h5 := HRM.out
             rw [HD.out, hDs, h5, if_neg (show ¬ (57 = 0) by omega)]
             split <;> omega
 · have hn3 : (300 : Int) < (r.size : Int) := by omega
   have HA := Lib.hid (show appendB l.data.toList r.data.toList = l.data.toList by rw [appendB, if_neg (by omega)])
   clear hsr hsl
   go_enter Try.func28, Try.ntmps28
   go_wp2
   go_ret
   exact ⟨by rw [HA.out]; rfl, Below.refl _ _⟩
theorem recs_snoc {rs : List (List UInt8)} {r : List UInt8} (h : recsOk rs) (hr : r.length ≤ 300) : recsOk (rs ++ [r]) := fun t ht => by
 rcases List.mem_append.1 ht with h1 | h1
 · exact h t h1
 · rw [List.mem_singleton.1 h1]; exact hr
theorem lists_snoc (xs : List ByteArray) (x : ByteArray) : lists (xs ++ [x]) = lists xs ++ [x.data.toList] := by unfold lists; simp
set_option maxHeartbeats 2000000 in
set_option maxRecDepth 100000 in
theorem specPutLog (a : Option Addr) (n c : Nat) (xs : List ByteArray) (hn : n ≤ 1048576) (hf : FitS xs) (w : World) (h : StrAt w a n c xs) :
   Calls Try.prog 19 #[.slice a n c] w (TextIs w (putLogB (lists xs))) := by
 have HR := Lib.hid h
 have HL := Lib.hid h.1
 have HF := Lib.hid hf
 have hnc := h.2.1
 clear h hf
 go_enter Try.func19, Try.ntmps19
 go_wp2_with fail
 go_loopw [3, 4] (fun vv ii wr => ∃ (i : Nat) (L : ByteArray), i ≤ n ∧ ii = .int .i64 i ∧ vv = .string L ∧ L.size ≤ 8200 * i ∧ Hid (L.data.toList = logB (lists (xs.take i)) ∧ recsOk (lists (xs.take i)) ∧ Below w.heap.size w wr)) (fun _ ii _ => n - (intOf ii).toNat)
 case atStart => exact ⟨0, ⟨#[]⟩, Nat.zero_le _, rfl, rfl, Nat.zero_le _, rfl, fun r hr => by simp [lists] at hr, Below.refl _ _⟩
 case round =>
   obtain ⟨i, L, hi, rfl, rfl, hLs, HX⟩ := hrel
   by_cases hlt : i < n
   · obtain ⟨x, hx⟩ : ∃ x, xs[i]? = some x := ⟨_, List.getElem?_eq_getElem (by rw [HL.out]; exact hlt)⟩
     obtain ⟨g, hg, c0'⟩ := HR.out.2.2 i x hx
     subst hg
     have c0 := (HX.out.2.2.cell (p := ⟨g, i, none⟩) (cell_lt c0')).trans c0'
     have hxm := HF.out x (List.mem_of_getElem? hx)
     have HTK := Lib.hid (show lists (xs.take (i + 1)) = lists (xs.take i) ++ [x.data.toList] by rw [take_next hx, lists_snoc])
     have HXX := Lib.hid (lists_at hx)
     have i1 : (i : Int) < (n : Int) := by omega
     have i0 : (0 : Int) ≤ (i : Int) := by omega
     have hxl : x.data.toList.length = x.size := by simp
     clear hx c0'
     by_cases h300 : x.size ≤ 300
     · have h3i : ¬ (300 : Int) < (x.size : Int) := by omega
       have HOK := Lib.hid (show recsOk (lists (xs.take (i + 1))) by rw [HTK.out]; exact recs_snoc HX.out.2.1 (by omega))
       go_wp2_with fail
       refine (specAppend L x (by omega) hxm _).mono ?_
       intro e w2 h2
       obtain ⟨M, hM, hMs, rfl, b2⟩ := h2.text
       have HM := Lib.hid (show M.data.toList = logB (lists (xs.take (i + 1))) by
         rw [hM, HTK.out, log_snoc (by omega), HX.out.1])
       have hMs2 : M.size ≤ 8200 * (i + 1) := by
         rw [hMs, appendB, if_pos (by omega), List.length_append]
         have h3 := rec_short (n := L.data.toList.length) (first := true) (r := x.data.toList) (by omega)
         have h4 : L.data.toList.length = L.size := by simp
         omega
       have B2 := Lib.hid (HX.out.2.2.trans (b2.mono HX.out.2.2.size))
       clear h2 hM hMs b2 c0
       go_wp2
       go_roundw
       case rel => exact ⟨i + 1, M, by omega, by go_num, rfl, hMs2, HM.out, HOK.out, B2.out⟩
       case measure => simp [intOf]; omega
     · have h3i : (300 : Int) < (x.size : Int) := by omega
       have HNO := Lib.hid (show putLogB (lists xs) = [] by
         unfold putLogB
         rw [if_neg]
         intro hok
         have := hok x.data.toList (List.mem_of_getElem? HXX.out)
         omega)
       go_wp2
       go_ret
       exact ⟨by rw [HNO.out]; rfl, HX.out.2.2⟩
   · obtain rfl : i = n := by omega
     have h3 : ¬ (i : Int) < (i : Int) := by omega
     have HE := Lib.hid (show xs.take i = xs from List.take_of_length_le (by rw [HL.out]; exact Nat.le_refl _))
     have HP := Lib.hid (show (⟨(putLogB (lists xs)).toArray⟩ : ByteArray) = L from bytes_ext (by
       have h1 := HX.out.1
       have h2 := HX.out.2.1
       rw [HE.out] at h1 h2
       unfold putLogB
       rw [if_pos h2, ← h1]))
     go_wp2
     go_ret
     exact ⟨by rw [HP.out]; rfl, HX.out.2.2⟩
end Go.Proofs.Ytjcgbpjgoacdjaa
