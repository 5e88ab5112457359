/- The walk of the law FnPieces: each piece of a log begins with a fragment, and what is put behind stands behind. -/
import Derived.Test.YtjcgbpjgoacdjaaZ10
import Derived.Test.YtjcgbpjgoacdjaaZ6
import Derived.Test.YtjcgbpjgoacdjaaDrawApp
import Derived.Test.YtjcgbpjgoacdjaaZ1
import Derived.Test.YtjcgbpjgoacdjaaGetFix
import Derived.Test.YtjcgbpjgoacdjaaBig
import Derived.Test.YtjcgbpjgoacdjaaZ0
namespace Go.Proofs.Ytjcgbpjgoacdjaa
open Go.RowKit
set_option linter.unusedVariables false

theorem piece_reads {L R Y : ByteArray} (hY : Y.data.toList = L.data.toList ++ putRec L.size true R.data.toList) {q : Nat} (h1 : q % 64 = 0) (h2 : L.size + padAt L.size ≤ q) (h3 : q + 7 ≤ Y.size) :
   ∃ k t, 1 ≤ k ∧ k ≤ 4 ∧ t.length ≤ 57 ∧ q + 7 + t.length ≤ Y.size ∧ getFix Y.data.toList ((q + 4 : Nat) : Int) 2 = (t.length : Int) ∧ Y.data.toList[q + 6]? = some (UInt8.ofNat k) ∧ (Y.extract (q + 7) (q + 7 + t.length)).data.toList = t ∧ (Y.extract q (q + 7 + t.length)).data.toList = fragB k t := by
 have hl : L.data.toList.length = L.size := by simp
 have hyl : Y.data.toList.length = Y.size := by simp
 have hyz : Y.size = L.size + (putRec L.size true R.data.toList).length := by rw [← hyl, hY, List.length_append, hl]
 obtain ⟨k, t, z, g1, g2, g3, g4⟩ := rec_pieces L.size true R.data.toList q h1 h2 (by omega)
 have hd : Y.data.toList.drop q = fragB k t ++ z := by
   rw [hY, List.drop_append, List.drop_of_length_le (by omega), List.nil_append, hl]
   exact g4
 obtain ⟨f1, f2, f3, f4, f5, _⟩ := frag_reads hd (by omega) g3
 refine ⟨k, t, g1, g2, g3, by omega, f2, ?_, by rw [cut_text]; exact f4, by rw [show q + 7 + t.length = q + (t.length + 7) by omega, cut_text]; exact f5⟩
 have h6 : (Y.data.toList.drop q)[6]? = some (UInt8.ofNat k) := by
   rw [hd]
   unfold fragB
   rw [List.append_assoc, List.getElem?_append_right (by rw [fix_length]; omega), List.append_assoc, List.getElem?_append_right (by rw [fix_length, fix_length]; omega), fix_length, fix_length]
   rfl
 rw [List.getElem?_drop] at h6
 exact h6
theorem pad_next (n : Nat) : n + padAt n ≤ (n / 64 + 1) * 64 := by
 unfold padAt leftAt
 split <;> omega
set_option maxHeartbeats 4000000 in
set_option maxRecDepth 100000 in
theorem fnPieces_walk (a0 : Option Addr) (len0 cap0 : Nat) (z0 : List Int) (w : World) (w0 : IsRow .u8 w a0 len0 cap0 z0) :
   Calls Try.prog 9 #[.slice a0 len0 cap0] w fun e w' => e = .returned (.bool true) ∧ Below w.heap.size w w' := by
 have HR := Lib.hid (bytes_of_row w0 w.heap.size (Nat.le_refl _))
 clear w0
 by_cases hbig : len0 ≤ 1048576
 · go_enter Try.func9, Try.ntmps9
   go_wp2_with fail
   refine (big_no a0 len0 cap0 _ hbig).mono ?_
   rintro e w1 ⟨rfl, rfl⟩
   go_wp2_with fail
   refine (drawAppend_at a0 len0 cap0 z0 _ HR.out).mono ?_
   rintro e w2 ⟨L, R, hL, hR, rfl, b2⟩
   have B2 := Lib.hid b2
   clear b2
   obtain ⟨A, hA, -⟩ := text_of (appendB L.data.toList R.data.toList)
   have HA := Lib.hid hA
   clear hA
   go_wp2_with fail
   refine (implAppend L R (by omega) (by unfold maxLen; omega) _).mono ?_
   intro e w3 h3
   obtain ⟨Y, hY, -, rfl, b3⟩ := h3.text
   rw [← HA.out] at hY
   obtain rfl : Y = A := bytes_ext hY
   have B3 := Lib.hid (B2.out.trans (b3.mono B2.out.size))
   clear h3 hY b3
   have hyy : (Y.toList == Y.toList) = true := by simp
   go_wp2_with fail
   refine (specAppend L R (by omega) (by unfold maxLen; omega) _).mono ?_
   intro e w4 h4
   obtain ⟨A, hA, -, rfl, b4⟩ := h4.text
   rw [← HA.out] at hA
   obtain rfl : Y = A := (bytes_ext hA).symm
   have B4 := Lib.hid (B3.out.trans (b4.mono B3.out.size))
   clear h4 hA b4
   have hrl : R.data.toList.length = R.size := by simp
   have hll : L.data.toList.length = L.size := by simp
   by_cases h300 : R.size ≤ 300
   · have h3i : ¬ (300 : Int) < (R.size : Int) := by omega
     have hYd : Y.data.toList = L.data.toList ++ putRec L.size true R.data.toList := by
       rw [HA.out, appendB, if_pos (by omega), hll]
     have HYD := Lib.hid hYd
     have hYl : Y.data.toList.length = Y.size := by simp
     have hYz : Y.size = L.size + (putRec L.size true R.data.toList).length := by rw [← hYl, hYd, List.length_append, hll]
     have hge := rec_at_least L.size true R.data.toList
     have hle := rec_len (n := L.size) (first := true) (r := R.data.toList) (by omega)
     have hY1 : L.size + 7 + R.size ≤ Y.size := by omega
     have hY2 : Y.size ≤ 34000 := by omega
     have HPF := Lib.hid (show (Y.extract 0 L.size).toList == L.toList by
       rw [beq_iff_eq, ByteArray.toList_eq, ByteArray.toList_eq, take_of_extract, hYd, List.take_left' hll])
     obtain ⟨f, hf⟩ : ∃ f, (L.size / 64 + 1) * 64 = f := ⟨_, rfl⟩
     have hfi : ((L.size : Int) / 64 + 1) * 64 = (f : Int) := by omega
     have hf1 : f % 64 = 0 := by omega
     have hf2 : f ≤ 33100 := by omega
     have HF := Lib.hid (show L.size + padAt L.size ≤ f by rw [← hf]; exact pad_next _)
     have hlf : L.size < f := by omega
     clear hf hYd hYl hYz hge hle hrl hll
     go_wp2_with fail
     go_loopw [7] (fun v7 wr => ∃ q : Nat, v7 = .int .i64 q ∧ q % 64 = 0 ∧ q ≤ 40000 ∧ Hid (L.size + padAt L.size ≤ q ∧ Below w.heap.size w wr)) (fun v7 _ => 50000 - (intOf v7).toNat)
     case atStart => exact ⟨f, by first | rfl | rw [hfi], hf1, by omega, HF.out, B4.out⟩
     case round =>
       obtain ⟨q, rfl, hq1, hq2, HX⟩ := hrel
       by_cases hin : q + 7 ≤ Y.size
       · have hii : (q : Int) + 7 ≤ (Y.size : Int) := by omega
         obtain ⟨k, t, g1, g2, g3, g4, g5, g6, g7, g8⟩ := piece_reads HYD.out hq1 HX.out.1 hin
         obtain ⟨m, hm⟩ : ∃ m, t.length = m := ⟨_, rfl⟩
         rw [hm] at g3 g4 g5 g7 g8
         obtain ⟨q6, hq6⟩ : ∃ x, q + 6 = x := ⟨_, rfl⟩
         obtain ⟨q7, hq7⟩ : ∃ x, q + 7 = x := ⟨_, rfl⟩
         rw [hq6] at g6
         rw [hq7] at g4 g7 g8
         obtain ⟨q9, hq9⟩ : ∃ x, q7 + m = x := ⟨_, rfl⟩
         rw [hq9] at g4 g7 g8
         have HG5 := Lib.hid g5
         have E4 := Lib.hid (show (q : Int) + 4 = ((q + 4 : Nat) : Int) by omega)
         have ew6 : IntKind.i64.wrap ((q : Int) + 6) = (q6 : Int) := (IntWalk.i64_in _ (by omega)).trans (by omega)
         have ew7 : IntKind.i64.wrap ((q : Int) + 7) = (q7 : Int) := (IntWalk.i64_in _ (by omega)).trans (by omega)
         have ew9 : IntKind.i64.wrap ((q7 : Int) + (m : Int)) = (q9 : Int) := (IntWalk.i64_in _ (by omega)).trans (by omega)
         have hl6 : q6 < Y.size := by omega
         have n1 : ¬ (m : Int) < 0 := by omega
         have n2 : ¬ (Y.size : Int) < (q9 : Int) := by omega
         have n3 : (q6 : Int) < (Y.size : Int) := by omega
         have n4 : (q7 : Int) ≤ (q9 : Int) := by omega
         have n5 : (q9 : Int) ≤ (Y.size : Int) := by omega
         have n6 : (q : Int) ≤ (q9 : Int) := by omega
         have ek : IntKind.i64.wrap (Y[q6].toNat : Int) = (k : Int) := by
           have h := byte_at Y q6 hl6
           rw [g6] at h
           rw [← Option.some.inj h, UInt8.toNat_ofNat', Nat.mod_eq_of_lt (by omega)]
           exact IntWalk.i64_in _ (by omega)
         have hps : (Y.extract q7 q9).size ≤ maxLen := by
           rw [ByteArray.size_extract]
           unfold maxLen
           omega
         obtain ⟨D, hD⟩ : ∃ D : ByteArray, ⟨(fragB k t).toArray⟩ = D := ⟨_, rfl⟩
         have GF := Lib.hid (show ∀ W, Calls Try.prog 33 #[.int .i64 k, .string (Y.extract q7 q9)] W fun e w' => e = .returned (.string D) ∧ Below W.heap.size W w' from fun W => (implFragment k (Y.extract q7 q9) (by omega) hps W).mono fun e w' h => by
           rw [g7, fragment_yes g1 g2 (by omega)] at h
           rw [← hD]
           exact h)
         have hcmp : (D.toList == (Y.extract q q9).toList) = true := by
           rw [beq_iff_eq, ByteArray.toList_eq, ByteArray.toList_eq, g8, ← hD]
         clear g3 g5 g6 g7 g8 hm hq6 hq7 hq9 hD hps
         go_wp2_with fail
         rw [E4.out]
         refine (specGetFix Y ((q + 4 : Nat) : Int) 2 _ (by unfold maxLen; omega) (by omega)).mono ?_
         rw [HG5.out]
         rintro e w5 ⟨rfl, b5⟩
         have B5 := Lib.hid (HX.out.2.trans (b5.mono HX.out.2.size))
         clear b5
         go_wp2_with fail
         refine wp_region_held_drew (S := fun _ => True) (by kernel_rfl) trivial (fun hHeld => ?_)
         refine tk 0 (some 47) ?_ ?hy hHeld ?_
         case hy => (intro w' hS; clear hS; go_simp <;> with_reducible rfl)
         simp only [Act.put, sA, sB, sC]
         refine tk 1 (some 48) (.bool false) ?hy hHeld ?_
         case hy => (intro w' hS; clear hS; go_simp <;> with_reducible rfl)
         simp only [Act.put, sA, sB, sC]
         refine tk 2 (some 49) ?_ ?hy hHeld ?_
         case hy => (intro w' hS; clear hS; go_simp <;> with_reducible rfl)
         simp only [Act.put, sA, sB, sC]
         refine tk 3 (some 50) ?_ ?hy hHeld ?_
         case hy => (intro w' hS; clear hS; go_simp <;> with_reducible rfl)
         simp only [Act.put, sA, sB, sC]
         refine tk 4 (some 51) ((.int .i64 q7)) ?hy hHeld ?_
         case hy => (intro w' hS; clear hS; go_simp <;> with_reducible rfl)
         simp only [Act.put, sA, sB, sC]
         refine tk 5 (some 52) ?_ ?hy hHeld ?_
         case hy => (intro w' hS; clear hS; go_simp <;> with_reducible rfl)
         simp only [Act.put, sA, sB, sC]
         refine tk 6 (some 53) ((.int .i64 q9)) ?hy hHeld ?_
         case hy => (intro w' hS; clear hS; go_simp <;> with_reducible rfl)
         simp only [Act.put, sA, sB, sC]
         refine tk 7 (some 54) ?_ ?hy hHeld ?_
         case hy => (intro w' hS; clear hS; go_simp <;> with_reducible rfl)
         simp only [Act.put, sA, sB, sC]
         refine tk 8 (some 55) ?_ ?hy hHeld ?_
         case hy => (intro w' hS; clear hS; go_simp <;> with_reducible rfl)
         simp only [Act.put, sA, sB, sC]
         refine tk 9 (some 56) (.bool false) ?hy hHeld ?_
         case hy => (intro w' hS; clear hS; go_simp <;> with_reducible rfl)
         simp only [Act.put, sA, sB, sC]
         refine tk 10 (some 57) (.bool false) ?hy hHeld ?_
         case hy => (intro w' hS; clear hS; go_simp <;> with_reducible rfl)
         simp only [Act.put, sA, sB, sC]
         refine tk 11 (some 58) (.bool false) ?hy hHeld ?_
         case hy => (intro w' hS; clear hS; go_simp <;> with_reducible rfl)
         simp only [Act.put, sA, sB, sC]
         refine tk 12 (some 59) ?_ ?hy hHeld ?_
         case hy => (intro w' hS; clear hS; go_simp <;> with_reducible rfl)
         simp only [Act.put, sA, sB, sC]
         refine tk 13 (some 60) ?_ ?hy hHeld ?_
         case hy => (intro w' hS; clear hS; go_simp <;> with_reducible rfl)
         simp only [Act.put, sA, sB, sC]
         refine tk 14 (some 61) ((.int .i64 q6)) ?hy hHeld ?_
         case hy => (intro w' hS; clear hS; go_simp <;> with_reducible rfl)
         simp only [Act.put, sA, sB, sC]
         refine tk 15 (some 62) ?_ ?hy hHeld ?_
         case hy => (intro w' hS; clear hS; go_simp <;> with_reducible rfl)
         simp only [Act.put, sA, sB, sC]
         refine tk 16 (some 63) ((.int .i64 k)) ?hy hHeld ?_
         case hy => (intro w' hS; clear hS; go_simp <;> with_reducible rfl)
         simp only [Act.put, sA, sB, sC]
         refine tk 17 (some 64) ?_ ?hy hHeld ?_
         case hy => (intro w' hS; clear hS; go_simp <;> with_reducible rfl)
         simp only [Act.put, sA, sB, sC]
         refine tk 18 (some 65) ?_ ?hy hHeld ?_
         case hy => (intro w' hS; clear hS; go_simp <;> with_reducible rfl)
         simp only [Act.put, sA, sB, sC]
         refine tk 19 (some 66) ((.int .i64 q7)) ?hy hHeld ?_
         case hy => (intro w' hS; clear hS; go_simp <;> with_reducible rfl)
         simp only [Act.put, sA, sB, sC]
         refine tk 20 (some 67) ?_ ?hy hHeld ?_
         case hy => (intro w' hS; clear hS; go_simp <;> with_reducible rfl)
         simp only [Act.put, sA, sB, sC]
         refine tk 21 (some 68) ((.int .i64 q7)) ?hy hHeld ?_
         case hy => (intro w' hS; clear hS; go_simp <;> with_reducible rfl)
         simp only [Act.put, sA, sB, sC]
         refine tk 22 (some 69) ?_ ?hy hHeld ?_
         case hy => (intro w' hS; clear hS; go_simp <;> with_reducible rfl)
         simp only [Act.put, sA, sB, sC]
         refine tk 23 (some 70) ((.int .i64 q9)) ?hy hHeld ?_
         case hy => (intro w' hS; clear hS; go_simp <;> with_reducible rfl)
         simp only [Act.put, sA, sB, sC]
         refine tk 24 (some 71) ((.string (Y.extract q7 q9))) ?hy hHeld ?_
         case hy => (intro w' hS; clear hS; go_simp <;> with_reducible rfl)
         simp only [Act.put, sA, sB, sC]
         refine tk 26 (some 73) ?_ ?hy hHeld ?_
         case hy => (intro w' hS; clear hS; go_simp <;> with_reducible rfl)
         simp only [Act.put, sA, sB, sC]
         refine tk 27 (some 74) ?_ ?hy hHeld ?_
         case hy => (intro w' hS; clear hS; go_simp <;> with_reducible rfl)
         simp only [Act.put, sA, sB, sC]
         refine tk 28 (some 75) ?_ ?hy hHeld ?_
         case hy => (intro w' hS; clear hS; go_simp <;> with_reducible rfl)
         simp only [Act.put, sA, sB, sC]
         refine tk 29 (some 76) ((.int .i64 q7)) ?hy hHeld ?_
         case hy => (intro w' hS; clear hS; go_simp <;> with_reducible rfl)
         simp only [Act.put, sA, sB, sC]
         refine tk 30 (some 77) ?_ ?hy hHeld ?_
         case hy => (intro w' hS; clear hS; go_simp <;> with_reducible rfl)
         simp only [Act.put, sA, sB, sC]
         refine tk 31 (some 78) ((.int .i64 q9)) ?hy hHeld ?_
         case hy => (intro w' hS; clear hS; go_simp <;> with_reducible rfl)
         simp only [Act.put, sA, sB, sC]
         refine tk 32 (some 79) ((.string (Y.extract q q9))) ?hy hHeld ?_
         case hy => (intro w' hS; clear hS; go_simp <;> with_reducible rfl)
         simp only [Act.put, sA, sB, sC]
         refine wpAnyH_ready (rs := [25]) (by kernel_rfl) (by simp) ?_
         refine AllReadyH.cons rfl (fun K hK => ?_) AllReadyH.nil
         go_simp
         refine (GF.out _).mono ?_
         rintro e w6 ⟨rfl, b6⟩
         have B6 := Lib.hid ((B5.out.trans (below_draws (B := w.heap.size) 1)).trans (b6.mono (by have := B5.out.size; simpa using this)))
         clear b6
         go_wp2_with fail
         refine hK.out _ _ trivial (fun hHeld => ?_)
         clear hK K
         refine tk 33 (some 80) (.bool false) ?hy hHeld ?_
         case hy => (intro w' hS; clear hS; go_simp <;> with_reducible rfl)
         simp only [Act.put, sA, sB, sC]
         refine tk 34 (some 81) (.bool false) ?hy hHeld ?_
         case hy => (intro w' hS; clear hS; go_simp <;> with_reducible rfl)
         simp only [Act.put, sA, sB, sC]
         refine wpAnyH_done (by kernel_rfl) ?_ _
         clear hHeld
         go_wp2
         go_roundw
         case rel => exact ⟨q + 64, by go_num, by omega, by omega, by have := HX.out.1; omega, B6.out⟩
         case measure => simp [intOf]; omega
       · have hii : ¬ (q : Int) + 7 ≤ (Y.size : Int) := by omega
         have hpf : ((Y.extract 0 L.size).toList == L.toList) = true := HPF.out
         have i1 : (L.size : Int) ≤ (Y.size : Int) := by omega
         have i0 : (0 : Int) ≤ (L.size : Int) := by omega
         have i2 : (L.size : Int) + 7 + (R.size : Int) ≤ (Y.size : Int) := by omega
         go_wp2
         go_ret
         exact ⟨by first | rfl | simp [hpf, i2], HX.out.2⟩
   · have h3i : (300 : Int) < (R.size : Int) := by omega
     obtain rfl : Y = L := bytes_ext (by rw [HA.out, appendB, if_neg (by omega)])
     clear hrl hll
     go_wp2
     go_ret
     exact ⟨by first | rfl | simp, B4.out⟩
 · go_enter Try.func9, Try.ntmps9
   go_wp2_with fail
   refine (big_yes a0 len0 cap0 _ hbig).mono ?_
   rintro e w1 ⟨rfl, rfl⟩
   go_wp2
   go_ret
   exact ⟨rfl, Below.refl _ _⟩
end Go.Proofs.Ytjcgbpjgoacdjaa
