/- The walk of the law FnFragment: a fragment is as long as its text and its head, and only such as fit are made. -/
import Derived.Test.YtjcgbpjgoacdjaaZ10
import Derived.Test.YtjcgbpjgoacdjaaDrawApp
import Derived.Test.YtjcgbpjgoacdjaaDrawFrag
import Derived.Test.YtjcgbpjgoacdjaaZ1
import Derived.Test.YtjcgbpjgoacdjaaBig
import Derived.Test.YtjcgbpjgoacdjaaZ0
namespace Go.Proofs.Ytjcgbpjgoacdjaa
open Go.RowKit
set_option linter.unusedVariables false

theorem frag_first {X : ByteArray} {k : Nat} {t : List UInt8} (h : X.data.toList = fragB k t) (hk : k < 256) (ht : t.length ≤ 57) :
   X.size = t.length + 7 ∧ getFix X.data.toList 4 2 = (t.length : Int) ∧ getFix X.data.toList 0 4 = ((crc (UInt8.ofNat k :: t) : Nat) : Int) ∧ (X.extract 6 X.size).data.toList = UInt8.ofNat k :: t ∧ X.data.toList[6]? = some (UInt8.ofNat k) := by
 have hl : X.data.toList.length = X.size := by simp
 have hs : X.size = t.length + 7 := by rw [← hl, h, frag_len]
 obtain ⟨h1, h2, _⟩ := frag_reads (s := X.data.toList) (q := 0) (z := []) (by rw [h, List.drop_zero, List.append_nil]) hk ht
 refine ⟨hs, h2, ?_, ?_, ?_⟩
 · refine (getFix_yes (l := X.data.toList) (a := 0) (b := 4) (by omega) (by omega) (by omega)).trans ?_
   rw [h, List.drop_zero]
   unfold fragB
   rw [List.take_left' (fix_length _ _), fixVal_fix, Nat.mod_eq_of_lt (by have := crc_lt (UInt8.ofNat k :: t); omega)]
 · rw [rest_of_extract, h]
   unfold fragB
   rw [← List.append_assoc, List.drop_left' (by rw [List.length_append, fix_length, fix_length])]
 · rw [h]
   unfold fragB
   rw [List.getElem?_append_right (by rw [fix_length]; omega), List.getElem?_append_right (by rw [fix_length, fix_length]; omega), fix_length, fix_length]
   rfl
set_option maxHeartbeats 4000000 in
set_option maxRecDepth 100000 in
theorem fnFragment_walk (a0 : Option Addr) (len0 cap0 : Nat) (z0 : List Int) (w : World) (w0 : IsRow .u8 w a0 len0 cap0 z0) :
   Calls Try.prog 8 #[.slice a0 len0 cap0] w fun e w' => e = .returned (.bool true) ∧ Below w.heap.size w w' := by
 have HR := Lib.hid (bytes_of_row w0 w.heap.size (Nat.le_refl _))
 clear w0
 by_cases hbig : len0 ≤ 1048576
 · go_enter Try.func8, Try.ntmps8
   go_wp2_with fail
   refine (big_no a0 len0 cap0 _ hbig).mono ?_
   rintro e w1 ⟨rfl, rfl⟩
   go_wp2_with fail
   refine (drawFragment_at a0 len0 cap0 z0 _ HR.out).mono ?_
   rintro e w2 ⟨k, s, hk0, hk5, hs, rfl, b2⟩
   have B2 := Lib.hid b2
   clear b2
   obtain ⟨X, hX, hXs⟩ := text_of (fragment k s.data.toList)
   have HX := Lib.hid hX
   clear hX hXs
   go_wp2_with fail
   refine (implFragment k s (by omega) (by unfold maxLen; omega) _).mono ?_
   intro e w3 h3
   obtain ⟨Y, hY, -, rfl, b3⟩ := h3.text
   rw [← HX.out] at hY
   obtain rfl : Y = X := bytes_ext hY
   have B3 := Lib.hid (B2.out.trans (b3.mono B2.out.size))
   clear h3 hY b3
   go_wp2_with fail
   refine (drawAppend_at a0 len0 cap0 z0 _ (below_bytes HR.out B3.out)).mono ?_
   rintro e w4 ⟨L, R, hL, hR, rfl, b4⟩
   have B4 := Lib.hid (B3.out.trans (b4.mono B3.out.size))
   clear b4
   have hxx : (Y.toList == Y.toList) = true := by simp
   go_wp2_with fail
   refine (specFragment k s (by omega) (by unfold maxLen; omega) _).mono ?_
   intro e w5 h5
   obtain ⟨X, hX, -, rfl, b5⟩ := h5.text
   rw [← HX.out] at hX
   obtain rfl : X = Y := bytes_ext hX
   have B5 := Lib.hid (B4.out.trans (b5.mono B4.out.size))
   clear h5 hX b5
   obtain ⟨A, hA, -⟩ := text_of (appendB L.data.toList R.data.toList)
   have HA := Lib.hid hA
   clear hA
   go_wp2_with fail
   refine (implAppend L R (by omega) (by unfold maxLen; omega) _).mono ?_
   intro e w6 h6
   obtain ⟨C, hC, -, rfl, b6⟩ := h6.text
   rw [← HA.out] at hC
   obtain rfl : C = A := bytes_ext hC
   have B6 := Lib.hid (B5.out.trans (b6.mono B5.out.size))
   clear h6 hC b6
   have hcc : (C.toList == C.toList) = true := by simp
   go_wp2_with fail
   refine (specAppend L R (by omega) (by unfold maxLen; omega) _).mono ?_
   intro e w7 h7
   obtain ⟨A, hA, -, rfl, b7⟩ := h7.text
   rw [← HA.out] at hA
   obtain rfl : A = C := bytes_ext hA
   have B7 := Lib.hid (B6.out.trans (b7.mono B6.out.size))
   clear h7 hA b7
   have hsl : s.data.toList.length = s.size := by simp
   by_cases hbad : k < 1 ∨ 4 < k ∨ 57 < s.size
   · obtain rfl : X = ⟨#[]⟩ := bytes_ext (by rw [HX.out, fragment_no (by omega)])
     by_cases h1 : k < 1
     · go_wp2
       go_ret
       exact ⟨rfl, B7.out⟩
     · by_cases h4 : 4 < k
       · go_wp2
         go_ret
         exact ⟨rfl, B7.out⟩
       · have h57 : (57 : Int) < (s.size : Int) := by omega
         go_wp2
         go_ret
         exact ⟨rfl, B7.out⟩
   · obtain ⟨k, rfl⟩ := Int.eq_ofNat_of_zero_le hk0
     have h1 : ¬ (k : Int) < 1 := by omega
     have h4 : ¬ (4 : Int) < (k : Int) := by omega
     have h57 : ¬ (57 : Int) < (s.size : Int) := by omega
     obtain ⟨f1, f2, f3, f4, f5⟩ := frag_first (X := X) (k := k) (t := s.data.toList) (by rw [HX.out, fragment_yes (by omega) (by omega) (by omega)]) (by omega) (by omega)
     rw [hsl] at f1 f2
     have hXm : X.size ≤ maxLen := by unfold maxLen; omega
     have hX6 : 6 < X.size := by omega
     obtain ⟨D, hD⟩ : ∃ D, X.extract 6 X.size = D := ⟨_, rfl⟩
     rw [hD] at f4
     have hDs : D.size ≤ maxLen := by
       rw [← hD, ByteArray.size_extract]
       unfold maxLen
       omega
     obtain ⟨c, hc⟩ : ∃ c, crc (UInt8.ofNat k :: s.data.toList) = c := ⟨_, rfl⟩
     have G1 := Lib.hid (show ∀ W, Calls Try.prog 36 #[.string X, .int .i64 4, .int .i64 2] W fun e w' => e = .returned (.int .i64 s.size) ∧ Below W.heap.size W w' from fun W => by rw [← f2]; exact implGetFix X 4 2 W hXm)
     have G2 := Lib.hid (show ∀ W, Calls Try.prog 36 #[.string X, .int .i64 0, .int .i64 4] W fun e w' => e = .returned (.int .i64 c) ∧ Below W.heap.size W w' from fun W => by rw [← hc, ← f3]; exact implGetFix X 0 4 W hXm)
     have G3 := Lib.hid (show ∀ W, Calls Try.prog 37 #[.string (X.extract 6 X.size)] W fun e w' => e = .returned (.int .i64 c) ∧ Below W.heap.size W w' from fun W => by rw [← hc, ← f4, hD]; exact implCrc D W hDs)
     have e1 : ((X.size : Int) == (s.size : Int) + 7) = true := by rw [beq_iff_eq]; omega
     have e2 : ((X[6].toNat : Int) == (k : Int)) = true := by
       have h := byte_at X 6 hX6
       rw [f5] at h
       rw [← Option.some.inj h, UInt8.toNat_ofNat', Nat.mod_eq_of_lt (by omega)]
       simp
     have e3 : ((s.size : Int) == (s.size : Int)) = true := by simp
     have e4 : ((c : Int) == (c : Int)) = true := by simp
     have ew : IntKind.i64.wrap ((s.size : Int) + 7) = (s.size : Int) + 7 := IntWalk.i64_in _ (by omega)
     have ew6 : IntKind.i64.wrap (X[6].toNat : Int) = (X[6].toNat : Int) := IntWalk.i64_in _ (by have := X[6].toNat_lt; omega)
     have i6 : (6 : Int) < (X.size : Int) := by omega
     have i6' : (6 : Int) ≤ (X.size : Int) := by omega
     have HD := Lib.hid hD
     clear f1 f2 f3 f4 f5 hc hD hsl hbad HX
     go_wp2_with fail
     refine wp_region_held_drew (S := fun _ => True) (by kernel_rfl) trivial (fun hHeld => ?_)
     refine tk 0 (some 50) ?_ ?hy hHeld ?_
     case hy => (intro w' hS; clear hS; go_simp <;> with_reducible rfl)
     simp only [Act.put, sA, sB, sC]
     refine tk 1 (some 51) ?_ ?hy hHeld ?_
     case hy => (intro w' hS; clear hS; go_simp <;> with_reducible rfl)
     simp only [Act.put, sA, sB, sC]
     refine tk 2 (some 52) ?_ ?hy hHeld ?_
     case hy => (intro w' hS; clear hS; go_simp <;> with_reducible rfl)
     simp only [Act.put, sA, sB, sC]
     refine tk 3 (some 53) ?_ ?hy hHeld ?_
     case hy => (intro w' hS; clear hS; go_simp <;> with_reducible rfl)
     simp only [Act.put, sA, sB, sC]
     refine tk 4 (some 54) ?_ ?hy hHeld ?_
     case hy => (intro w' hS; clear hS; go_simp <;> with_reducible rfl)
     simp only [Act.put, sA, sB, sC]
     refine tk 5 (some 55) (.bool true) ?hy hHeld ?_
     case hy => (intro w' hS; clear hS; go_simp <;> with_reducible rfl)
     simp only [Act.put, sA, sB, sC]
     refine tk 6 (some 56) (.bool true) ?hy hHeld ?_
     case hy => (intro w' hS; clear hS; go_simp <;> with_reducible rfl)
     simp only [Act.put, sA, sB, sC]
     refine tk 7 (some 57) ?_ ?hy hHeld ?_
     case hy => (intro w' hS; clear hS; go_simp <;> with_reducible rfl)
     simp only [Act.put, sA, sB, sC]
     refine tk 8 (some 58) ?_ ?hy hHeld ?_
     case hy => (intro w' hS; clear hS; go_simp <;> with_reducible rfl)
     simp only [Act.put, sA, sB, sC]
     refine tk 9 (some 59) ?_ ?hy hHeld ?_
     case hy => (intro w' hS; clear hS; go_simp <;> with_reducible rfl)
     simp only [Act.put, sA, sB, sC]
     refine tk 10 (some 60) ?_ ?hy hHeld ?_
     case hy => (intro w' hS; clear hS; go_simp <;> with_reducible rfl)
     simp only [Act.put, sA, sB, sC]
     refine tk 11 (some 61) (.bool true) ?hy hHeld ?_
     case hy => (intro w' hS; clear hS; go_simp <;> with_reducible rfl)
     simp only [Act.put, sA, sB, sC]
     refine tk 12 (some 62) (.bool true) ?hy hHeld ?_
     case hy => (intro w' hS; clear hS; go_simp <;> with_reducible rfl)
     simp only [Act.put, sA, sB, sC]
     refine tk 13 (some 63) (.bool true) ?hy hHeld ?_
     case hy => (intro w' hS; clear hS; go_simp <;> with_reducible rfl)
     simp only [Act.put, sA, sB, sC]
     refine tk 14 (some 64) ?_ ?hy hHeld ?_
     case hy => (intro w' hS; clear hS; go_simp <;> with_reducible rfl)
     simp only [Act.put, sA, sB, sC]
     refine tk 16 (some 66) ?_ ?hy hHeld ?_
     case hy => (intro w' hS; clear hS; go_simp <;> with_reducible rfl)
     simp only [Act.put, sA, sB, sC]
     refine tk 17 (some 67) ?_ ?hy hHeld ?_
     case hy => (intro w' hS; clear hS; go_simp <;> with_reducible rfl)
     simp only [Act.put, sA, sB, sC]
     refine wpAnyH_ready (rs := [15]) (by kernel_rfl) (by simp) ?_
     refine AllReadyH.cons rfl (fun K hK => ?_) AllReadyH.nil
     go_simp
     refine (G1.out _).mono ?_
     rintro e w8 ⟨rfl, b8⟩
     have B8 := Lib.hid ((B7.out.trans (below_draws (B := w.heap.size) 1)).trans (b8.mono (by have := B7.out.size; simpa using this)))
     clear b8
     go_wp2_with fail
     refine hK.out _ _ trivial (fun hHeld => ?_)
     clear hK K
     refine tk 18 (some 68) (.bool true) ?hy hHeld ?_
     case hy => (intro w' hS; clear hS; go_simp <;> with_reducible rfl)
     simp only [Act.put, sA, sB, sC]
     refine tk 19 (some 69) (.bool true) ?hy hHeld ?_
     case hy => (intro w' hS; clear hS; go_simp <;> with_reducible rfl)
     simp only [Act.put, sA, sB, sC]
     refine tk 20 (some 70) (.bool true) ?hy hHeld ?_
     case hy => (intro w' hS; clear hS; go_simp <;> with_reducible rfl)
     simp only [Act.put, sA, sB, sC]
     refine tk 21 (some 71) ?_ ?hy hHeld ?_
     case hy => (intro w' hS; clear hS; go_simp <;> with_reducible rfl)
     simp only [Act.put, sA, sB, sC]
     refine tk 23 (some 73) ?_ ?hy hHeld ?_
     case hy => (intro w' hS; clear hS; go_simp <;> with_reducible rfl)
     simp only [Act.put, sA, sB, sC]
     refine tk 24 (some 74) ?_ ?hy hHeld ?_
     case hy => (intro w' hS; clear hS; go_simp <;> with_reducible rfl)
     simp only [Act.put, sA, sB, sC]
     refine wpAnyH_ready (rs := [22]) (by kernel_rfl) (by simp) ?_
     refine AllReadyH.cons rfl (fun K hK => ?_) AllReadyH.nil
     go_simp
     refine (G2.out _).mono ?_
     rintro e w9 ⟨rfl, b9⟩
     have B9 := Lib.hid (B8.out.trans (b9.mono (by have := B8.out.size; simpa using this)))
     clear b9
     go_wp2_with fail
     refine hK.out _ _ trivial (fun hHeld => ?_)
     clear hK K
     refine wpAnyH_ready (rs := [25]) (by kernel_rfl) (by simp) ?_
     refine AllReadyH.cons rfl (fun K hK => ?_) AllReadyH.nil
     go_simp
     refine (G3.out _).mono ?_
     rintro e w10 ⟨rfl, b10⟩
     have B10 := Lib.hid (B9.out.trans (b10.mono (by have := B9.out.size; simpa using this)))
     clear b10
     go_wp2_with fail
     refine hK.out _ _ trivial (fun hHeld => ?_)
     clear hK K
     refine tk 26 (some 76) (.bool true) ?hy hHeld ?_
     case hy => (intro w' hS; clear hS; go_simp <;> with_reducible rfl)
     simp only [Act.put, sA, sB, sC]
     refine tk 27 (some 77) (.bool true) ?hy hHeld ?_
     case hy => (intro w' hS; clear hS; go_simp <;> with_reducible rfl)
     simp only [Act.put, sA, sB, sC]
     refine tk 28 (some 2) (.bool true) ?hy hHeld ?_
     case hy => (intro w' hS; clear hS; go_simp <;> with_reducible rfl)
     simp only [Act.put, sA, sB, sC]
     refine wpAnyH_done (by kernel_rfl) ?_ _
     clear hHeld
     go_wp2
     go_ret
     exact ⟨rfl, B10.out⟩
 · go_enter Try.func8, Try.ntmps8
   go_wp2_with fail
   refine (big_yes a0 len0 cap0 _ hbig).mono ?_
   rintro e w1 ⟨rfl, rfl⟩
   go_wp2
   go_ret
   exact ⟨rfl, Below.refl _ _⟩
end Go.Proofs.Ytjcgbpjgoacdjaa
