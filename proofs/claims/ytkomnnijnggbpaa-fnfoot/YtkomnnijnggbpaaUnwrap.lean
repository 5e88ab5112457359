/- Contracts of Unwrap, the program's and the model's. -/
import Derived.Test.YtkomnnijnggbpaaWrap
namespace Go.Proofs.Ytkomnnijnggbpaa
open Go.RowKit
set_option linter.unusedVariables false

def UnwIs (w : World) (A : ByteArray) (k : Nat) (e : Ending) (w' : World) : Prop := e = .returned (.tuple #[.string A, .int .i64 k]) ∧ Below w.heap.size w w'
theorem tail_list (s : ByteArray) (n : Nat) (h : n + 1 = s.size) : (s.extract n s.size).data.toList = [s.data.toList.getD n 0] := by
 simp only [ByteArray.data_extract, Array.toList_extract, List.extract_eq_take_drop]
 have hl : s.data.toList.length = s.size := by simp
 rw [show s.size - n = 1 by omega, List.drop_eq_getElem_cons (by rw [hl]; omega), List.take_succ_cons, List.take_zero]
 simp [List.getD_eq_getElem?_getD, show n < s.size by omega]
theorem mark_three (c : UInt8) : 1 < c.toNat ∨ c = 0 ∨ c = 1 := by
 by_cases h : 1 < c.toNat
 · exact .inl h
 · have : c.toNat = 0 ∨ c.toNat = 1 := by omega
   rcases this with h | h
   · exact .inr (.inl (UInt8.toNat_inj.1 (by simpa using h)))
   · exact .inr (.inr (UInt8.toNat_inj.1 (by simpa using h)))

set_option maxHeartbeats 2000000 in
set_option maxRecDepth 100000 in
theorem implUnwrap (s A : ByteArray) (k : Nat) (hs : s.size ≤ 1048576) (hA : (A.data.toList, k) = unwrapB s.data.toList) (w : World) : Calls Try.prog 14 #[.string s] w (UnwIs w A k) := by
 have hl : s.data.toList.length = s.size := by simp
 by_cases h5 : s.size < 5
 · rw [unwrap_short (by rw [hl]; exact h5)] at hA
   obtain ⟨h1, rfl⟩ := Prod.mk.inj hA
   rw [no_text h1]
   clear hA h1 hl
   go_enter Try.func14, Try.ntmps14
   go_wp2
   go_ret2
   exact ⟨rfl, Below.refl _ _⟩
 · obtain ⟨X, hX, hXs⟩ := text_of (opened1 s.data.toList)
   have HX := Lib.hid hX
   cases ho : opened2 s.data.toList
   · rw [unwrap_crc (by rw [hl]; omega) ho] at hA
     obtain ⟨h1, rfl⟩ := Prod.mk.inj hA
     rw [no_text h1]
     have HO := Lib.hid ho
     clear hA h1 hl hX hXs ho
     go_enter Try.func14, Try.ntmps14
     go_wp2_with fail
     refine (implOpened_as s X false (by omega) HX.out HO.out.symm _).mono ?_
     rintro e w1 ⟨rfl, b1⟩
     have B1 := Lib.hid b1
     clear b1
     go_wp2
     go_ret2
     exact ⟨rfl, B1.out⟩
   · have HO := Lib.hid ho
     have hz := (opened_parts (by rw [hl]; omega) ho).2
     rw [← hXs, hl] at hz
     obtain ⟨n, hn⟩ : ∃ n, n + 1 = X.size := ⟨X.size - 1, by omega⟩
     have hn1 : (X.size : Int) - 1 = (n : Int) := by omega
     have n1 : n ≤ X.size := by omega
     have n2 : (n : Int) ≤ (X.size : Int) := by omega
     have n3 : IntKind.i64.wrap (n : Int) = (n : Int) := IntWalk.i64_in _ (by omega)
     have n4 : (0 : Int) ≤ (n : Int) := by omega
     have hXl : X.data.toList.length = X.size := by simp
     have hbd : (X.extract 0 n).data.toList = bodyOf X.data.toList := by
       rw [head_list]; unfold bodyOf; rw [hXl, ← hn]; rfl
     have htl := tail_list X n hn
     have hLs : (X.extract 0 n).size ≤ 1048576 := by rw [ByteArray.size_extract]; omega
     obtain ⟨c, hc⟩ : ∃ c, X.data.toList.getD n 0 = c := ⟨_, rfl⟩
     have hmk : markOf X.data.toList = c.toNat := by unfold markOf; rw [hXl, ← hn, ← hc]; rfl
     rw [hc] at htl
     obtain ⟨L, hL⟩ : ∃ L, X.extract 0 n = L := ⟨_, rfl⟩
     obtain ⟨T, hT⟩ : ∃ T, X.extract n X.size = T := ⟨_, rfl⟩
     rw [hL] at hbd hLs
     rw [hT] at htl
     have HBD := Lib.hid hbd
     have HMK := Lib.hid hmk
     have htt : T.toList = [c] := by rw [ByteArray.toList_eq]; exact htl
     have HA := Lib.hid hA
     have HSL := Lib.hid hl
     have HS5 := Lib.hid (show 5 ≤ s.data.toList.length by rw [hl]; omega)
     clear hA hX hXs ho hl hz hXl hbd hmk hc htl
     go_enter Try.func14, Try.ntmps14
     go_wp2_with fail
     refine (implOpened_as s X true (by omega) HX.out HO.out.symm _).mono ?_
     rintro e w1 ⟨rfl, b1⟩
     have B1 := Lib.hid b1
     clear b1
     go_wp2_with fail
     go_quiet (fail)
     rcases mark_three c with h1 | rfl | rfl
     · have e1 : Op.bytesLess [c] [1] = false := by simp [Op.bytesLess, UInt8.lt_iff_toNat_lt]; omega
       have e2 : (c == 1) = false := by rw [beq_eq_false_iff_ne]; rintro rfl; exact absurd h1 (by decide)
       have hR := HA.out
       rw [unwrap_tag HS5.out HO.out (by rw [← HX.out, HMK.out]; exact h1)] at hR
       obtain ⟨q1, rfl⟩ := Prod.mk.inj hR
       obtain rfl := no_text q1
       clear hR q1
       go_wp2
       go_ret2
       exact ⟨rfl, B1.out.trans (below_draws _)⟩
     · have e1 : Op.bytesLess [0] [1] = true := by decide
       have e2 : ((0 : UInt8) == 1) = false := by decide
       have HT := Lib.hid (show textOf X.data.toList = L.data.toList by unfold textOf; rw [HMK.out, if_neg (by decide), HBD.out])
       obtain ⟨W, hW, hWs⟩ := text_of (wrapB L.data.toList false)
       have HW := Lib.hid hW
       have HB1 := Lib.hid (B1.out.trans (below_draws (B := w.heap.size) nq))
       generalize w1.drewN nq = w2 at *
       clear hW hWs
       go_wp2_with fail
       refine (implWrap L W false HW.out _).mono ?_
       rintro e w3 ⟨rfl, b3⟩
       have B3 := Lib.hid (HB1.out.trans (b3.mono HB1.out.size))
       clear b3
       by_cases hsame : W.data.toList = s.data.toList
       · have e3 : (W.toList == s.toList) = true := by rw [ByteArray.toList_eq, ByteArray.toList_eq, hsame]; simp
         have hR := HA.out
         rw [unwrap_yes HS5.out HO.out (by rw [← HX.out, HMK.out]; decide) (by rw [← HX.out, HMK.out, HT.out, ← hsame]; exact HW.out.symm), ← HX.out, HT.out] at hR
         obtain ⟨q1, rfl⟩ := Prod.mk.inj hR
         obtain rfl : A = L := bytes_ext q1
         clear hR q1 hsame
         go_wp2
         go_ret2
         exact ⟨rfl, B3.out⟩
       · have e3 : (W.toList == s.toList) = false := by rw [ByteArray.toList_eq, ByteArray.toList_eq]; simpa using hsame
         have hR := HA.out
         rw [unwrap_no HS5.out HO.out (by rw [← HX.out, HMK.out]; decide) (by rw [← HX.out, HMK.out, HT.out]; intro h; exact hsame (HW.out.trans h))] at hR
         obtain ⟨q1, rfl⟩ := Prod.mk.inj hR
         obtain rfl := no_text q1
         clear hR q1 hsame
         go_wp2
         go_ret2
         exact ⟨rfl, B3.out⟩
     · have e1 : Op.bytesLess [1] [1] = false := by decide
       have e2 : ((1 : UInt8) == 1) = true := by decide
       obtain ⟨E, hE, hEs⟩ := text_of (expand1 L.data.toList)
       have HE := Lib.hid hE
       have HT := Lib.hid (show textOf X.data.toList = E.data.toList by unfold textOf; rw [HMK.out, if_pos (show UInt8.toNat 1 = 1 from rfl), HE.out, HBD.out])
       obtain ⟨b, hb⟩ : ∃ b, expand2 L.data.toList = b := ⟨_, rfl⟩
       have HX2 := Lib.hid hb
       have HB1 := Lib.hid (B1.out.trans (below_draws (B := w.heap.size) nq))
       generalize w1.drewN nq = w2 at *
       clear hE hEs hb
       go_wp2_with fail
       refine (implExpand_as L E b (by omega) HE.out HX2.out.symm _).mono ?_
       rintro e w3 ⟨rfl, b3⟩
       have B3 := Lib.hid (HB1.out.trans (b3.mono HB1.out.size))
       clear b3
       cases b
       · have hR := HA.out
         rw [unwrap_not HS5.out HO.out (by rw [← HX.out, HMK.out]; rfl) (by rw [← HX.out, ← HBD.out]; exact HX2.out)] at hR
         obtain ⟨q1, rfl⟩ := Prod.mk.inj hR
         obtain rfl := no_text q1
         clear hR q1
         go_wp2
         go_ret2
         exact ⟨rfl, B3.out⟩
       · obtain ⟨W, hW, hWs⟩ := text_of (wrapB E.data.toList true)
         have HW := Lib.hid hW
         clear hW hWs
         go_wp2_with fail
         refine (implWrap E W true HW.out _).mono ?_
         rintro e w4 ⟨rfl, b4⟩
         have B4 := Lib.hid (B3.out.trans (b4.mono B3.out.size))
         clear b4
         by_cases hsame : W.data.toList = s.data.toList
         · have e3 : (W.toList == s.toList) = true := by rw [ByteArray.toList_eq, ByteArray.toList_eq, hsame]; simp
           have hR := HA.out
           rw [unwrap_yes HS5.out HO.out (by rw [← HX.out, HMK.out]; decide) (by rw [← HX.out, HMK.out, HT.out, ← hsame]; exact HW.out.symm), ← HX.out, HT.out] at hR
           obtain ⟨q1, rfl⟩ := Prod.mk.inj hR
           obtain rfl : A = E := bytes_ext q1
           clear hR q1 hsame
           go_wp2
           go_ret2
           exact ⟨rfl, B4.out⟩
         · have e3 : (W.toList == s.toList) = false := by rw [ByteArray.toList_eq, ByteArray.toList_eq]; simpa using hsame
           have hR := HA.out
           rw [unwrap_no HS5.out HO.out (by rw [← HX.out, HMK.out]; decide) (by rw [← HX.out, HMK.out, HT.out]; intro h; exact hsame (HW.out.trans h))] at hR
           obtain ⟨q1, rfl⟩ := Prod.mk.inj hR
           obtain rfl := no_text q1
           clear hR q1 hsame
           go_wp2
           go_ret2
           exact ⟨rfl, B4.out⟩

end Go.Proofs.Ytkomnnijnggbpaa
