/- The program's PutTable, at every argument. -/
import Derived.Test.YtkomnnijnggbpaaPutBlksI
import Derived.Test.YtkomnnijnggbpaaPutTab
import Derived.Test.YtkomnnijnggbpaaCellsOkI
namespace Go.Proofs.Ytkomnnijnggbpaa
open Go.RowKit Go.Shelf
set_option linter.unusedVariables false

set_option maxHeartbeats 4000000 in
set_option maxRecDepth 100000 in
theorem implPutTable_in (a : Option Addr) (n c : Nat) (xs : List Cel) (e z : Nat) (p : Bool) (hn : n ≤ 60) (hok : cellsOk xs = true) (he1 : 1 ≤ e) (he2 : e ≤ 16) (hz1 : 1 ≤ z) (hz2 : z ≤ 50) (w : World) (h : CelRowO w a n c xs) :
   Calls Try.prog 10 #[.slice a n c, .agg #[.int .i64 e, .int .i64 z, .bool p]] w (TextIs w (putTable xs ⟨e, z, p⟩)) := by
 have HR := Lib.hid h
 have HOK := Lib.hid hok
 have HF := Lib.hid (fit_ok hok)
 have hxl := h.1
 have HXL := Lib.hid hxl
 obtain ⟨g, off, HA⟩ : ∃ g off, Hid (n ≠ 0 → a = some ⟨g, off, none⟩) := by
   by_cases h0 : n = 0
   · exact ⟨0, 0, fun h => absurd h0 h⟩
   · obtain ⟨g, off, h1, _⟩ := h.2.2 0 _ (List.getElem?_eq_getElem (by omega))
     exact ⟨g, off, fun _ => h1⟩
 obtain ⟨cf, hcf⟩ : ∃ cf : Conf, (⟨(e : Int), (z : Int), p⟩ : Conf) = cf := ⟨_, rfl⟩
 have HCF := Lib.hid hcf
 have HCK := Lib.hid (show confOk ⟨(e : Int), (z : Int), p⟩ = true by unfold confOk; simp; omega)
 have B0 := Lib.hid (one_below w (.cells #[.int .i64 e, .int .i64 z, .bool p] 28))
 have C0 := Lib.hid (alloc_at w (.cells #[.int .i64 e, .int .i64 z, .bool p] 28))
 have hgt : ¬ (60 : Int) < (n : Int) := by omega
 rw [hcf]
 clear h hok hcf
 go_enter Try.func10, Try.ntmps10
 go_wp2_with fail
 refine (implConfigOk e z p _).mono ?_
 rw [HCK.out]
 rintro r w1 ⟨rfl, b1⟩
 have B1 := Lib.hid (B0.out.trans (b1.mono B0.out.size))
 have C1 := Lib.hid ((b1.block w.heap.size (by simp)).trans C0.out)
 clear b1
 go_wp2_with fail
 refine (implCellsOkO a n c xs (by omega) HF.out _ (HR.out.below B1.out)).mono ?_
 rw [HOK.out]
 rintro r w2 ⟨rfl, b2⟩
 have B2 := Lib.hid (B1.out.trans (b2.mono B1.out.size))
 have C2 := Lib.hid ((b2.block w.heap.size (Array.getElem?_eq_some_iff.1 C1.out).1).trans C1.out)
 clear b2
 obtain ⟨x0, x1, x2⟩ := cfg_three C2.out
 go_wp2_with fail
 refine (callsIn_wide.1 (implPutBlocks_in a g off n c (nBlk xs cf) xs e z p cf HCF.out HA.out hn HOK.out he1 he2 hz1 hz2 rfl _ (HR.out.below B2.out))).mono ?_
 clear x0 x1 x2
 rintro r w3 ⟨b3, (⟨hall, rfl⟩ | ⟨hbad, rfl⟩)⟩
 · have B3 := Lib.hid (B2.out.trans (b3.mono B2.out.size))
   have C3 := Lib.hid ((b3.block w.heap.size (Array.getElem?_eq_some_iff.1 C2.out).1).trans C2.out)
   have HALL := Lib.hid hall
   obtain ⟨OB, hOB, hOBl⟩ := text_of (outTo xs cf (nBlk xs cf))
   obtain ⟨IX, hIX, hIXl⟩ := text_of (idxTo xs cf (nBlk xs cf))
   obtain ⟨TP, hTP, hTPl⟩ := text_of (wrapB IX.data.toList p)
   have HTP := Lib.hid hTP
   have HOB := Lib.hid hOB
   have hOB2 : OB.size ≤ 130000 := by
     have h1 := out_le xs cf (nBlk xs cf)
     have h2 := nblk_le (xs := xs) (c := cf) (by rw [← HCF.out]; exact HCK.out)
     rw [hOBl]
     omega
   have hTP2 : TP.size ≤ 2005 := by rw [hTPl]; exact wrap_most _ _
   have HTB := Lib.hid (show TP.data.toList = topB xs cf by rw [hTP, hIX]; unfold topB; rw [← HCF.out])
   rw [as_text hOB, as_text hIX]
   clear b3 hall hOB hOBl hIX hIXl hTP hTPl
   obtain ⟨x0, x1, x2⟩ := cfg_three C3.out
   go_wp2_with fail
   refine (implWrap IX TP p HTP.out _).mono ?_
   rintro r w4 ⟨rfl, b4⟩
   have B4 := Lib.hid (B3.out.trans (b4.mono B3.out.size))
   have C4 := Lib.hid ((b4.block w.heap.size (Array.getElem?_eq_some_iff.1 C3.out).1).trans C3.out)
   clear b4 x0 x1 x2
   by_cases htp : TP.data.toList = []
   · have HP := Lib.hid (show putTable xs cf = [] from if_neg (fun h => h.2.2.2.2 (by rw [← HTB.out]; exact htp)))
     have hTe : TP = ⟨#[]⟩ := bytes_ext (by rw [htp])
     subst hTe
     clear htp
     go_wp2
     go_ret
     exact ⟨by rw [HP.out]; rfl, B4.out⟩
   · have htn : TP.toList.isEmpty = false := by
       rw [ByteArray.toList_eq]
       cases h1 : TP.data.toList with
       | nil => exact absurd h1 htp
       | cons _ _ => rfl
     have HOKT := Lib.hid (show tabOk xs cf from ⟨by rw [HXL.out]; omega, HOK.out, by rw [← HCF.out]; exact HCK.out, HALL.out, by rw [← HTB.out]; exact htp⟩)
     obtain ⟨FL, hFL, hFLl⟩ := text_of (filterB (xs.map nameKey))
     obtain ⟨FW, hFW, hFWl⟩ := text_of (filB xs)
     have HFL := Lib.hid (as_text hFL)
     have HFW := Lib.hid (show FW.data.toList = wrapB FL.data.toList false by rw [hFW, hFL]; rfl)
     have hfws : FW.size ≤ 2005 := by rw [hFWl]; exact wrap_most _ _
     have HFB := Lib.hid hFW
     clear htp hFL hFLl hFW hFWl
     go_wp2_with fail
     refine (implColumnFilter a n c xs hn HOK.out _ (HR.out.below B4.out)).mono ?_
     rintro r w5 ⟨rfl, b5⟩
     rw [HFL.out]
     have B5 := Lib.hid (B4.out.trans (b5.mono B4.out.size))
     have C5 := Lib.hid ((b5.block w.heap.size (Array.getElem?_eq_some_iff.1 C4.out).1).trans C4.out)
     clear b5
     go_wp2_with fail
     refine (implWrap FL FW false HFW.out _).mono ?_
     rintro r w6 ⟨rfl, b6⟩
     have B6 := Lib.hid (B5.out.trans (b6.mono B5.out.size))
     have C6 := Lib.hid ((b6.block w.heap.size (Array.getElem?_eq_some_iff.1 C5.out).1).trans C5.out)
     clear b6
     obtain ⟨x0, x1, x2⟩ := cfg_three C6.out
     have hfl := foot_len OB.size TP.size FW.size n ⟨e, z, p⟩
     obtain ⟨FT, hFT, hFTl⟩ := text_of (footB OB.size TP.size FW.size n ⟨e, z, p⟩ ++ magicB)
     have hft2 : FT.size = 38 := by rw [hFTl, List.length_append, hfl]; rfl
     have HFT := Lib.hid (as_text hFT)
     have HFT2 := Lib.hid hFT
     clear hFT hFTl hfl
     have v1 : ¬ 9223372036854775807 < OB.size + TP.size := by omega
     have v2 : ¬ 9223372036854775807 < OB.size + TP.size + FW.size := by omega
     have v3 : ¬ 9223372036854775807 < OB.size + TP.size + FW.size + FT.size := by omega
     go_wp2_with fail
     refine (implPutFoot OB.size TP.size FW.size n e z p (by omega) (by omega) (by omega) (by omega) (by omega) (by omega) _).mono ?_
     rintro r w7 ⟨rfl, b7⟩
     rw [HFT.out]
     have B7 := Lib.hid (B6.out.trans (b7.mono B6.out.size))
     clear b7 x0 x1 x2
     go_wp2
     go_ret
     refine ⟨?_, B7.out⟩
     have : (OB ++ TP ++ FW ++ FT).data.toList = putTable xs cf := by
       rw [putTable, if_pos HOKT.out]
       simp only [ByteArray.data_append, Array.toList_append, List.append_assoc]
       rw [HOB.out, HTB.out, HFB.out, HFT2.out]
       unfold tableB outB
       have e1 : OB.size = (outTo xs cf (nBlk xs cf)).length := by rw [← HOB.out]; simp
       have e2 : TP.size = (topB xs cf).length := by rw [← HTB.out]; simp
       have e3 : FW.size = (filB xs).length := by rw [← HFB.out]; simp
       rw [e1, e2, e3, HXL.out, HCF.out]
     rw [← as_text this]
     rfl
 · have B3 := Lib.hid (B2.out.trans (b3.mono B2.out.size))
   have C3 := Lib.hid ((b3.block w.heap.size (Array.getElem?_eq_some_iff.1 C2.out).1).trans C2.out)
   have HP := Lib.hid (show putTable xs cf = [] from if_neg (fun h => by obtain ⟨j, h1, h2⟩ := hbad; exact h.2.2.2.1 j h1 h2))
   obtain ⟨TP, hTP, hTPl⟩ := text_of (wrapB (ByteArray.mk #[]).data.toList p)
   have HTP := Lib.hid hTP
   clear b3 hbad hTP hTPl
   obtain ⟨x0, x1, x2⟩ := cfg_three C3.out
   go_wp2_with fail
   refine (implWrap ⟨#[]⟩ TP p HTP.out _).mono ?_
   rintro r w4 ⟨rfl, b4⟩
   have B4 := Lib.hid (B3.out.trans (b4.mono B3.out.size))
   clear b4 x0 x1 x2
   go_wp2
   go_ret
   exact ⟨by rw [HP.out]; rfl, B4.out⟩

set_option maxHeartbeats 1000000 in
theorem implPutTable (a : Option Addr) (n c : Nat) (xs : List Cel) (e z : Int) (p : Bool) (hn : n ≤ 1048576) (hf : Fit xs) (w : World) (h : CelRowO w a n c xs) :
   Calls Try.prog 10 #[.slice a n c, .agg #[.int .i64 e, .int .i64 z, .bool p]] w (TextIs w (putTable xs ⟨e, z, p⟩)) := by
 have B0 := Lib.hid (one_below w (.cells #[.int .i64 e, .int .i64 z, .bool p] 28))
 have HR := Lib.hid h
 have HF := Lib.hid hf
 have hxl := h.1
 clear h hf
 cases hcf : confOk ⟨e, z, p⟩
 · have HP := Lib.hid (put_no (xs := xs) (.inr (.inr hcf)))
   have HC := Lib.hid hcf
   clear hcf
   go_enter Try.func10, Try.ntmps10
   go_wp2_with fail
   refine (implConfigOk e z p _).mono ?_
   rw [HC.out]
   rintro r w1 ⟨rfl, b1⟩
   have B1 := Lib.hid (B0.out.trans (b1.mono B0.out.size))
   clear b1
   go_wp2
   go_ret
   exact ⟨by rw [HP.out]; rfl, B1.out⟩
 · by_cases h60 : 60 < n
   · have HP := Lib.hid (put_no (c := ⟨e, z, p⟩) (xs := xs) (.inl (by omega)))
     have HC := Lib.hid hcf
     have h60' : (60 : Int) < (n : Int) := by omega
     clear hcf
     go_enter Try.func10, Try.ntmps10
     go_wp2_with fail
     refine (implConfigOk e z p _).mono ?_
     rw [HC.out]
     rintro r w1 ⟨rfl, b1⟩
     have B1 := Lib.hid (B0.out.trans (b1.mono B0.out.size))
     clear b1
     go_wp2
     go_ret
     exact ⟨by rw [HP.out]; rfl, B1.out⟩
   · cases hok : cellsOk xs
     · have HP := Lib.hid (put_no (c := ⟨e, z, p⟩) (xs := xs) (.inr (.inl hok)))
       have HC := Lib.hid hcf
       have HK := Lib.hid hok
       have h60' : ¬ (60 : Int) < (n : Int) := by omega
       clear hcf hok
       go_enter Try.func10, Try.ntmps10
       go_wp2_with fail
       refine (implConfigOk e z p _).mono ?_
       rw [HC.out]
       rintro r w1 ⟨rfl, b1⟩
       have B1 := Lib.hid (B0.out.trans (b1.mono B0.out.size))
       clear b1
       go_wp2_with fail
       refine (implCellsOkO a n c xs hn HF.out _ (HR.out.below B1.out)).mono ?_
       rw [HK.out]
       rintro r w2 ⟨rfl, b2⟩
       have B2 := Lib.hid (B1.out.trans (b2.mono B1.out.size))
       clear b2
       go_wp2
       go_ret
       exact ⟨by rw [HP.out]; rfl, B2.out⟩
     · have h1 := conf_in hcf
       obtain ⟨e', rfl⟩ := Int.eq_ofNat_of_zero_le (show 0 ≤ e by have := h1.1; simp only at this; omega)
       obtain ⟨z', rfl⟩ := Int.eq_ofNat_of_zero_le (show 0 ≤ z by have := h1.2.2.1; simp only at this; omega)
       simp only at h1
       exact implPutTable_in a n c xs e' z' p (by omega) hok (by omega) (by omega) (by omega) (by omega) w HR.out
end Go.Proofs.Ytkomnnijnggbpaa
