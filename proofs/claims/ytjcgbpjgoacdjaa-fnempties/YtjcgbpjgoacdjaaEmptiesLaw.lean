/- The walk of the law FnEmpties: records of nothing take a head each, nine to a piece. -/
import Derived.Test.YtjcgbpjgoacdjaaZ10
import Derived.Test.YtjcgbpjgoacdjaaZ6
import Derived.Test.YtjcgbpjgoacdjaaZ3
import Derived.Test.YtjcgbpjgoacdjaaAt
import Derived.Test.YtjcgbpjgoacdjaaZ0
import Derived.Test.YtjcgbpjgoacdjaaBig
namespace Go.Proofs.Ytjcgbpjgoacdjaa
open Go.RowKit
set_option linter.unusedVariables false

theorem lists_none (n : Nat) : lists (List.replicate n (⟨#[]⟩ : ByteArray)) = List.replicate n [] := by unfold lists; rw [List.map_replicate]
theorem lists_same {xs ys : List ByteArray} (h : lists xs = lists ys) : xs = ys := (List.map_inj_right (fun x y e => bytes_ext e)).1 h
set_option maxHeartbeats 4000000 in
set_option maxRecDepth 100000 in
theorem fnEmpties_walk (a0 : Option Addr) (len0 cap0 : Nat) (z0 : List Int) (w : World) (w0 : IsRow .u8 w a0 len0 cap0 z0) :
   Calls Try.prog 10 #[.slice a0 len0 cap0] w fun e w' => e = .returned (.bool true) ∧ Below w.heap.size w w' := by
 have HR := Lib.hid (bytes_of_row w0 w.heap.size (Nat.le_refl _))
 clear w0
 by_cases hbig : len0 ≤ 1048576
 · go_enter Try.func10, Try.ntmps10
   go_wp2_with fail
   refine (big_no a0 len0 cap0 _ hbig).mono ?_
   rintro e w1 ⟨rfl, rfl⟩
   go_wp2_with fail
   refine (at_some a0 len0 cap0 z0 0 _ _ HR.out hbig (by omega)).mono ?_
   rintro e w2 ⟨x0, hx0, rfl, rfl⟩
   obtain ⟨a, b, hb, ha, hab⟩ : ∃ a b : Nat, b < 9 ∧ a ≤ 4 ∧ x0 % 40 = 9 * a + b := ⟨x0 % 40 / 9, x0 % 40 % 9, Nat.mod_lt _ (by omega), by omega, by omega⟩
   obtain ⟨n, hn⟩ : ∃ n : Nat, 9 * a + b = n := ⟨_, rfl⟩
   have hn1 : n ≤ 39 := by omega
   have hni : (x0 : Int) % 40 = (n : Int) := by omega
   have hd : (n : Int) / 9 = (a : Int) := by omega
   have hm : (n : Int) % 9 = (b : Int) := by omega
   have HEL := Lib.hid (show emptyLen n = if b = 0 then 64 * a - (if a = 0 then 0 else 1) else 64 * a + 7 * b by rw [← hn]; exact empty_at a b hb)
   obtain ⟨W, hW, hblk, hbel⟩ := strs_made n w (by omega)
   have HB := Lib.hid hblk
   have B1 := Lib.hid hbel
   have R1 := Lib.hid (hblk.row (n := n) (by simp))
   have HLN := Lib.hid (lists_none n)
   have HOK := Lib.hid (show recsOk (lists (List.replicate n (⟨#[]⟩ : ByteArray))) by
     rw [lists_none]
     intro r hr
     rw [List.eq_of_mem_replicate hr]
     simp)
   obtain ⟨S, hS, hSl⟩ := text_of (putLogB (lists (List.replicate n (⟨#[]⟩ : ByteArray))))
   have HS := Lib.hid hS
   have HLB := Lib.hid (show logB (lists (List.replicate n (⟨#[]⟩ : ByteArray))) = S.data.toList by rw [hS, putLogB, if_pos HOK.out])
   have hSz : S.size = emptyLen n := by
     rw [← log_empties n, ← lists_none n, HLB.out]
     simp
   have HF := Lib.hid (show FitS (List.replicate n (⟨#[]⟩ : ByteArray)) from fun x hx => by rw [List.eq_of_mem_replicate hx]; exact Nat.zero_le _)
   have hSw : S.size = if b = 0 then 64 * a - (if a = 0 then 0 else 1) else 64 * a + 7 * b := hSz.trans HEL.out
   have hSs : S.size ≤ 1000 := by
     rw [hSw]
     split
     · split <;> omega
     · omega
   have hsame : (S.toList == S.toList) = true := by simp
   obtain ⟨P, hP⟩ : ∃ P, S ++ (⟨#[0]⟩ : ByteArray) = P := ⟨_, rfl⟩
   have hPs : P.size = S.size + 1 := by rw [← hP, ByteArray.size_append]; rfl
   have hPd : P.data.toList = S.data.toList ++ [0] := by rw [← hP, ByteArray.data_append, Array.toList_append]
   have HP := Lib.hid hP
   have HPN := Lib.hid (show LogIs P.data.toList (lists []) false from .inr ⟨rfl, rfl, by rw [hPd, ← HLB.out]; exact no_pad HOK.out 0⟩)
   have q1 : ¬ 9223372036854775807 < S.size + 1 := by omega
   -- what is wanted
   have HWANT := Lib.hid hSw
   clear hab hn hblk hbel hS hSl hSz hSw hP hPd
   go_wp2_with fail
   clear hW
   refine (implPutLog _ n n _ (by omega) HF.out _ R1.out).mono ?_
   intro e w2 h2
   obtain ⟨Y, hY, _, rfl, b2⟩ := h2.text
   rw [← HS.out] at hY
   obtain rfl : Y = S := bytes_ext hY
   have R2 := Lib.hid (R1.out.below b2)
   have B2 := Lib.hid (B1.out.trans (b2.mono B1.out.size))
   clear h2 hY b2
   obtain ⟨cb, hcb⟩ : ∃ c, decide (b = 0 ∧ a ≠ 0) = c := ⟨_, rfl⟩
   go_upto_region 7 with fail
   try rw [hm]
   go_cut [33] from 27 to 32 (fun v33 wx => v33 = .bool cb ∧ wx = w2)
   case first =>
     by_cases hb0 : b = 0
     · have hbb : ((b : Int) == 0) = true := by rw [hb0]; rfl
       by_cases ha0 : a = 0
       · have hc : cb = false := by rw [← hcb]; exact decide_eq_false (fun h => h.2 ha0)
         have hnp : ¬ (0 : Int) < (n : Int) := by omega
         clear hb0 ha0
         go_wp2_with fail
         go_meet
         case rel => exact ⟨by rw [hc], rfl⟩
       · have hc : cb = true := by rw [← hcb]; exact decide_eq_true ⟨hb0, ha0⟩
         have hnp : (0 : Int) < (n : Int) := by omega
         clear hb0 ha0
         go_wp2_with fail
         go_meet
         case rel => exact ⟨by rw [hc], rfl⟩
     · have hbb : ((b : Int) == 0) = false := beq_eq_false_iff_ne.2 (by omega)
       have hc : cb = false := by rw [← hcb]; exact decide_eq_false (fun h => hb0 h.1)
       have hnp : (0 : Int) < (n : Int) := by omega
       clear hb0
       go_wp2_with fail
       go_meet
       case rel => exact ⟨by rw [hc], rfl⟩
   case rest =>
     obtain ⟨rfl, rfl⟩ := hcut
     go_upto_if 33 with fail
     go_cut [6] from 34 to 35 (fun v6 wx => v6 = .int .i64 (Y.size : Nat) ∧ wx = wc)
     case first =>
       have h5 := HWANT.out
       cases cb
       · have hc := of_decide_eq_false hcb
         have HV := Lib.hid (show (a : Int) * 64 + (b : Int) * 7 = ((Y.size : Nat) : Int) by
           by_cases hb0 : b = 0
           · by_cases h : a = 0
             · rw [if_pos hb0, if_pos h] at h5
               omega
             · exact absurd ⟨hb0, h⟩ hc
           · rw [if_neg hb0] at h5
             omega)
         clear h5 hc
         go_wp2_with fail
         go_meet
         case rel => exact ⟨by rw [HV.out], rfl⟩
       · have hc := of_decide_eq_true hcb
         rw [if_pos hc.1, if_neg hc.2] at h5
         have HV := Lib.hid (show (a : Int) * 64 + (b : Int) * 7 - 1 = ((Y.size : Nat) : Int) by
           have := hc.1
           omega)
         clear h5 hc
         go_wp2_with fail
         go_meet
         case rel => exact ⟨by rw [HV.out], rfl⟩
     case rest =>
     obtain ⟨rfl, rfl⟩ := hcut
     clear hcb
     go_wp2_with fail
     refine (implGetLog Y (by omega) _).mono ?_
     rintro e w3 ⟨v3, ys, bb, rfl, hli, o3, b3⟩
     obtain ⟨e1, rfl⟩ := logIs_one hli (.inl ⟨rfl, HOK.out, HLB.out⟩)
     obtain rfl := lists_same e1
     obtain ⟨ad3, c3, rfl⟩ := o3.form
     have R3 := Lib.hid (R2.out.below b3)
     have B3 := Lib.hid (B2.out.trans (b3.mono B2.out.size))
     clear hli e1 o3 b3
     rw [List.length_replicate]
     go_wp2_with fail
     try rw [HP.out]
     refine (implGetLog P (by omega) _).mono ?_
     rintro e w4 ⟨v4, zs, bb, rfl, hli, o4, b4⟩
     obtain ⟨e1, rfl⟩ := logIs_one hli HPN.out
     obtain rfl := lists_same e1
     obtain ⟨ad4, c4, rfl⟩ := o4.form
     have R4 := Lib.hid (R3.out.below b4)
     have B4 := Lib.hid (B3.out.trans (b4.mono B3.out.size))
     clear hli e1 o4 b4
     go_wp2_with fail
     refine (specPutLog _ n n _ (by omega) HF.out _ R4.out).mono ?_
     intro e w5 h5
     obtain ⟨Z, hZ, _, rfl, b5⟩ := h5.text
     rw [← HS.out] at hZ
     obtain rfl : Z = Y := bytes_ext hZ
     have B5 := Lib.hid (B4.out.trans (b5.mono B4.out.size))
     clear h5 hZ b5
     go_wp2
     go_ret
     exact ⟨rfl, B5.out⟩
 · go_enter Try.func10, Try.ntmps10
   go_wp2_with fail
   refine (big_yes a0 len0 cap0 _ (by omega)).mono ?_
   rintro e w1 ⟨rfl, rfl⟩
   go_wp2
   go_ret
   exact ⟨rfl, Below.refl _ _⟩
end Go.Proofs.Ytjcgbpjgoacdjaa
