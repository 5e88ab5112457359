/- The walks of the laws FnGetLog and FnBroken: what is read is put so; of a log that was changed the records ahead come back. -/
import Derived.Test.YtjcgbpjgoacdjaaZ10
import Derived.Test.YtjcgbpjgoacdjaaDrawLog
import Derived.Test.YtjcgbpjgoacdjaaSameStrs
import Derived.Test.YtjcgbpjgoacdjaaZ0
import Derived.Test.YtjcgbpjgoacdjaaBig
namespace Go.Proofs.Ytjcgbpjgoacdjaa
open Go.RowKit
set_option linter.unusedVariables false

theorem lists_eq {xs ys : List ByteArray} (h : lists xs = lists ys) : xs = ys := (List.map_inj_right (fun x y e => bytes_ext e)).1 h
theorem fit_recs {xs : List ByteArray} (h : recsOk (lists xs)) : FitS xs := fun x hx => by
 have h1 := h x.data.toList (List.mem_map.2 ⟨x, hx, rfl⟩)
 have h2 : x.data.toList.length = x.size := by simp
 unfold maxLen
 omega
theorem few_recs {xs : List ByteArray} {s : ByteArray} (h : logB (lists xs) <+: s.data.toList) : 7 * xs.length ≤ s.size := by
 have h1 := log_count h
 have h2 : s.data.toList.length = s.size := by simp
 rw [lists_len] at h1
 omega
set_option maxHeartbeats 2000000 in
set_option maxRecDepth 100000 in
theorem fnGetLog_walk (a0 : Option Addr) (len0 cap0 : Nat) (z0 : List Int) (w : World) (w0 : IsRow .u8 w a0 len0 cap0 z0) :
   Calls Try.prog 4 #[.slice a0 len0 cap0] w fun e w' => e = .returned (.bool true) ∧ Below w.heap.size w w' := by
 have HR := Lib.hid (bytes_of_row w0 w.heap.size (Nat.le_refl _))
 clear w0
 by_cases hbig : len0 ≤ 1048576
 · go_enter Try.func4, Try.ntmps4
   go_wp2_with fail
   refine (big_no a0 len0 cap0 _ hbig).mono ?_
   rintro e w1 ⟨rfl, rfl⟩
   go_wp2_with fail
   refine (drawGetLog_at a0 len0 cap0 z0 _ HR.out).mono ?_
   rintro e w2 ⟨s, hs, rfl, b2⟩
   have B2 := Lib.hid b2
   clear b2
   go_wp2_with fail
   refine (implGetLog s (by omega) _).mono ?_
   rintro e w3 ⟨v3, xs, b, rfl, hli, o3, b3⟩
   have HLI := Lib.hid hli
   obtain ⟨ad3, c3, rfl⟩ := o3.form
   obtain ⟨n, hn⟩ : ∃ n, xs.length = n := ⟨_, rfl⟩
   have HN := Lib.hid hn
   have hn9 : n ≤ 33000 := by
     rw [← hn]
     rcases hli with ⟨_, _, h1⟩ | ⟨_, h1, _⟩
     · have := few_recs (xs := xs) (s := s) (by rw [h1]; exact List.prefix_rfl)
       omega
     · have h2 := congrArg List.length h1
       rw [lists_len, List.length_nil] at h2
       omega
   have hbb : (b != b) = false := by simp
   have R3 := Lib.hid o3.row
   have B3 := Lib.hid (B2.out.trans (b3.mono B2.out.size))
   clear hli o3 b3 hn
   rw [HN.out] at R3 ⊢
   go_wp2_with fail
   refine (specGetLog s (by omega) _).mono ?_
   rintro e w4 ⟨v4, ys, b', rfl, hli, o4, b4⟩
   obtain ⟨e1, rfl⟩ := logIs_one hli HLI.out
   obtain rfl := lists_eq e1
   obtain ⟨ad4, c4, rfl⟩ := o4.form
   have O4 := Lib.hid o4.row
   have R4 := Lib.hid (R3.out.below b4)
   have B4 := Lib.hid (B3.out.trans (b4.mono B3.out.size))
   clear hli e1 o4 b4
   rw [HN.out] at O4 ⊢
   go_wp2_with fail
   refine (sameStrs_same ad3 ad4 n c3 c4 ys (by omega) _ R4.out O4.out).mono ?_
   rintro e w5 ⟨rfl, b5⟩
   have R5 := Lib.hid (R4.out.below b5)
   have B5 := Lib.hid (B4.out.trans (b5.mono B4.out.size))
   clear b5
   rcases HLI.out with ⟨rfl, hok, hlb⟩ | ⟨rfl, hnil, _⟩
   · have HF := Lib.hid (fit_recs hok)
     have HP := Lib.hid (show putLogB (lists ys) = s.data.toList by rw [putLogB, if_pos hok, hlb])
     clear hok hlb
     go_wp2_with fail
     refine (implPutLog ad3 n c3 ys (by omega) HF.out _ R5.out).mono ?_
     intro e w6 h6
     obtain ⟨Y, hY, hz, rfl, b6⟩ := h6.text
     clear hz
     rw [HP.out] at hY
     obtain rfl : Y = s := bytes_ext hY
     have B6 := Lib.hid (B5.out.trans (b6.mono B5.out.size))
     clear h6 hY b6
     go_wp2
     go_ret
     exact ⟨ret_bool (by simp), B6.out⟩
   · have hn0 : n = 0 := by
       have h2 := congrArg List.length hnil
       rw [lists_len, List.length_nil] at h2
       rw [← HN.out, h2]
     subst hn0
     clear hnil
     go_wp2
     go_ret
     exact ⟨rfl, B5.out⟩
 · go_enter Try.func4, Try.ntmps4
   go_wp2_with fail
   refine (big_yes a0 len0 cap0 _ (by omega)).mono ?_
   rintro e w1 ⟨rfl, rfl⟩
   go_wp2
   go_ret
   exact ⟨rfl, Below.refl _ _⟩
set_option maxHeartbeats 4000000 in
set_option maxRecDepth 100000 in
theorem fnBroken_walk (a0 : Option Addr) (len0 cap0 : Nat) (z0 : List Int) (w : World) (w0 : IsRow .u8 w a0 len0 cap0 z0) :
   Calls Try.prog 6 #[.slice a0 len0 cap0] w fun e w' => e = .returned (.bool true) ∧ Below w.heap.size w w' := by
 have HR := Lib.hid (bytes_of_row w0 w.heap.size (Nat.le_refl _))
 clear w0
 by_cases hbig : len0 ≤ 1048576
 · go_enter Try.func6, Try.ntmps6
   go_wp2_with fail
   refine (big_no a0 len0 cap0 _ hbig).mono ?_
   rintro e w1 ⟨rfl, rfl⟩
   go_wp2_with fail
   refine (drawRecover_at a0 len0 cap0 z0 _ HR.out).mono ?_
   rintro e w2 ⟨s, hs, rfl, b2⟩
   have B2 := Lib.hid b2
   clear b2
   go_wp2_with fail
   refine (implRecover s (by omega) _).mono ?_
   rintro e w3 ⟨v3, xs, rfl, hlo, o3, b3⟩
   have HLO := Lib.hid hlo
   obtain ⟨ad3, c3, rfl⟩ := o3.form
   obtain ⟨n, hn⟩ : ∃ n, xs.length = n := ⟨_, rfl⟩
   have HN := Lib.hid hn
   have hn9 : n ≤ 33000 := by
     rw [← hn]
     have := few_recs (xs := xs) (s := s) hlo.2.1
     omega
   obtain ⟨m, hm⟩ : ∃ m, (logB (lists xs)).length = m := ⟨_, rfl⟩
   have HM := Lib.hid hm
   have hms : m ≤ s.size := by
     rw [← hm]
     have h1 := hlo.2.1.length_le
     have h2 : s.data.toList.length = s.size := by simp
     omega
   obtain ⟨P, hP⟩ : ∃ P, s.extract 0 m = P := ⟨_, rfl⟩
   have HP := Lib.hid hP
   have hPd : P.data.toList = logB (lists xs) := by
     rw [← hP, take_of_extract, ← hm, ← List.prefix_iff_eq_take.1 hlo.2.1]
   have HPD := Lib.hid hPd
   have HPP := Lib.hid (show putLogB (lists xs) = P.data.toList by rw [putLogB, if_pos hlo.1, hPd])
   have HF := Lib.hid (fit_recs hlo.1)
   have hPs : P.size ≤ 1048576 := by rw [← hP, ByteArray.size_extract]; omega
   have R3 := Lib.hid o3.row
   have B3 := Lib.hid (B2.out.trans (b3.mono B2.out.size))
   clear hlo o3 b3 hn hP hPd
   rw [HN.out] at R3 ⊢
   rw [hm]
   clear hm
   go_wp2_with fail
   refine (specRecover s (by omega) _).mono ?_
   rintro e w4 ⟨v4, ys, rfl, hlo, o4, b4⟩
   obtain rfl := lists_eq (longest_one hlo HLO.out)
   obtain ⟨ad4, c4, rfl⟩ := o4.form
   have R4 := Lib.hid (R3.out.below b4)
   have O4 := Lib.hid o4.row
   have B4 := Lib.hid (B3.out.trans (b4.mono B3.out.size))
   have R4d := Lib.hid (R4.out.below (below_draws (B := w4.heap.size) 1))
   have O4d := Lib.hid (O4.out.below (below_draws (B := w4.heap.size) 1))
   have B4d := Lib.hid (B4.out.trans (below_draws (B := w.heap.size) 1))
   rw [HN.out] at O4d ⊢
   rw [HM.out]
   clear hlo o4 b4
   have j0 : (0 : Int) ≤ (m : Int) := by omega
   have j1 : (m : Int) ≤ (s.size : Int) := by omega
   have j2 : ¬ (s.size : Int) < (m : Int) := by omega
   go_wp2_with fail
   refine wp_region_held_drew (S := fun _ => True) (by kernel_rfl) trivial (fun hHeld => ?_)
   refine tk 0 (some 24) ?_ ?hy hHeld ?_
   case hy => (intro w' hS; clear hS; go_simp <;> with_reducible rfl)
   simp only [Act.put, sA, sB, sC]
   refine tk 1 (some 25) ?_ ?hy hHeld ?_
   case hy => (intro w' hS; clear hS; go_simp <;> with_reducible rfl)
   simp only [Act.put, sA, sB, sC]
   refine wpAnyH_ready (rs := [2]) (by kernel_rfl) (by simp) ?_
   refine AllReadyH.cons rfl (fun K hK => ?_) AllReadyH.nil
   go_simp
   refine (sameStrs_same ad3 ad4 n c3 c4 ys (by omega) _ R4d.out O4d.out).mono ?_
   rintro e w5 ⟨rfl, b5⟩
   have R5 := Lib.hid (R4d.out.below b5)
   have B5 := Lib.hid (B4d.out.trans (b5.mono B4d.out.size))
   clear b5
   go_wp2_with fail
   refine hK.out _ _ trivial (fun hHeld => ?_)
   clear hK K
   refine tk 3 (some 27) (.bool false) ?hy hHeld ?_
   case hy => (intro w' hS; clear hS; go_simp <;> with_reducible rfl)
   simp only [Act.put, sA, sB, sC]
   refine tk 4 (some 28) ?_ ?hy hHeld ?_
   case hy => (intro w' hS; clear hS; go_simp <;> with_reducible rfl)
   simp only [Act.put, sA, sB, sC]
   refine tk 5 (some 29) ?_ ?hy hHeld ?_
   case hy => (intro w' hS; clear hS; go_simp <;> with_reducible rfl)
   simp only [Act.put, sA, sB, sC]
   refine tk 6 (some 30) ?_ ?hy hHeld ?_
   case hy => (intro w' hS; clear hS; go_simp <;> with_reducible rfl)
   simp only [Act.put, sA, sB, sC]
   refine tk 7 (some 31) (.bool false) ?hy hHeld ?_
   case hy => (intro w' hS; clear hS; go_simp <;> with_reducible rfl)
   simp only [Act.put, sA, sB, sC]
   refine tk 8 (some 32) (.bool false) ?hy hHeld ?_
   case hy => (intro w' hS; clear hS; go_simp <;> with_reducible rfl)
   simp only [Act.put, sA, sB, sC]
   refine tk 9 (some 33) ?_ ?hy hHeld ?_
   case hy => (intro w' hS; clear hS; go_simp <;> with_reducible rfl)
   simp only [Act.put, sA, sB, sC]
   refine tk 10 (some 34) ?_ ?hy hHeld ?_
   case hy => (intro w' hS; clear hS; go_simp <;> with_reducible rfl)
   simp only [Act.put, sA, sB, sC]
   refine tk 11 (some 35) ?_ ?hy hHeld ?_
   case hy => (intro w' hS; clear hS; go_simp <;> with_reducible rfl)
   simp only [Act.put, sA, sB, sC]
   refine tk 12 (some 36) ?_ ?hy hHeld ?_
   case hy => (intro w' hS; clear hS; go_simp <;> with_reducible rfl)
   simp only [Act.put, sA, sB, sC]
   refine tk 13 (some 37) (.bool false) ?hy hHeld ?_
   case hy => (intro w' hS; clear hS; go_simp <;> with_reducible rfl)
   simp only [Act.put, sA, sB, sC]
   refine tk 14 (some 38) (.bool false) ?hy hHeld ?_
   case hy => (intro w' hS; clear hS; go_simp <;> with_reducible rfl)
   simp only [Act.put, sA, sB, sC]
   refine tk 15 (some 39) ?_ ?hy hHeld ?_
   case hy => (intro w' hS; clear hS; go_simp <;> with_reducible rfl)
   simp only [Act.put, sA, sB, sC]
   refine tk 16 (some 40) ?_ ?hy hHeld ?_
   case hy => (intro w' hS; clear hS; go_simp <;> with_reducible rfl)
   simp only [Act.put, sA, sB, sC]
   refine tk 18 (some 42) ?_ ?hy hHeld ?_
   case hy => (intro w' hS; clear hS; go_simp <;> with_reducible rfl)
   simp only [Act.put, sA, sB, sC]
   refine tk 19 (some 43) ?_ ?hy hHeld ?_
   case hy => (intro w' hS; clear hS; go_simp <;> with_reducible rfl)
   simp only [Act.put, sA, sB, sC]
   refine tk 20 (some 44) (.string P) ?hy hHeld ?_
   case hy => (intro w' hS; clear hS; go_simp; first | (with_reducible rfl) | (rw [HP.out]))
   simp only [Act.put, sA, sB, sC]
   refine wpAnyH_ready (rs := [17]) (by kernel_rfl) (by simp) ?_
   refine AllReadyH.cons rfl (fun K hK => ?_) AllReadyH.nil
   go_simp
   refine (implPutLog ad3 n c3 ys (by omega) HF.out _ R5.out).mono ?_
   intro e w6 h6
   obtain ⟨Y, hY, hz, rfl, b6⟩ := h6.text
   clear hz
   rw [HPP.out] at hY
   obtain rfl : Y = P := bytes_ext hY
   have R6 := Lib.hid (R5.out.below b6)
   have B6 := Lib.hid (B5.out.trans (b6.mono B5.out.size))
   clear h6 hY b6
   go_wp2_with fail
   refine hK.out _ _ trivial (fun hHeld => ?_)
   clear hK K
   refine tk 21 (some 45) (.bool false) ?hy hHeld ?_
   case hy => (intro w' hS; clear hS; go_simp <;> with_reducible rfl)
   simp only [Act.put, sA, sB, sC]
   refine tk 22 (some 46) (.bool false) ?hy hHeld ?_
   case hy => (intro w' hS; clear hS; go_simp <;> with_reducible rfl)
   simp only [Act.put, sA, sB, sC]
   refine wpAnyH_done (by kernel_rfl) ?_ _
   go_wp2_with fail
   try rw [HP.out]
   refine (implRecover Y hPs _).mono ?_
   rintro e w7 ⟨v7, zs, rfl, hlo, o7, b7⟩
   obtain rfl := lists_eq (longest_one hlo (by rw [HPD.out]; exact longest_log HLO.out.1))
   obtain ⟨ad7, c7, rfl⟩ := o7.form
   have O7 := Lib.hid o7.row
   have R7 := Lib.hid (R6.out.below b7)
   have B7 := Lib.hid (B6.out.trans (b7.mono B6.out.size))
   clear hlo o7 b7
   rw [HN.out] at O7 ⊢
   rw [HM.out]
   go_wp2_with fail
   refine (sameStrs_same ad7 ad3 n c7 c3 zs (by omega) _ O7.out R7.out).mono ?_
   rintro e w8 ⟨rfl, b8⟩
   have B8 := Lib.hid (B7.out.trans (b8.mono B7.out.size))
   clear b8
   go_wp2
   go_ret
   exact ⟨rfl, B8.out⟩
 · go_enter Try.func6, Try.ntmps6
   go_wp2_with fail
   refine (big_yes a0 len0 cap0 _ (by omega)).mono ?_
   rintro e w1 ⟨rfl, rfl⟩
   go_wp2
   go_ret
   exact ⟨rfl, Below.refl _ _⟩
end Go.Proofs.Ytjcgbpjgoacdjaa
