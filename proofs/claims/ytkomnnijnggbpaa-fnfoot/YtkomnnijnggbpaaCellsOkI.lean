/- Contract of the program's CellsOk. -/
import Derived.Test.YtkomnnijnggbpaaZ0
import Derived.Test.YtkomnnijnggbpaaCellBefore
import Derived.BigQuiet
import Derived.Deep.RegionHeld3
namespace Go.Proofs.Ytkomnnijnggbpaa
open Go.RowKit
set_option linter.unusedVariables false

set_option maxHeartbeats 4000000 in
set_option maxRecDepth 100000 in
theorem implCellsOkO (a : Option Addr) (n c : Nat) (xs : List Cel) (hn : n ≤ 1048576) (hf : Fit xs) (w : World) (h : CelRowO w a n c xs) :
   Calls Try.prog 24 #[.slice a n c] w fun e w' => e = .returned (.bool (cellsOk xs)) ∧ Below w.heap.size w w' := by
 have HR := Lib.hid h
 have HF := Lib.hid hf
 have hnc := h.2.1
 clear h hf
 go_enter Try.func24, Try.ntmps24
 go_wp2_with fail
 go_loopw [7] (fun ii wr => ∃ i : Nat, i ≤ n ∧ ii = .int .i64 i ∧ Below w.heap.size w wr ∧ Hid (∀ j, j < i → okAt xs j = true)) (fun ii _ => n - (intOf ii).toNat)
 case atStart => exact ⟨0, Nat.zero_le _, rfl, Below.refl _ _, fun j hj => absurd hj (by omega)⟩
 case round =>
   obtain ⟨i, hi, rfl, hbel, HJ⟩ := hrel
   have RR := Lib.hid hbel
   clear hbel
   by_cases hlt : i < n
   · have hx : ∃ y, xs[i]? = some y := ⟨_, List.getElem?_eq_getElem (by rw [HR.out.1]; exact hlt)⟩
     obtain ⟨⟨R, C, T, G, V⟩, hy⟩ := hx
     have HY := Lib.hid hy
     obtain ⟨hR, hC, _⟩ := HF.out.at hy
     obtain ⟨g, off, rfl, hc5⟩ := HR.out.2.2 i _ hy
     have H5 := Lib.hid (hc5.below RR.out)
     clear hy hc5
     have i1 : (i : Int) < (n : Int) := by omega
     obtain ⟨b, hb⟩ : ∃ b, cellOk ⟨R, C, T, G, V⟩ = b := ⟨_, rfl⟩
     have HB := Lib.hid hb
     clear hb
     have E0 := Lib.hid (one5_new wr (.string R) (.string C) (.int .i64 T) (.bool G) (.string V) 36)
     have B0 := Lib.hid (RR.out.trans ((one_below wr (.cells #[.string R, .string C, .int .i64 T, .bool G, .string V] 36)).mono RR.out.size))
     have K0 := Lib.hid (one_below wr (.cells #[.string R, .string C, .int .i64 T, .bool G, .string V] 36))
     cases b
     · have HNO := Lib.hid (cellsOk_no (xs := xs) (i := i) (by rw [HR.out.1]; exact hlt) (by unfold okAt; rw [HY.out]; simp [HB.out]))
       have h5 := H5.out
       unfold Cel5O at h5
       obtain ⟨c0, c1, c2, c3, c4⟩ := h5
       go_wp2_with fail
       obtain ⟨W, hW⟩ : ∃ W, wr.alloc (.cells #[.string R, .string C, .int .i64 T, .bool G, .string V] 36) = W := ⟨_, rfl⟩
       rw [hW] at E0 B0 K0 ⊢
       clear hW
       obtain ⟨A, hA⟩ : ∃ A, wr.heap.size = A := ⟨_, rfl⟩
       rw [hA] at E0 ⊢
       clear hA c0 c1 c2 c3 c4
       refine wp_region_held_drew (S := fun w' => One5 A (.string R) (.string C) (.int .i64 T) (.bool G) (.string V) w') (by kernel_rfl) E0.out (fun hHeld => ?_)
       refine tk 0 (some 12) ?_ ?hy hHeld ?_
       case hy => (intro w' hS; unfold One5 at hS; obtain ⟨s0, s1, s2, s3, s4⟩ := hS; go_simp <;> with_reducible rfl)
       simp only [Act.put, sA, sB, sC]
       refine wpAnyH_ready (rs := [1]) (by kernel_rfl) (by simp) ?_
       refine AllReadyH.cons rfl (fun K hK => ?_) AllReadyH.nil
       go_simp
       refine (implCellOk R C T G V hR hC _).mono ?_
       rw [HB.out]
       rintro e w1 ⟨rfl, hb1⟩
       have E1 := Lib.hid (One5.below (w := W.drew) E0.out hb1)
       have B1 := Lib.hid (B0.out.drew.trans (hb1.mono (by have := B0.out.size; simpa using this)))
       clear hb1
       go_wp2_with fail
       refine hK.out _ _ E1.out (fun hHeld => ?_)
       clear hK K
       refine tk 2 (some 14) ?_ ?hy hHeld ?_
       case hy => (intro w' hS; clear hS; go_simp <;> with_reducible rfl)
       simp only [Act.put, sA, sB, sC]
       refine tk 3 (some 15) ?_ ?hy hHeld ?_
       case hy => (intro w' hS; clear hS; go_simp <;> with_reducible rfl)
       simp only [Act.put, sA, sB, sC]
       refine sk 4 (some 16) hHeld ?_
       simp only [Act.put, sA, sB, sC]
       refine sk 5 (some 17) hHeld ?_
       simp only [Act.put, sA, sB, sC]
       refine sk 6 (some 18) hHeld ?_
       simp only [Act.put, sA, sB, sC]
       refine sk 7 (some 19) hHeld ?_
       simp only [Act.put, sA, sB, sC]
       refine sk 8 (some 20) hHeld ?_
       simp only [Act.put, sA, sB, sC]
       refine sk 9 (some 21) hHeld ?_
       simp only [Act.put, sA, sB, sC]
       refine sk 10 (some 22) hHeld ?_
       simp only [Act.put, sA, sB, sC]
       refine sk 11 (some 23) hHeld ?_
       simp only [Act.put, sA, sB, sC]
       refine sk 12 (some 24) hHeld ?_
       simp only [Act.put, sA, sB, sC]
       refine sk 13 (some 25) hHeld ?_
       simp only [Act.put, sA, sB, sC]
       refine sk 14 (some 26) hHeld ?_
       simp only [Act.put, sA, sB, sC]
       refine sk 15 (some 27) hHeld ?_
       simp only [Act.put, sA, sB, sC]
       refine tk 16 (some 28) ?_ ?hy hHeld ?_
       case hy => (intro w' hS; clear hS; go_simp <;> with_reducible rfl)
       simp only [Act.put, sA, sB, sC]
       refine wpAnyH_done (by kernel_rfl) ?_ _
       go_wp2
       go_ret
       exact ⟨ret_bool HNO.out.symm, B1.out⟩
     · rcases Nat.eq_zero_or_pos i with rfl | hpos
       · have H5 := Lib.hid (show Cel5O wr g off ⟨R, C, T, G, V⟩ by have := H5.out; rwa [Nat.zero_mul, Nat.add_zero] at this)
         have HOK := Lib.hid (show okAt xs 0 = true by rw [okAt_zero HY.out]; exact HB.out)
         have h5 := H5.out
         unfold Cel5O at h5
         obtain ⟨c0, c1, c2, c3, c4⟩ := h5
         go_wp2_with fail
         obtain ⟨W, hW⟩ : ∃ W, wr.alloc (.cells #[.string R, .string C, .int .i64 T, .bool G, .string V] 36) = W := ⟨_, rfl⟩
         rw [hW] at E0 B0 K0 ⊢
         clear hW
         obtain ⟨A, hA⟩ : ∃ A, wr.heap.size = A := ⟨_, rfl⟩
         rw [hA] at E0 ⊢
         clear hA c0 c1 c2 c3 c4
         refine wp_region_held_drew (S := fun w' => One5 A (.string R) (.string C) (.int .i64 T) (.bool G) (.string V) w') (by kernel_rfl) E0.out (fun hHeld => ?_)
         refine tk 0 (some 12) ?_ ?hy hHeld ?_
         case hy => (intro w' hS; unfold One5 at hS; obtain ⟨s0, s1, s2, s3, s4⟩ := hS; go_simp <;> with_reducible rfl)
         simp only [Act.put, sA, sB, sC]
         refine wpAnyH_ready (rs := [1]) (by kernel_rfl) (by simp) ?_
         refine AllReadyH.cons rfl (fun K hK => ?_) AllReadyH.nil
         go_simp
         refine (implCellOk R C T G V hR hC _).mono ?_
         rw [HB.out]
         rintro e w1 ⟨rfl, hb1⟩
         have E1 := Lib.hid (One5.below (w := W.drew) E0.out hb1)
         have B1 := Lib.hid (B0.out.drew.trans (hb1.mono (by have := B0.out.size; simpa using this)))
         clear hb1
         go_wp2_with fail
         refine hK.out _ _ E1.out (fun hHeld => ?_)
         clear hK K
         refine tk 2 (some 14) ?_ ?hy hHeld ?_
         case hy => (intro w' hS; clear hS; go_simp <;> with_reducible rfl)
         simp only [Act.put, sA, sB, sC]
         refine tk 3 (some 15) ?_ ?hy hHeld ?_
         case hy => (intro w' hS; clear hS; go_simp <;> with_reducible rfl)
         simp only [Act.put, sA, sB, sC]
         refine tk 4 (some 16) ?_ ?hy hHeld ?_
         case hy => (intro w' hS; clear hS; go_simp <;> with_reducible rfl)
         simp only [Act.put, sA, sB, sC]
         refine tk 5 (some 17) ?_ ?hy hHeld ?_
         case hy => (intro w' hS; clear hS; go_simp <;> with_reducible rfl)
         simp only [Act.put, sA, sB, sC]
         refine tk 6 (some 18) ?_ ?hy hHeld ?_
         case hy => (intro w' hS; clear hS; go_simp <;> with_reducible rfl)
         simp only [Act.put, sA, sB, sC]
         refine sk 7 (some 19) hHeld ?_
         simp only [Act.put, sA, sB, sC]
         refine sk 8 (some 20) hHeld ?_
         simp only [Act.put, sA, sB, sC]
         refine sk 9 (some 21) hHeld ?_
         simp only [Act.put, sA, sB, sC]
         refine sk 10 (some 22) hHeld ?_
         simp only [Act.put, sA, sB, sC]
         refine sk 11 (some 23) hHeld ?_
         simp only [Act.put, sA, sB, sC]
         refine sk 12 (some 24) hHeld ?_
         simp only [Act.put, sA, sB, sC]
         refine sk 13 (some 25) hHeld ?_
         simp only [Act.put, sA, sB, sC]
         refine sk 14 (some 26) hHeld ?_
         simp only [Act.put, sA, sB, sC]
         refine tk 15 (some 27) ?_ ?hy hHeld ?_
         case hy => (intro w' hS; clear hS; go_simp <;> with_reducible rfl)
         simp only [Act.put, sA, sB, sC]
         refine tk 16 (some 28) ?_ ?hy hHeld ?_
         case hy => (intro w' hS; clear hS; go_simp <;> with_reducible rfl)
         simp only [Act.put, sA, sB, sC]
         refine wpAnyH_done (by kernel_rfl) ?_ _
         go_wp2
         go_roundw
         case rel =>
           refine ⟨0 + 1, by omega, by go_num, B1.out, ?_⟩
           intro j hj
           by_cases hj2 : j < 0
           · exact HJ.out j hj2
           · obtain rfl : j = 0 := by omega
             exact HOK.out
         case measure => simp [intOf]; omega
       · obtain ⟨k, rfl⟩ : ∃ k, i = k + 1 := ⟨i - 1, by omega⟩
         obtain ⟨⟨R', C', T', G', V'⟩, hy'⟩ : ∃ y, xs[k]? = some y := ⟨_, List.getElem?_eq_getElem (by rw [HR.out.1]; omega)⟩
         have HY' := Lib.hid hy'
         obtain ⟨g', off', hg', hc5'⟩ := HR.out.2.2 k _ hy'
         cases hg'
         obtain ⟨hR', hC', _⟩ := HF.out.at hy'
         have M0 := Lib.hid (And.intro E0.out ((hc5'.below RR.out).below K0.out))
         clear hy' hc5'
         have j1 : (k : Int) < (n : Int) := by omega
         have j2 : ((k : Int) + 1) - 1 = (k : Int) := by omega
         have j3 : (((k + 1 : Nat) : Int) - 1) = (k : Int) := by omega
         have j4 : IntKind.i64.wrap (k : Int) = (k : Int) := IntWalk.i64_in _ (by omega)
         have j5 : (0 : Int) ≤ (k : Int) := by omega
         have j6 : (0 : Int) ≤ (k : Int) + 1 := by omega
         obtain ⟨d, hd⟩ : ∃ d, celBefore ⟨R', C', T', G', V'⟩ ⟨R, C, T, G, V⟩ = d := ⟨_, rfl⟩
         have HD := Lib.hid hd
         clear hd
         have HAT := Lib.hid (okAt_succ HY.out HY'.out)
         have h5 := H5.out
         unfold Cel5O at h5
         obtain ⟨c0, c1, c2, c3, c4⟩ := h5
         go_wp2_with fail
         obtain ⟨W, hW⟩ : ∃ W, wr.alloc (.cells #[.string R, .string C, .int .i64 T, .bool G, .string V] 36) = W := ⟨_, rfl⟩
         rw [hW] at E0 B0 K0 M0 ⊢
         clear hW
         obtain ⟨A, hA⟩ : ∃ A, wr.heap.size = A := ⟨_, rfl⟩
         rw [hA] at E0 M0 ⊢
         clear hA c0 c1 c2 c3 c4
         refine wp_region_held_drew (S := fun w' => One5 A (.string R) (.string C) (.int .i64 T) (.bool G) (.string V) w' ∧ Cel5O w' g (off + k * 5) ⟨R', C', T', G', V'⟩) (by kernel_rfl) M0.out (fun hHeld => ?_)
         refine tk 0 (some 12) ?_ ?hy hHeld ?_
         case hy => (intro w' hS; unfold One5 Cel5O at hS; obtain ⟨⟨s0, s1, s2, s3, s4⟩, ⟨s5, s6, s7, s8, s9⟩⟩ := hS; go_simp <;> with_reducible rfl)
         simp only [Act.put, sA, sB, sC]
         refine wpAnyH_ready (rs := [1]) (by kernel_rfl) (by simp) ?_
         refine AllReadyH.cons rfl (fun K hK => ?_) AllReadyH.nil
         go_simp
         refine (implCellOk R C T G V hR hC _).mono ?_
         rw [HB.out]
         rintro e w1 ⟨rfl, hb1⟩
         have M1 := Lib.hid (And.intro (One5.below (w := W.drew) M0.out.1 hb1) (Cel5O.below (w := W.drew) M0.out.2 hb1))
         have B1 := Lib.hid (B0.out.drew.trans (hb1.mono (by have := B0.out.size; simpa using this)))
         clear hb1
         go_wp2_with fail
         refine hK.out _ _ M1.out (fun hHeld => ?_)
         clear hK K
         refine tk 2 (some 14) ?_ ?hy hHeld ?_
         case hy => (intro w' hS; clear hS; go_simp <;> with_reducible rfl)
         simp only [Act.put, sA, sB, sC]
         refine tk 3 (some 15) ?_ ?hy hHeld ?_
         case hy => (intro w' hS; clear hS; go_simp <;> with_reducible rfl)
         simp only [Act.put, sA, sB, sC]
         refine tk 4 (some 16) ?_ ?hy hHeld ?_
         case hy => (intro w' hS; clear hS; go_simp <;> with_reducible rfl)
         simp only [Act.put, sA, sB, sC]
         refine tk 5 (some 17) ?_ ?hy hHeld ?_
         case hy => (intro w' hS; clear hS; go_simp <;> with_reducible rfl)
         simp only [Act.put, sA, sB, sC]
         refine tk 6 (some 18) ?_ ?hy hHeld ?_
         case hy => (intro w' hS; clear hS; go_simp <;> with_reducible rfl)
         simp only [Act.put, sA, sB, sC]
         refine tk 7 (some 19) ?_ ?hy hHeld ?_
         case hy => (intro w' hS; clear hS; go_simp <;> with_reducible rfl)
         simp only [Act.put, sA, sB, sC]
         refine tk 8 (some 20) ?_ ?hy hHeld ?_
         case hy => (intro w' hS; clear hS; go_simp <;> with_reducible rfl)
         simp only [Act.put, sA, sB, sC]
         refine tk 9 (some 21) ?_ ?hy hHeld ?_
         case hy => (intro w' hS; clear hS; go_simp <;> with_reducible rfl)
         simp only [Act.put, sA, sB, sC]
         refine tk 10 (some 22) ?_ ?hy hHeld ?_
         case hy => (intro w' hS; clear hS; go_simp <;> with_reducible rfl)
         simp only [Act.put, sA, sB, sC]
         refine tk 11 (some 23) ?_ ?hy hHeld ?_
         case hy => (intro w' hS; unfold One5 Cel5O at hS; obtain ⟨⟨s0, s1, s2, s3, s4⟩, ⟨s5, s6, s7, s8, s9⟩⟩ := hS; go_simp <;> with_reducible rfl)
         simp only [Act.put, sA, sB, sC]
         refine tk 12 (some 24) ?_ ?hy hHeld ?_
         case hy => (intro w' hS; unfold One5 Cel5O at hS; obtain ⟨⟨s0, s1, s2, s3, s4⟩, ⟨s5, s6, s7, s8, s9⟩⟩ := hS; go_simp <;> with_reducible rfl)
         simp only [Act.put, sA, sB, sC]
         refine wpAnyH_ready (rs := [13]) (by kernel_rfl) (by simp) ?_
         refine AllReadyH.cons rfl (fun K hK => ?_) AllReadyH.nil
         go_simp
         refine (implCellBefore R' C' T' G' V' R C T G V _).mono ?_
         rw [HD.out]
         rintro e w2 ⟨rfl, hb2⟩
         have M2 := Lib.hid (And.intro (M1.out.1.below hb2) (M1.out.2.below hb2))
         have B2 := Lib.hid (B1.out.trans (hb2.mono B1.out.size))
         clear hb2
         go_wp2_with fail
         refine hK.out _ _ M2.out (fun hHeld => ?_)
         clear hK K
         refine tk 14 (some 26) ?_ ?hy hHeld ?_
         case hy => (intro w' hS; clear hS; go_simp <;> with_reducible rfl)
         simp only [Act.put, sA, sB, sC]
         refine tk 15 (some 27) ?_ ?hy hHeld ?_
         case hy => (intro w' hS; clear hS; go_simp <;> with_reducible rfl)
         simp only [Act.put, sA, sB, sC]
         refine tk 16 (some 28) ?_ ?hy hHeld ?_
         case hy => (intro w' hS; clear hS; go_simp <;> with_reducible rfl)
         simp only [Act.put, sA, sB, sC]
         refine wpAnyH_done (by kernel_rfl) ?_ _
         cases d
         · have HNO := Lib.hid (cellsOk_no (xs := xs) (i := k + 1) (by rw [HR.out.1]; exact hlt) (by rw [HAT.out, HB.out, HD.out]; rfl))
           go_wp2
           go_ret
           exact ⟨ret_bool HNO.out.symm, B2.out⟩
         · have HOK := Lib.hid (show okAt xs (k + 1) = true by rw [HAT.out, HB.out, HD.out]; rfl)
           go_wp2
           go_roundw
           case rel =>
             refine ⟨k + 1 + 1, by omega, by go_num, B2.out, ?_⟩
             intro j hj
             by_cases hj2 : j < k + 1
             · exact HJ.out j hj2
             · obtain rfl : j = k + 1 := by omega
               exact HOK.out
           case measure => simp [intOf]; omega
   · obtain rfl : i = n := by omega
     have HYES := Lib.hid (cellsOk_yes (xs := xs) (fun j hj => HJ.out j (by rw [HR.out.1] at hj; exact hj)))
     go_wp2
     go_ret
     exact ⟨ret_bool HYES.out.symm, RR.out⟩
end Go.Proofs.Ytkomnnijnggbpaa
