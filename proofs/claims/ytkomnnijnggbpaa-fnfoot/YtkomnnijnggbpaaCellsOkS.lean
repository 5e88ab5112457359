/- Contract of the model's CellsOk. -/
import Derived.Test.YtkomnnijnggbpaaZ0
import Derived.Test.YtkomnnijnggbpaaCellOkS
import Derived.Test.YtkomnnijnggbpaaCellBefore
import Derived.BigQuiet
import Derived.Deep.RegionHeld3
namespace Go.Proofs.Ytkomnnijnggbpaa
open Go.RowKit
set_option linter.unusedVariables false

set_option maxHeartbeats 4000000 in
set_option maxRecDepth 100000 in
theorem specCellsOkO (a : Option Addr) (n c : Nat) (xs : List Cel) (hn : n ≤ 1048576) (hf : Fit xs) (w : World) (h : CelRowO w a n c xs) :
   Calls Try.prog 29 #[.slice a n c] w fun e w' => e = .returned (.bool (cellsOk xs)) ∧ Below w.heap.size w w' := by
 have HR := Lib.hid h
 have HF := Lib.hid hf
 have hnc := h.2.1
 clear h hf
 go_enter Try.func29, Try.ntmps29
 go_wp2_with fail
 go_loopw [3] (fun ii wr => ∃ i : Nat, i ≤ n ∧ ii = .int .i64 i ∧ Below w.heap.size w wr ∧ Hid (∀ j, j < i → okAt xs j = true)) (fun ii _ => n - (intOf ii).toNat)
 case atStart => exact ⟨0, Nat.zero_le _, rfl, Below.refl _ _, fun j hj => absurd hj (by omega)⟩
 case round =>
   obtain ⟨i, hi, rfl, hbel, HJ⟩ := hrel
   have RR := Lib.hid hbel
   clear hbel
   by_cases hlt : i < n
   · have hx : ∃ y, xs[i]? = some y := ⟨_, List.getElem?_eq_getElem (by rw [HR.out.1]; exact hlt)⟩
     obtain ⟨⟨R, C, T, G, V⟩, hy⟩ := hx
     have HY := Lib.hid hy
     obtain ⟨hR, hC, _⟩ := HF.out.at hy
     obtain ⟨g, off, rfl, hc5⟩ := HR.out.2.2 i _ hy
     have H5 := Lib.hid (hc5.below RR.out)
     clear hy hc5
     have i1 : (i : Int) < (n : Int) := by omega
     obtain ⟨b, hb⟩ : ∃ b, cellOk ⟨R, C, T, G, V⟩ = b := ⟨_, rfl⟩
     have HB := Lib.hid hb
     clear hb
     cases b
     · have HNO := Lib.hid (cellsOk_no (xs := xs) (i := i) (by rw [HR.out.1]; exact hlt) (by unfold okAt; rw [HY.out]; simp [HB.out]))
       go_wp2_with fail
       refine wp_region_held_drew (S := fun w' => Cel5O w' g (off + i * 5) ⟨R, C, T, G, V⟩) (by kernel_rfl) H5.out (fun hHeld => ?_)
       refine tk 0 (some 10) ?_ ?hy hHeld ?_
       case hy => (intro w' hS; clear hS; go_simp <;> with_reducible rfl)
       simp only [Act.put, sA, sB, sC]
       refine tk 1 (some 11) ?_ ?hy hHeld ?_
       case hy => (intro w' hS; clear hS; go_simp <;> with_reducible rfl)
       simp only [Act.put, sA, sB, sC]
       refine tk 2 (some 12) ?_ ?hy hHeld ?_
       case hy => (intro w' hS; clear hS; go_simp <;> with_reducible rfl)
       simp only [Act.put, sA, sB, sC]
       refine tk 3 (some 13) ?_ ?hy hHeld ?_
       case hy => (intro w' hS; unfold Cel5O at hS; obtain ⟨s0, s1, s2, s3, s4⟩ := hS; go_simp <;> with_reducible rfl)
       simp only [Act.put, sA, sB, sC]
       refine wpAnyH_ready (rs := [4]) (by kernel_rfl) (by simp) ?_
       refine AllReadyH.cons rfl (fun K hK => ?_) AllReadyH.nil
       go_simp
       refine (specCellOk R C T G V hR hC _).mono ?_
       rw [HB.out]
       rintro e w1 ⟨rfl, hb1⟩
       have E1 := Lib.hid (Cel5O.below (w := wr.drew) H5.out hb1)
       have B1 := Lib.hid (RR.out.drew.trans (hb1.mono (by have := RR.out.size; simpa using this)))
       clear hb1
       go_wp2_with fail
       refine hK.out _ _ E1.out (fun hHeld => ?_)
       clear hK K
       refine tk 5 (some 15) ?_ ?hy hHeld ?_
       case hy => (intro w' hS; clear hS; go_simp <;> with_reducible rfl)
       simp only [Act.put, sA, sB, sC]
       refine tk 6 (some 16) ?_ ?hy hHeld ?_
       case hy => (intro w' hS; clear hS; go_simp <;> with_reducible rfl)
       simp only [Act.put, sA, sB, sC]
       refine sk 7 (some 17) hHeld ?_
       simp only [Act.put, sA, sB, sC]
       refine sk 8 (some 18) hHeld ?_
       simp only [Act.put, sA, sB, sC]
       refine sk 9 (some 19) hHeld ?_
       simp only [Act.put, sA, sB, sC]
       refine sk 10 (some 20) hHeld ?_
       simp only [Act.put, sA, sB, sC]
       refine sk 11 (some 21) hHeld ?_
       simp only [Act.put, sA, sB, sC]
       refine sk 12 (some 22) hHeld ?_
       simp only [Act.put, sA, sB, sC]
       refine sk 13 (some 23) hHeld ?_
       simp only [Act.put, sA, sB, sC]
       refine sk 14 (some 24) hHeld ?_
       simp only [Act.put, sA, sB, sC]
       refine sk 15 (some 25) hHeld ?_
       simp only [Act.put, sA, sB, sC]
       refine sk 16 (some 26) hHeld ?_
       simp only [Act.put, sA, sB, sC]
       refine sk 17 (some 27) hHeld ?_
       simp only [Act.put, sA, sB, sC]
       refine sk 18 (some 28) hHeld ?_
       simp only [Act.put, sA, sB, sC]
       refine sk 19 (some 29) hHeld ?_
       simp only [Act.put, sA, sB, sC]
       refine sk 20 (some 30) hHeld ?_
       simp only [Act.put, sA, sB, sC]
       refine sk 21 (some 31) hHeld ?_
       simp only [Act.put, sA, sB, sC]
       refine tk 22 (some 32) ?_ ?hy hHeld ?_
       case hy => (intro w' hS; clear hS; go_simp <;> with_reducible rfl)
       simp only [Act.put, sA, sB, sC]
       refine wpAnyH_done (by kernel_rfl) ?_ _
       go_wp2
       go_ret
       exact ⟨ret_bool HNO.out.symm, B1.out⟩
     · rcases Nat.eq_zero_or_pos i with rfl | hpos
       · have H5 := Lib.hid (show Cel5O wr g off ⟨R, C, T, G, V⟩ by have := H5.out; rwa [Nat.zero_mul, Nat.add_zero] at this)
         have HOK := Lib.hid (show okAt xs 0 = true by rw [okAt_zero HY.out]; exact HB.out)
         go_wp2_with fail
         refine wp_region_held_drew (S := fun w' => Cel5O w' g off ⟨R, C, T, G, V⟩) (by kernel_rfl) H5.out (fun hHeld => ?_)
         refine tk 0 (some 10) ?_ ?hy hHeld ?_
         case hy => (intro w' hS; clear hS; go_simp <;> with_reducible rfl)
         simp only [Act.put, sA, sB, sC]
         refine tk 1 (some 11) ?_ ?hy hHeld ?_
         case hy => (intro w' hS; clear hS; go_simp <;> with_reducible rfl)
         simp only [Act.put, sA, sB, sC]
         refine tk 2 (some 12) ?_ ?hy hHeld ?_
         case hy => (intro w' hS; clear hS; go_simp <;> with_reducible rfl)
         simp only [Act.put, sA, sB, sC]
         refine tk 3 (some 13) ?_ ?hy hHeld ?_
         case hy => (intro w' hS; unfold Cel5O at hS; obtain ⟨s0, s1, s2, s3, s4⟩ := hS; go_simp <;> with_reducible rfl)
         simp only [Act.put, sA, sB, sC]
         refine wpAnyH_ready (rs := [4]) (by kernel_rfl) (by simp) ?_
         refine AllReadyH.cons rfl (fun K hK => ?_) AllReadyH.nil
         go_simp
         refine (specCellOk R C T G V hR hC _).mono ?_
         rw [HB.out]
         rintro e w1 ⟨rfl, hb1⟩
         have E1 := Lib.hid (Cel5O.below (w := wr.drew) H5.out hb1)
         have B1 := Lib.hid (RR.out.drew.trans (hb1.mono (by have := RR.out.size; simpa using this)))
         clear hb1
         go_wp2_with fail
         refine hK.out _ _ E1.out (fun hHeld => ?_)
         clear hK K
         refine tk 5 (some 15) ?_ ?hy hHeld ?_
         case hy => (intro w' hS; clear hS; go_simp <;> with_reducible rfl)
         simp only [Act.put, sA, sB, sC]
         refine tk 6 (some 16) ?_ ?hy hHeld ?_
         case hy => (intro w' hS; clear hS; go_simp <;> with_reducible rfl)
         simp only [Act.put, sA, sB, sC]
         refine tk 7 (some 17) ?_ ?hy hHeld ?_
         case hy => (intro w' hS; clear hS; go_simp <;> with_reducible rfl)
         simp only [Act.put, sA, sB, sC]
         refine tk 8 (some 18) ?_ ?hy hHeld ?_
         case hy => (intro w' hS; clear hS; go_simp <;> with_reducible rfl)
         simp only [Act.put, sA, sB, sC]
         refine tk 9 (some 19) ?_ ?hy hHeld ?_
         case hy => (intro w' hS; clear hS; go_simp <;> with_reducible rfl)
         simp only [Act.put, sA, sB, sC]
         refine sk 10 (some 20) hHeld ?_
         simp only [Act.put, sA, sB, sC]
         refine sk 11 (some 21) hHeld ?_
         simp only [Act.put, sA, sB, sC]
         refine sk 12 (some 22) hHeld ?_
         simp only [Act.put, sA, sB, sC]
         refine sk 13 (some 23) hHeld ?_
         simp only [Act.put, sA, sB, sC]
         refine sk 14 (some 24) hHeld ?_
         simp only [Act.put, sA, sB, sC]
         refine sk 15 (some 25) hHeld ?_
         simp only [Act.put, sA, sB, sC]
         refine sk 16 (some 26) hHeld ?_
         simp only [Act.put, sA, sB, sC]
         refine sk 17 (some 27) hHeld ?_
         simp only [Act.put, sA, sB, sC]
         refine sk 18 (some 28) hHeld ?_
         simp only [Act.put, sA, sB, sC]
         refine sk 19 (some 29) hHeld ?_
         simp only [Act.put, sA, sB, sC]
         refine sk 20 (some 30) hHeld ?_
         simp only [Act.put, sA, sB, sC]
         refine tk 21 (some 31) ?_ ?hy hHeld ?_
         case hy => (intro w' hS; clear hS; go_simp <;> with_reducible rfl)
         simp only [Act.put, sA, sB, sC]
         refine tk 22 (some 32) ?_ ?hy hHeld ?_
         case hy => (intro w' hS; clear hS; go_simp <;> with_reducible rfl)
         simp only [Act.put, sA, sB, sC]
         refine wpAnyH_done (by kernel_rfl) ?_ _
         go_wp2
         go_roundw
         case rel =>
           refine ⟨0 + 1, by omega, by go_num, B1.out, ?_⟩
           intro j hj
           by_cases hj2 : j < 0
           · exact HJ.out j hj2
           · obtain rfl : j = 0 := by omega
             exact HOK.out
         case measure => simp [intOf]; omega
       · obtain ⟨k, rfl⟩ : ∃ k, i = k + 1 := ⟨i - 1, by omega⟩
         obtain ⟨⟨R', C', T', G', V'⟩, hy'⟩ : ∃ y, xs[k]? = some y := ⟨_, List.getElem?_eq_getElem (by rw [HR.out.1]; omega)⟩
         have HY' := Lib.hid hy'
         obtain ⟨g', off', hg', hc5'⟩ := HR.out.2.2 k _ hy'
         cases hg'
         obtain ⟨hR', hC', _⟩ := HF.out.at hy'
         have M0 := Lib.hid (And.intro H5.out (hc5'.below RR.out))
         clear hy' hc5'
         have j1 : (k : Int) < (n : Int) := by omega
         have j2 : ((k : Int) + 1) - 1 = (k : Int) := by omega
         have j3 : (((k + 1 : Nat) : Int) - 1) = (k : Int) := by omega
         have j4 : IntKind.i64.wrap (k : Int) = (k : Int) := IntWalk.i64_in _ (by omega)
         have j5 : (0 : Int) ≤ (k : Int) := by omega
         have j6 : (0 : Int) ≤ (k : Int) + 1 := by omega
         obtain ⟨d, hd⟩ : ∃ d, celBefore ⟨R', C', T', G', V'⟩ ⟨R, C, T, G, V⟩ = d := ⟨_, rfl⟩
         have HD := Lib.hid hd
         clear hd
         have HAT := Lib.hid (okAt_succ HY.out HY'.out)
         go_wp2_with fail
         refine wp_region_held_drew (S := fun w' => Cel5O w' g (off + (k + 1) * 5) ⟨R, C, T, G, V⟩ ∧ Cel5O w' g (off + k * 5) ⟨R', C', T', G', V'⟩) (by kernel_rfl) M0.out (fun hHeld => ?_)
         refine tk 0 (some 10) ?_ ?hy hHeld ?_
         case hy => (intro w' hS; clear hS; go_simp <;> with_reducible rfl)
         simp only [Act.put, sA, sB, sC]
         refine tk 1 (some 11) ?_ ?hy hHeld ?_
         case hy => (intro w' hS; clear hS; go_simp <;> with_reducible rfl)
         simp only [Act.put, sA, sB, sC]
         refine tk 2 (some 12) ?_ ?hy hHeld ?_
         case hy => (intro w' hS; clear hS; go_simp <;> with_reducible rfl)
         simp only [Act.put, sA, sB, sC]
         refine tk 3 (some 13) ?_ ?hy hHeld ?_
         case hy => (intro w' hS; unfold Cel5O at hS; obtain ⟨⟨s0, s1, s2, s3, s4⟩, ⟨s5, s6, s7, s8, s9⟩⟩ := hS; go_simp <;> with_reducible rfl)
         simp only [Act.put, sA, sB, sC]
         refine wpAnyH_ready (rs := [4]) (by kernel_rfl) (by simp) ?_
         refine AllReadyH.cons rfl (fun K hK => ?_) AllReadyH.nil
         go_simp
         refine (specCellOk R C T G V hR hC _).mono ?_
         rw [HB.out]
         rintro e w1 ⟨rfl, hb1⟩
         have M1 := Lib.hid (And.intro (Cel5O.below (w := wr.drew) M0.out.1 hb1) (Cel5O.below (w := wr.drew) M0.out.2 hb1))
         have B1 := Lib.hid (RR.out.drew.trans (hb1.mono (by have := RR.out.size; simpa using this)))
         clear hb1
         go_wp2_with fail
         refine hK.out _ _ M1.out (fun hHeld => ?_)
         clear hK K
         refine tk 5 (some 15) ?_ ?hy hHeld ?_
         case hy => (intro w' hS; clear hS; go_simp <;> with_reducible rfl)
         simp only [Act.put, sA, sB, sC]
         refine tk 6 (some 16) ?_ ?hy hHeld ?_
         case hy => (intro w' hS; clear hS; go_simp <;> with_reducible rfl)
         simp only [Act.put, sA, sB, sC]
         refine tk 7 (some 17) ?_ ?hy hHeld ?_
         case hy => (intro w' hS; clear hS; go_simp <;> with_reducible rfl)
         simp only [Act.put, sA, sB, sC]
         refine tk 8 (some 18) ?_ ?hy hHeld ?_
         case hy => (intro w' hS; clear hS; go_simp <;> with_reducible rfl)
         simp only [Act.put, sA, sB, sC]
         refine tk 9 (some 19) ?_ ?hy hHeld ?_
         case hy => (intro w' hS; clear hS; go_simp <;> with_reducible rfl)
         simp only [Act.put, sA, sB, sC]
         refine tk 10 (some 20) ?_ ?hy hHeld ?_
         case hy => (intro w' hS; clear hS; go_simp <;> with_reducible rfl)
         simp only [Act.put, sA, sB, sC]
         refine tk 11 (some 21) ?_ ?hy hHeld ?_
         case hy => (intro w' hS; clear hS; go_simp <;> with_reducible rfl)
         simp only [Act.put, sA, sB, sC]
         refine tk 12 (some 22) ?_ ?hy hHeld ?_
         case hy => (intro w' hS; clear hS; go_simp <;> with_reducible rfl)
         simp only [Act.put, sA, sB, sC]
         refine tk 13 (some 23) ?_ ?hy hHeld ?_
         case hy => (intro w' hS; clear hS; go_simp <;> with_reducible rfl)
         simp only [Act.put, sA, sB, sC]
         refine tk 14 (some 24) ?_ ?hy hHeld ?_
         case hy => (intro w' hS; unfold Cel5O at hS; obtain ⟨⟨s0, s1, s2, s3, s4⟩, ⟨s5, s6, s7, s8, s9⟩⟩ := hS; go_simp <;> with_reducible rfl)
         simp only [Act.put, sA, sB, sC]
         refine tk 15 (some 25) ?_ ?hy hHeld ?_
         case hy => (intro w' hS; clear hS; go_simp <;> with_reducible rfl)
         simp only [Act.put, sA, sB, sC]
         refine tk 16 (some 26) ?_ ?hy hHeld ?_
         case hy => (intro w' hS; clear hS; go_simp <;> with_reducible rfl)
         simp only [Act.put, sA, sB, sC]
         refine tk 17 (some 27) ?_ ?hy hHeld ?_
         case hy => (intro w' hS; clear hS; go_simp <;> with_reducible rfl)
         simp only [Act.put, sA, sB, sC]
         refine tk 18 (some 28) ?_ ?hy hHeld ?_
         case hy => (intro w' hS; unfold Cel5O at hS; obtain ⟨⟨s0, s1, s2, s3, s4⟩, ⟨s5, s6, s7, s8, s9⟩⟩ := hS; go_simp <;> with_reducible rfl)
         simp only [Act.put, sA, sB, sC]
         refine wpAnyH_ready (rs := [19]) (by kernel_rfl) (by simp) ?_
         refine AllReadyH.cons rfl (fun K hK => ?_) AllReadyH.nil
         go_simp
         refine (specCellBefore R' C' T' G' V' R C T G V hR' hC' hR hC _).mono ?_
         rw [HD.out]
         rintro e w2 ⟨rfl, hb2⟩
         have M2 := Lib.hid (And.intro (M1.out.1.below hb2) (M1.out.2.below hb2))
         have B2 := Lib.hid (B1.out.trans (hb2.mono B1.out.size))
         clear hb2
         go_wp2_with fail
         refine hK.out _ _ M2.out (fun hHeld => ?_)
         clear hK K
         refine tk 20 (some 30) ?_ ?hy hHeld ?_
         case hy => (intro w' hS; clear hS; go_simp <;> with_reducible rfl)
         simp only [Act.put, sA, sB, sC]
         refine tk 21 (some 31) ?_ ?hy hHeld ?_
         case hy => (intro w' hS; clear hS; go_simp <;> with_reducible rfl)
         simp only [Act.put, sA, sB, sC]
         refine tk 22 (some 32) ?_ ?hy hHeld ?_
         case hy => (intro w' hS; clear hS; go_simp <;> with_reducible rfl)
         simp only [Act.put, sA, sB, sC]
         refine wpAnyH_done (by kernel_rfl) ?_ _
         cases d
         · have HNO := Lib.hid (cellsOk_no (xs := xs) (i := k + 1) (by rw [HR.out.1]; exact hlt) (by rw [HAT.out, HB.out, HD.out]; rfl))
           go_wp2
           go_ret
           exact ⟨ret_bool HNO.out.symm, B2.out⟩
         · have HOK := Lib.hid (show okAt xs (k + 1) = true by rw [HAT.out, HB.out, HD.out]; rfl)
           go_wp2
           go_roundw
           case rel =>
             refine ⟨k + 1 + 1, by omega, by go_num, B2.out, ?_⟩
             intro j hj
             by_cases hj2 : j < k + 1
             · exact HJ.out j hj2
             · obtain rfl : j = k + 1 := by omega
               exact HOK.out
           case measure => simp [intOf]; omega
   · obtain rfl : i = n := by omega
     have HYES := Lib.hid (cellsOk_yes (xs := xs) (fun j hj => HJ.out j (by rw [HR.out.1] at hj; exact hj)))
     go_wp2
     go_ret
     exact ⟨ret_bool HYES.out.symm, RR.out⟩
theorem specCellsOk (a : Option Addr) (n c : Nat) (xs : List Cel) (hn : n ≤ 1048576) (hf : Fit xs) (w : World) (h : CelRow w a n c xs) :
   Calls Try.prog 29 #[.slice a n c] w fun e w' => e = .returned (.bool (cellsOk xs)) ∧ Below w.heap.size w w' := specCellsOkO a n c xs hn hf w h.o
end Go.Proofs.Ytkomnnijnggbpaa
