/- The model's PutBlock. -/
import Derived.Test.YtkomnnijnggbpaaZ0
import Derived.Test.YtkomnnijnggbpaaKeyOf
import Derived.Test.YtkomnnijnggbpaaZ1
import Derived.Test.YtkomnnijnggbpaaPutFix
import Derived.Test.YtkomnnijnggbpaaCellsOkS
namespace Go.Proofs.Ytkomnnijnggbpaa
open Go.RowKit
set_option linter.unusedVariables false

theorem drop_text (s : ByteArray) (n : Nat) : (s.extract n s.size).data.toList = s.data.toList.drop n := by
 simp only [ByteArray.data_extract, Array.toList_extract, List.extract_eq_take_drop]
 rw [List.take_of_length_le (by simp)]
theorem block_text {xs : List Cel} {e : Nat} {O S F : ByteArray} (hO : O.data.toList = entries e 0 [] xs) (hS : S.data.toList = startsB e 0 0 [] xs) (hF : F.data.toList = fixB (S.size / 2) 2) : (O ++ S ++ F).data.toList = block xs e := by
 have hl : S.size = (startsB e 0 0 [] xs).length := by rw [← hS]; simp
 unfold block
 simp only [ByteArray.data_append, Array.toList_append, List.append_assoc]
 rw [hO, hS, hF, hl]

set_option maxHeartbeats 4000000 in
set_option maxRecDepth 100000 in
theorem specPutBlock_in (a : Option Addr) (m c : Nat) (xs : List Cel) (e : Nat) (h1 : 1 ≤ e) (h16 : e ≤ 16) (hm : m ≤ 50) (hf : Fit xs) (hok : cellsOk xs = true) (w : World) (h : CelRowO w a m c xs) :
   Calls Try.prog 31 #[.slice a m c, .int .i64 e] w (TextIs w (block xs e)) := by
 have HR := Lib.hid h
 have HF := Lib.hid hf
 have HB := Lib.hid hok
 have hmc := h.2.1
 clear h hf hok
 go_enter Try.func31, Try.ntmps31
 go_wp2_with fail
 refine (specCellsOkO a m c xs (by omega) HF.out _ HR.out).mono ?_
 rw [HB.out]
 rintro e' w1 ⟨rfl, hb1⟩
 have B1 := Lib.hid hb1
 clear hb1
 go_wp2_with fail
 refine (specIn_yes _ _ _ _ (by omega) (by omega)).mono ?_
 rintro e' w1' ⟨rfl, rfl⟩
 go_wp2_with fail
 go_loopw [5, 6, 7, 8] (fun o l s ii wr => ∃ (i : Nat) (O L S : ByteArray), i ≤ m ∧ ii = .int .i64 i ∧ o = .string O ∧ l = .string L ∧ s = .string S ∧ O.size ≤ 71 * i ∧ L.size ≤ 38 ∧ S.size ≤ 2 * i ∧ Hid (O.data.toList = entries e 0 [] (xs.take i) ∧ L.data.toList = lastOf [] (xs.take i) ∧ S.data.toList = startsB e 0 0 [] (xs.take i)) ∧ Below w.heap.size w wr) (fun _ _ _ ii _ => m - (intOf ii).toNat)
 case atStart => exact ⟨0, ⟨#[]⟩, ⟨#[]⟩, ⟨#[]⟩, Nat.zero_le _, rfl, rfl, rfl, rfl, by decide, by decide, by decide, ⟨rfl, rfl, rfl⟩, B1.out⟩
 case round =>
   obtain ⟨i, O, L, S, hi, rfl, rfl, rfl, rfl, hO, hL, hS, HST, hbel⟩ := hrel
   have QR := Lib.hid hbel
   clear hbel B1
   by_cases hlt : i < m
   · obtain ⟨⟨R, C, T, G, V⟩, hy⟩ : ∃ y, xs[i]? = some y := ⟨_, List.getElem?_eq_getElem (by rw [HR.out.1]; exact hlt)⟩
     have HY := Lib.hid hy
     have hck := cells_ok HB.out hy
     obtain ⟨hR, hC, _⟩ := HF.out.at hy
     have hkl := key_small hck
     have hvl : V.size ≤ 30 := value_small hck
     obtain ⟨g, off, rfl, k5⟩ := (HR.out.below QR.out).2.2 i _ hy
     unfold Cel5O at k5
     obtain ⟨c0, c1, c2, c3, c4⟩ := k5
     have i1 : (i : Int) < (m : Int) := by omega
     have E0 := Lib.hid (one5_new wr (.string R) (.string C) (.int .i64 T) (.bool G) (.string V) 36)
     have Q0 := Lib.hid (QR.out.trans ((one_below wr (.cells #[.string R, .string C, .int .i64 T, .bool G, .string V] 36)).mono QR.out.size))
     clear hy hck
     go_wp2_with fail
     obtain ⟨W0, hW⟩ : ∃ W, wr.alloc (.cells #[.string R, .string C, .int .i64 T, .bool G, .string V] 36) = W := ⟨_, rfl⟩
     rw [hW] at E0 Q0 ⊢
     clear hW
     obtain ⟨A, hA⟩ : ∃ A, wr.heap.size = A := ⟨_, rfl⟩
     rw [hA] at E0 ⊢
     clear hA c0 c1 c2 c3 c4
     refine (specKeyOf R C T hR hC _).mono ?_
     intro e' w1 t1
     obtain ⟨K, hK, hKz, rfl, hb1⟩ := t1.text
     have HK := Lib.hid (show K.data.toList = celKey ⟨R, C, T, G, V⟩ from hK)
     have hKs : K.size ≤ 38 := by rw [hKz]; exact hkl
     have HKL := Lib.hid (show (celKey ⟨R, C, T, G, V⟩).length = K.size from hKz.symm)
     have E1 := Lib.hid (E0.out.below hb1)
     have Q1 := Lib.hid (Q0.out.trans (hb1.mono Q0.out.size))
     clear hK hKz hb1 t1 hkl E0 Q0
     go_wp2_with fail
     refine (specShared L K _ (by unfold maxLen; omega) (by unfold maxLen; omega)).mono ?_
     rintro e' w2 ⟨rfl, n2, rfl⟩
     have hKl : K.data.toList.length = K.size := by simp
     have hs1 := shared_le_right L.data.toList K.data.toList
     rw [hKl] at hs1
     obtain ⟨sh, hsh⟩ : ∃ sh, shared L.data.toList K.data.toList = sh := ⟨_, rfl⟩
     rw [hsh] at hs1 ⊢
     have HS0 := Lib.hid (show shared (lastOf [] (xs.take i)) (celKey ⟨R, C, T, G, V⟩) = sh by rw [← HST.out.2.1, ← HK.out]; exact hsh)
     have E2 := Lib.hid (E1.out.below (below_draws (B := w1.heap.size) n2))
     have Q2 := Lib.hid (Q1.out.trans (below_draws (B := w.heap.size) n2))
     generalize w1.drewN n2 = w2 at *
     clear hKl hsh E1 Q1
     have hd0 : ((e : Int) == 0) = false := beq_eq_false_iff_ne.2 (by omega)
     by_cases hmod : i % e = 0
     · have hmi : (i : Int) % (e : Int) = 0 := by omega
       have HSH := Lib.hid (show shareOf e i (lastOf [] (xs.take i)) (celKey ⟨R, C, T, G, V⟩) = 0 by unfold shareOf; rw [if_pos hmod])
       go_wp2_with fail
       refine (specPutFix _ _ _ (by omega) (by omega)).mono ?_
       intro e' w3 t3
       obtain ⟨F, hF, hFz, rfl, hb3⟩ := t3.text
       have hpf : putFix (O.size : Int) 2 = fixB O.size 2 := putFix_in (n := O.size) (b := 2) (by omega) (by omega)
       rw [hpf] at hF hFz
       rw [fix_length] at hFz
       have hOl : O.data.toList.length = O.size := by simp
       have HF2 := Lib.hid (show F.data.toList = fixB O.data.toList.length 2 by rw [hOl]; exact hF)
       have E3 := Lib.hid (E2.out.below hb3)
       have Q3 := Lib.hid (Q2.out.trans (hb3.mono Q2.out.size))
       have hF9 : F.size ≤ 2 := by omega
       clear hF hb3 t3 E2 Q2 hpf hOl hFz
       cases G
       · skip
         have HZ := Lib.hid (show sizeOf' ⟨R, C, T, false, V⟩ = 2 * V.size + 0 from rfl)
         obtain ⟨z0, hz9⟩ : ∃ z0, 2 * V.size = z0 := ⟨_, rfl⟩
         obtain ⟨zz, hzz⟩ : ∃ zz, z0 = zz := ⟨_, rfl⟩
         have hz0 : 2 * (V.size : Int) = (zz : Int) := by omega
         have zz9 : zz ≤ 61 := by omega
         have HZZ := Lib.hid (show zz = sizeOf' ⟨R, C, T, false, V⟩ by rw [HZ.out]; omega)
         clear hz9 hzz HZ
         obtain ⟨mm, hmm⟩ : ∃ mm, K.size - 0 = mm := ⟨_, rfl⟩
         have hm1 : (K.size : Int) - (0 : Int) = (mm : Int) := by omega
         have hm2 : IntKind.i64.wrap (mm : Int) = (mm : Int) := IntWalk.i64_in _ (by omega)
         have HMM := Lib.hid hmm
         clear hmm
         obtain ⟨P1, hP1, hP1s⟩ := text_of (varB 0)
         obtain ⟨P2, hP2, hP2s⟩ := text_of (varB mm)
         obtain ⟨P3, hP3, hP3s⟩ := text_of (varB zz)
         rw [var_one (by omega)] at hP1s hP2s hP3s
         have p1s : P1.size ≤ 1 := by omega
         have p2s : P2.size ≤ 1 := by omega
         have p3s : P3.size ≤ 1 := by omega
         clear hP1s hP2s hP3s
         have HP1 := Lib.hid (show P1.data.toList = putVar (0 : Int) by rw [hP1]; exact (putVar_in (n := 0) (by omega)).symm)
         have HP2 := Lib.hid (show P2.data.toList = putVar (mm : Int) by rw [hP2, putVar_in (by omega)])
         have HP3 := Lib.hid (show P3.data.toList = putVar (zz : Int) by rw [hP3, putVar_in (by omega)])
         have HV3 := Lib.hid (And.intro hP1 (And.intro hP2 hP3))
         obtain ⟨X, hX⟩ : ∃ X, K.extract 0 K.size = X := ⟨_, rfl⟩
         have hXs : X.size ≤ 38 := by rw [← hX, ByteArray.size_extract]; omega
         have HX := Lib.hid (show X.data.toList = K.data.toList.drop 0 by rw [← hX, drop_text])
         have x1 : (0 : Int) ≤ (K.size : Int) := by omega
         have x2 : (0 : Int) ≤ (0 : Int) := by omega
         have q1 : ¬ 9223372036854775807 < O.size + P1.size := by omega
         have q2 : ¬ 9223372036854775807 < O.size + P1.size + P2.size := by omega
         have q3 : ¬ 9223372036854775807 < O.size + P1.size + P2.size + P3.size := by omega
         have q4 : ¬ 9223372036854775807 < O.size + P1.size + P2.size + P3.size + X.size := by omega
         have q5 : ¬ 9223372036854775807 < O.size + P1.size + P2.size + P3.size + X.size + V.size := by omega
         clear hP1 hP2 hP3
         have E3o := E3.out
         unfold One5 at E3o
         obtain ⟨f0, f1, f2, f3, f4⟩ := E3o
         go_wp2_with fail
         clear f0 f1 f2 f3 f4
         refine wp_region_held_drew (S := fun w' => One5 A (.string R) (.string C) (.int .i64 T) (.bool false) (.string V) w') (by kernel_rfl) E3.out (fun hHeld => ?_)
         refine tk 0 (some 63) ?_ ?hy hHeld ?_
         case hy => (intro w' hS; clear hS; go_simp <;> with_reducible rfl)
         simp only [Act.put, sA, sB, sC]
         refine tk 1 (some 64) ?_ ?hy hHeld ?_
         case hy => (intro w' hS; clear hS; go_simp <;> with_reducible rfl)
         simp only [Act.put, sA, sB, sC]
         refine tk 4 (some 67) ?_ ?hy hHeld ?_
         case hy => (intro w' hS; clear hS; go_simp <;> with_reducible rfl)
         simp only [Act.put, sA, sB, sC]
         refine tk 5 (some 68) ?_ ?hy hHeld ?_
         case hy => (intro w' hS; clear hS; go_simp <;> with_reducible rfl)
         simp only [Act.put, sA, sB, sC]
         refine tk 6 (some 69) ?_ ?hy hHeld ?_
         case hy => (intro w' hS; clear hS; go_simp <;> with_reducible rfl)
         simp only [Act.put, sA, sB, sC]
         refine tk 7 (some 70) ?_ ?hy hHeld ?_
         case hy => (intro w' hS; clear hS; go_simp <;> with_reducible rfl)
         simp only [Act.put, sA, sB, sC]
         refine tk 10 (some 73) ?_ ?hy hHeld ?_
         case hy => (intro w' hS; clear hS; go_simp <;> with_reducible rfl)
         simp only [Act.put, sA, sB, sC]
         refine tk 13 (some 76) ?_ ?hy hHeld ?_
         case hy => (intro w' hS; clear hS; go_simp <;> with_reducible rfl)
         simp only [Act.put, sA, sB, sC]
         refine tk 14 (some 77) ?_ ?hy hHeld ?_
         case hy => (intro w' hS; clear hS; go_simp <;> with_reducible rfl)
         simp only [Act.put, sA, sB, sC]
         refine tk 15 (some 78) ?_ ?hy hHeld ?_
         case hy => (intro w' hS; clear hS; go_simp <;> with_reducible rfl)
         simp only [Act.put, sA, sB, sC]
         refine tk 17 (some 80) ?_ ?hy hHeld ?_
         case hy => (intro w' hS; clear hS; go_simp <;> with_reducible rfl)
         simp only [Act.put, sA, sB, sC]
         refine tk 18 (some 81) ?_ ?hy hHeld ?_
         case hy => (intro w' hS; unfold One5 at hS; obtain ⟨s0, s1, s2, s3, s4⟩ := hS; go_simp <;> with_reducible rfl)
         simp only [Act.put, sA, sB, sC]
         refine wpAnyH_ready (rs := [2]) (by kernel_rfl) (by simp) ?_
         refine AllReadyH.cons rfl (fun K hK => ?_) AllReadyH.nil
         go_simp
         refine (specPutVar_as (0 : Int) P1 HP1.out _).mono ?_
         rintro e w4 ⟨rfl, hb4⟩
         have E4 := Lib.hid (One5.below (w := w3.drewN 1) E3.out hb4)
         have Q4 := Lib.hid ((Q3.out.trans (below_draws 1)).trans (hb4.mono (by have := Q3.out.size; simpa using this)))
         clear hb4
         go_wp2_with fail
         refine hK.out _ _ E4.out (fun hHeld => ?_)
         clear hK K
         refine tk 3 (some 66) ?_ ?hy hHeld ?_
         case hy => (intro w' hS; clear hS; go_simp <;> with_reducible rfl)
         simp only [Act.put, sA, sB, sC]
         refine wpAnyH_ready (rs := [8]) (by kernel_rfl) (by simp) ?_
         refine AllReadyH.cons rfl (fun K hK => ?_) AllReadyH.nil
         go_simp
         refine (specPutVar_as (mm : Int) P2 HP2.out _).mono ?_
         rintro e w5 ⟨rfl, hb5⟩
         have E5 := Lib.hid (E4.out.below hb5)
         have Q5 := Lib.hid (Q4.out.trans (hb5.mono Q4.out.size))
         clear hb5
         go_wp2_with fail
         refine hK.out _ _ E5.out (fun hHeld => ?_)
         clear hK K
         refine tk 9 (some 72) ?_ ?hy hHeld ?_
         case hy => (intro w' hS; clear hS; go_simp <;> with_reducible rfl)
         simp only [Act.put, sA, sB, sC]
         refine wpAnyH_ready (rs := [11]) (by kernel_rfl) (by simp) ?_
         refine AllReadyH.cons rfl (fun K hK => ?_) AllReadyH.nil
         go_simp
         refine (specPutVar_as (zz : Int) P3 HP3.out _).mono ?_
         rintro e w6 ⟨rfl, hb6⟩
         have E6 := Lib.hid (E5.out.below hb6)
         have Q6 := Lib.hid (Q5.out.trans (hb6.mono Q5.out.size))
         clear hb6
         go_wp2_with fail
         refine hK.out _ _ E6.out (fun hHeld => ?_)
         clear hK K
         refine tk 12 (some 75) ?_ ?hy hHeld ?_
         case hy => (intro w' hS; clear hS; go_simp <;> with_reducible rfl)
         simp only [Act.put, sA, sB, sC]
         refine tk 16 (some 79) ?_ ?hy hHeld ?_
         case hy => (intro w' hS; clear hS; go_simp <;> with_reducible rfl)
         simp only [Act.put, sA, sB, sC]
         refine tk 19 (some 82) ?_ ?hy hHeld ?_
         case hy => (intro w' hS; clear hS; go_simp <;> with_reducible rfl)
         simp only [Act.put, sA, sB, sC]
         refine tk 20 (some 5) ?_ ?hy hHeld ?_
         case hy => (intro w' hS; clear hS; go_simp <;> with_reducible rfl)
         simp only [Act.put, sA, sB, sC]
         refine wpAnyH_done (by kernel_rfl) ?_ _
         go_wp2_with fail
         go_roundw
         case rel =>
           refine ⟨i + 1, O ++ P1 ++ P2 ++ P3 ++ X ++ V, K, S ++ F, by omega, by go_num, rfl, rfl, rfl, ?_, by omega, ?_, ?_, Q6.out⟩
           · simp only [ByteArray.size_append]; omega
           · rw [ByteArray.size_append]; omega
           · refine ⟨?_, ?_, ?_⟩
             · rw [entries_step e HY.out, ← HST.out.1]
               simp only [ByteArray.data_append, Array.toList_append, List.append_assoc]
               rw [HV3.out.1, HV3.out.2.1, HV3.out.2.2, HX.out, HK.out]
               unfold entry
               rw [HSH.out, ← HZZ.out, ← HMM.out, HKL.out]
             · rw [last_step HY.out]; exact HK.out
             · rw [starts_step e HY.out, if_pos hmod, ← HST.out.2.2, ← HST.out.1]
               rw [ByteArray.data_append, Array.toList_append, HF2.out]
         case measure => simp [intOf]; omega
       · skip
         have HZ := Lib.hid (show sizeOf' ⟨R, C, T, true, V⟩ = 2 * V.size + 1 from rfl)
         obtain ⟨z0, hz9⟩ : ∃ z0, 2 * V.size = z0 := ⟨_, rfl⟩
         obtain ⟨zz, hzz⟩ : ∃ zz, z0 + 1 = zz := ⟨_, rfl⟩
         have hz0 : 2 * (V.size : Int) = (z0 : Int) := by omega
         have hz1 : (z0 : Int) + 1 = (zz : Int) := by omega
         have zz9 : zz ≤ 61 := by omega
         have HZZ := Lib.hid (show zz = sizeOf' ⟨R, C, T, true, V⟩ by rw [HZ.out]; omega)
         clear hz9 hzz HZ
         obtain ⟨mm, hmm⟩ : ∃ mm, K.size - 0 = mm := ⟨_, rfl⟩
         have hm1 : (K.size : Int) - (0 : Int) = (mm : Int) := by omega
         have hm2 : IntKind.i64.wrap (mm : Int) = (mm : Int) := IntWalk.i64_in _ (by omega)
         have HMM := Lib.hid hmm
         clear hmm
         obtain ⟨P1, hP1, hP1s⟩ := text_of (varB 0)
         obtain ⟨P2, hP2, hP2s⟩ := text_of (varB mm)
         obtain ⟨P3, hP3, hP3s⟩ := text_of (varB zz)
         rw [var_one (by omega)] at hP1s hP2s hP3s
         have p1s : P1.size ≤ 1 := by omega
         have p2s : P2.size ≤ 1 := by omega
         have p3s : P3.size ≤ 1 := by omega
         clear hP1s hP2s hP3s
         have HP1 := Lib.hid (show P1.data.toList = putVar (0 : Int) by rw [hP1]; exact (putVar_in (n := 0) (by omega)).symm)
         have HP2 := Lib.hid (show P2.data.toList = putVar (mm : Int) by rw [hP2, putVar_in (by omega)])
         have HP3 := Lib.hid (show P3.data.toList = putVar (zz : Int) by rw [hP3, putVar_in (by omega)])
         have HV3 := Lib.hid (And.intro hP1 (And.intro hP2 hP3))
         obtain ⟨X, hX⟩ : ∃ X, K.extract 0 K.size = X := ⟨_, rfl⟩
         have hXs : X.size ≤ 38 := by rw [← hX, ByteArray.size_extract]; omega
         have HX := Lib.hid (show X.data.toList = K.data.toList.drop 0 by rw [← hX, drop_text])
         have x1 : (0 : Int) ≤ (K.size : Int) := by omega
         have x2 : (0 : Int) ≤ (0 : Int) := by omega
         have q1 : ¬ 9223372036854775807 < O.size + P1.size := by omega
         have q2 : ¬ 9223372036854775807 < O.size + P1.size + P2.size := by omega
         have q3 : ¬ 9223372036854775807 < O.size + P1.size + P2.size + P3.size := by omega
         have q4 : ¬ 9223372036854775807 < O.size + P1.size + P2.size + P3.size + X.size := by omega
         have q5 : ¬ 9223372036854775807 < O.size + P1.size + P2.size + P3.size + X.size + V.size := by omega
         clear hP1 hP2 hP3
         have E3o := E3.out
         unfold One5 at E3o
         obtain ⟨f0, f1, f2, f3, f4⟩ := E3o
         go_wp2_with fail
         clear f0 f1 f2 f3 f4
         refine wp_region_held_drew (S := fun w' => One5 A (.string R) (.string C) (.int .i64 T) (.bool true) (.string V) w') (by kernel_rfl) E3.out (fun hHeld => ?_)
         refine tk 0 (some 63) ?_ ?hy hHeld ?_
         case hy => (intro w' hS; clear hS; go_simp <;> with_reducible rfl)
         simp only [Act.put, sA, sB, sC]
         refine tk 1 (some 64) ?_ ?hy hHeld ?_
         case hy => (intro w' hS; clear hS; go_simp <;> with_reducible rfl)
         simp only [Act.put, sA, sB, sC]
         refine tk 4 (some 67) ?_ ?hy hHeld ?_
         case hy => (intro w' hS; clear hS; go_simp <;> with_reducible rfl)
         simp only [Act.put, sA, sB, sC]
         refine tk 5 (some 68) ?_ ?hy hHeld ?_
         case hy => (intro w' hS; clear hS; go_simp <;> with_reducible rfl)
         simp only [Act.put, sA, sB, sC]
         refine tk 6 (some 69) ?_ ?hy hHeld ?_
         case hy => (intro w' hS; clear hS; go_simp <;> with_reducible rfl)
         simp only [Act.put, sA, sB, sC]
         refine tk 7 (some 70) ?_ ?hy hHeld ?_
         case hy => (intro w' hS; clear hS; go_simp <;> with_reducible rfl)
         simp only [Act.put, sA, sB, sC]
         refine tk 10 (some 73) ?_ ?hy hHeld ?_
         case hy => (intro w' hS; clear hS; go_simp <;> with_reducible rfl)
         simp only [Act.put, sA, sB, sC]
         refine tk 13 (some 76) ?_ ?hy hHeld ?_
         case hy => (intro w' hS; clear hS; go_simp <;> with_reducible rfl)
         simp only [Act.put, sA, sB, sC]
         refine tk 14 (some 77) ?_ ?hy hHeld ?_
         case hy => (intro w' hS; clear hS; go_simp <;> with_reducible rfl)
         simp only [Act.put, sA, sB, sC]
         refine tk 15 (some 78) ?_ ?hy hHeld ?_
         case hy => (intro w' hS; clear hS; go_simp <;> with_reducible rfl)
         simp only [Act.put, sA, sB, sC]
         refine tk 17 (some 80) ?_ ?hy hHeld ?_
         case hy => (intro w' hS; clear hS; go_simp <;> with_reducible rfl)
         simp only [Act.put, sA, sB, sC]
         refine tk 18 (some 81) ?_ ?hy hHeld ?_
         case hy => (intro w' hS; unfold One5 at hS; obtain ⟨s0, s1, s2, s3, s4⟩ := hS; go_simp <;> with_reducible rfl)
         simp only [Act.put, sA, sB, sC]
         refine wpAnyH_ready (rs := [2]) (by kernel_rfl) (by simp) ?_
         refine AllReadyH.cons rfl (fun K hK => ?_) AllReadyH.nil
         go_simp
         refine (specPutVar_as (0 : Int) P1 HP1.out _).mono ?_
         rintro e w4 ⟨rfl, hb4⟩
         have E4 := Lib.hid (One5.below (w := w3.drewN 1) E3.out hb4)
         have Q4 := Lib.hid ((Q3.out.trans (below_draws 1)).trans (hb4.mono (by have := Q3.out.size; simpa using this)))
         clear hb4
         go_wp2_with fail
         refine hK.out _ _ E4.out (fun hHeld => ?_)
         clear hK K
         refine tk 3 (some 66) ?_ ?hy hHeld ?_
         case hy => (intro w' hS; clear hS; go_simp <;> with_reducible rfl)
         simp only [Act.put, sA, sB, sC]
         refine wpAnyH_ready (rs := [8]) (by kernel_rfl) (by simp) ?_
         refine AllReadyH.cons rfl (fun K hK => ?_) AllReadyH.nil
         go_simp
         refine (specPutVar_as (mm : Int) P2 HP2.out _).mono ?_
         rintro e w5 ⟨rfl, hb5⟩
         have E5 := Lib.hid (E4.out.below hb5)
         have Q5 := Lib.hid (Q4.out.trans (hb5.mono Q4.out.size))
         clear hb5
         go_wp2_with fail
         refine hK.out _ _ E5.out (fun hHeld => ?_)
         clear hK K
         refine tk 9 (some 72) ?_ ?hy hHeld ?_
         case hy => (intro w' hS; clear hS; go_simp <;> with_reducible rfl)
         simp only [Act.put, sA, sB, sC]
         refine wpAnyH_ready (rs := [11]) (by kernel_rfl) (by simp) ?_
         refine AllReadyH.cons rfl (fun K hK => ?_) AllReadyH.nil
         go_simp
         refine (specPutVar_as (zz : Int) P3 HP3.out _).mono ?_
         rintro e w6 ⟨rfl, hb6⟩
         have E6 := Lib.hid (E5.out.below hb6)
         have Q6 := Lib.hid (Q5.out.trans (hb6.mono Q5.out.size))
         clear hb6
         go_wp2_with fail
         refine hK.out _ _ E6.out (fun hHeld => ?_)
         clear hK K
         refine tk 12 (some 75) ?_ ?hy hHeld ?_
         case hy => (intro w' hS; clear hS; go_simp <;> with_reducible rfl)
         simp only [Act.put, sA, sB, sC]
         refine tk 16 (some 79) ?_ ?hy hHeld ?_
         case hy => (intro w' hS; clear hS; go_simp <;> with_reducible rfl)
         simp only [Act.put, sA, sB, sC]
         refine tk 19 (some 82) ?_ ?hy hHeld ?_
         case hy => (intro w' hS; clear hS; go_simp <;> with_reducible rfl)
         simp only [Act.put, sA, sB, sC]
         refine tk 20 (some 5) ?_ ?hy hHeld ?_
         case hy => (intro w' hS; clear hS; go_simp <;> with_reducible rfl)
         simp only [Act.put, sA, sB, sC]
         refine wpAnyH_done (by kernel_rfl) ?_ _
         go_wp2_with fail
         go_roundw
         case rel =>
           refine ⟨i + 1, O ++ P1 ++ P2 ++ P3 ++ X ++ V, K, S ++ F, by omega, by go_num, rfl, rfl, rfl, ?_, by omega, ?_, ?_, Q6.out⟩
           · simp only [ByteArray.size_append]; omega
           · rw [ByteArray.size_append]; omega
           · refine ⟨?_, ?_, ?_⟩
             · rw [entries_step e HY.out, ← HST.out.1]
               simp only [ByteArray.data_append, Array.toList_append, List.append_assoc]
               rw [HV3.out.1, HV3.out.2.1, HV3.out.2.2, HX.out, HK.out]
               unfold entry
               rw [HSH.out, ← HZZ.out, ← HMM.out, HKL.out]
             · rw [last_step HY.out]; exact HK.out
             · rw [starts_step e HY.out, if_pos hmod, ← HST.out.2.2, ← HST.out.1]
               rw [ByteArray.data_append, Array.toList_append, HF2.out]
         case measure => simp [intOf]; omega
     · have hmi : ((i : Int) % (e : Int) == 0) = false := beq_eq_false_iff_ne.2 (by omega)
       have HSH := Lib.hid (show shareOf e i (lastOf [] (xs.take i)) (celKey ⟨R, C, T, G, V⟩) = sh by unfold shareOf; rw [if_neg hmod]; exact HS0.out)
       cases G
       · skip
         have HZ := Lib.hid (show sizeOf' ⟨R, C, T, false, V⟩ = 2 * V.size + 0 from rfl)
         obtain ⟨z0, hz9⟩ : ∃ z0, 2 * V.size = z0 := ⟨_, rfl⟩
         obtain ⟨zz, hzz⟩ : ∃ zz, z0 = zz := ⟨_, rfl⟩
         have hz0 : 2 * (V.size : Int) = (zz : Int) := by omega
         have zz9 : zz ≤ 61 := by omega
         have HZZ := Lib.hid (show zz = sizeOf' ⟨R, C, T, false, V⟩ by rw [HZ.out]; omega)
         clear hz9 hzz HZ
         obtain ⟨mm, hmm⟩ : ∃ mm, K.size - sh = mm := ⟨_, rfl⟩
         have hm1 : (K.size : Int) - (sh : Int) = (mm : Int) := by omega
         have hm2 : IntKind.i64.wrap (mm : Int) = (mm : Int) := IntWalk.i64_in _ (by omega)
         have HMM := Lib.hid hmm
         clear hmm
         obtain ⟨P1, hP1, hP1s⟩ := text_of (varB sh)
         obtain ⟨P2, hP2, hP2s⟩ := text_of (varB mm)
         obtain ⟨P3, hP3, hP3s⟩ := text_of (varB zz)
         rw [var_one (by omega)] at hP1s hP2s hP3s
         have p1s : P1.size ≤ 1 := by omega
         have p2s : P2.size ≤ 1 := by omega
         have p3s : P3.size ≤ 1 := by omega
         clear hP1s hP2s hP3s
         have HP1 := Lib.hid (show P1.data.toList = putVar (sh : Int) by rw [hP1, putVar_in (by omega)])
         have HP2 := Lib.hid (show P2.data.toList = putVar (mm : Int) by rw [hP2, putVar_in (by omega)])
         have HP3 := Lib.hid (show P3.data.toList = putVar (zz : Int) by rw [hP3, putVar_in (by omega)])
         have HV3 := Lib.hid (And.intro hP1 (And.intro hP2 hP3))
         obtain ⟨X, hX⟩ : ∃ X, K.extract sh K.size = X := ⟨_, rfl⟩
         have hXs : X.size ≤ 38 := by rw [← hX, ByteArray.size_extract]; omega
         have HX := Lib.hid (show X.data.toList = K.data.toList.drop sh by rw [← hX, drop_text])
         have x1 : (sh : Int) ≤ (K.size : Int) := by omega
         have x2 : (0 : Int) ≤ (sh : Int) := by omega
         have q1 : ¬ 9223372036854775807 < O.size + P1.size := by omega
         have q2 : ¬ 9223372036854775807 < O.size + P1.size + P2.size := by omega
         have q3 : ¬ 9223372036854775807 < O.size + P1.size + P2.size + P3.size := by omega
         have q4 : ¬ 9223372036854775807 < O.size + P1.size + P2.size + P3.size + X.size := by omega
         have q5 : ¬ 9223372036854775807 < O.size + P1.size + P2.size + P3.size + X.size + V.size := by omega
         clear hP1 hP2 hP3
         have E2o := E2.out
         unfold One5 at E2o
         obtain ⟨f0, f1, f2, f3, f4⟩ := E2o
         go_wp2_with fail
         clear f0 f1 f2 f3 f4
         refine wp_region_held_drew (S := fun w' => One5 A (.string R) (.string C) (.int .i64 T) (.bool false) (.string V) w') (by kernel_rfl) E2.out (fun hHeld => ?_)
         refine tk 0 (some 63) ?_ ?hy hHeld ?_
         case hy => (intro w' hS; clear hS; go_simp <;> with_reducible rfl)
         simp only [Act.put, sA, sB, sC]
         refine tk 1 (some 64) ?_ ?hy hHeld ?_
         case hy => (intro w' hS; clear hS; go_simp <;> with_reducible rfl)
         simp only [Act.put, sA, sB, sC]
         refine tk 4 (some 67) ?_ ?hy hHeld ?_
         case hy => (intro w' hS; clear hS; go_simp <;> with_reducible rfl)
         simp only [Act.put, sA, sB, sC]
         refine tk 5 (some 68) ?_ ?hy hHeld ?_
         case hy => (intro w' hS; clear hS; go_simp <;> with_reducible rfl)
         simp only [Act.put, sA, sB, sC]
         refine tk 6 (some 69) ?_ ?hy hHeld ?_
         case hy => (intro w' hS; clear hS; go_simp <;> with_reducible rfl)
         simp only [Act.put, sA, sB, sC]
         refine tk 7 (some 70) ?_ ?hy hHeld ?_
         case hy => (intro w' hS; clear hS; go_simp <;> with_reducible rfl)
         simp only [Act.put, sA, sB, sC]
         refine tk 10 (some 73) ?_ ?hy hHeld ?_
         case hy => (intro w' hS; clear hS; go_simp <;> with_reducible rfl)
         simp only [Act.put, sA, sB, sC]
         refine tk 13 (some 76) ?_ ?hy hHeld ?_
         case hy => (intro w' hS; clear hS; go_simp <;> with_reducible rfl)
         simp only [Act.put, sA, sB, sC]
         refine tk 14 (some 77) ?_ ?hy hHeld ?_
         case hy => (intro w' hS; clear hS; go_simp <;> with_reducible rfl)
         simp only [Act.put, sA, sB, sC]
         refine tk 15 (some 78) ?_ ?hy hHeld ?_
         case hy => (intro w' hS; clear hS; go_simp <;> with_reducible rfl)
         simp only [Act.put, sA, sB, sC]
         refine tk 17 (some 80) ?_ ?hy hHeld ?_
         case hy => (intro w' hS; clear hS; go_simp <;> with_reducible rfl)
         simp only [Act.put, sA, sB, sC]
         refine tk 18 (some 81) ?_ ?hy hHeld ?_
         case hy => (intro w' hS; unfold One5 at hS; obtain ⟨s0, s1, s2, s3, s4⟩ := hS; go_simp <;> with_reducible rfl)
         simp only [Act.put, sA, sB, sC]
         refine wpAnyH_ready (rs := [2]) (by kernel_rfl) (by simp) ?_
         refine AllReadyH.cons rfl (fun K hK => ?_) AllReadyH.nil
         go_simp
         refine (specPutVar_as (sh : Int) P1 HP1.out _).mono ?_
         rintro e w3 ⟨rfl, hb3⟩
         have E3 := Lib.hid (One5.below (w := w2.drewN 1) E2.out hb3)
         have Q3 := Lib.hid ((Q2.out.trans (below_draws 1)).trans (hb3.mono (by have := Q2.out.size; simpa using this)))
         clear hb3
         go_wp2_with fail
         refine hK.out _ _ E3.out (fun hHeld => ?_)
         clear hK K
         refine tk 3 (some 66) ?_ ?hy hHeld ?_
         case hy => (intro w' hS; clear hS; go_simp <;> with_reducible rfl)
         simp only [Act.put, sA, sB, sC]
         refine wpAnyH_ready (rs := [8]) (by kernel_rfl) (by simp) ?_
         refine AllReadyH.cons rfl (fun K hK => ?_) AllReadyH.nil
         go_simp
         refine (specPutVar_as (mm : Int) P2 HP2.out _).mono ?_
         rintro e w4 ⟨rfl, hb4⟩
         have E4 := Lib.hid (E3.out.below hb4)
         have Q4 := Lib.hid (Q3.out.trans (hb4.mono Q3.out.size))
         clear hb4
         go_wp2_with fail
         refine hK.out _ _ E4.out (fun hHeld => ?_)
         clear hK K
         refine tk 9 (some 72) ?_ ?hy hHeld ?_
         case hy => (intro w' hS; clear hS; go_simp <;> with_reducible rfl)
         simp only [Act.put, sA, sB, sC]
         refine wpAnyH_ready (rs := [11]) (by kernel_rfl) (by simp) ?_
         refine AllReadyH.cons rfl (fun K hK => ?_) AllReadyH.nil
         go_simp
         refine (specPutVar_as (zz : Int) P3 HP3.out _).mono ?_
         rintro e w5 ⟨rfl, hb5⟩
         have E5 := Lib.hid (E4.out.below hb5)
         have Q5 := Lib.hid (Q4.out.trans (hb5.mono Q4.out.size))
         clear hb5
         go_wp2_with fail
         refine hK.out _ _ E5.out (fun hHeld => ?_)
         clear hK K
         refine tk 12 (some 75) ?_ ?hy hHeld ?_
         case hy => (intro w' hS; clear hS; go_simp <;> with_reducible rfl)
         simp only [Act.put, sA, sB, sC]
         refine tk 16 (some 79) ?_ ?hy hHeld ?_
         case hy => (intro w' hS; clear hS; go_simp <;> with_reducible rfl)
         simp only [Act.put, sA, sB, sC]
         refine tk 19 (some 82) ?_ ?hy hHeld ?_
         case hy => (intro w' hS; clear hS; go_simp <;> with_reducible rfl)
         simp only [Act.put, sA, sB, sC]
         refine tk 20 (some 5) ?_ ?hy hHeld ?_
         case hy => (intro w' hS; clear hS; go_simp <;> with_reducible rfl)
         simp only [Act.put, sA, sB, sC]
         refine wpAnyH_done (by kernel_rfl) ?_ _
         go_wp2_with fail
         go_roundw
         case rel =>
           refine ⟨i + 1, O ++ P1 ++ P2 ++ P3 ++ X ++ V, K, S, by omega, by go_num, rfl, rfl, rfl, ?_, by omega, ?_, ?_, Q5.out⟩
           · simp only [ByteArray.size_append]; omega
           · omega
           · refine ⟨?_, ?_, ?_⟩
             · rw [entries_step e HY.out, ← HST.out.1]
               simp only [ByteArray.data_append, Array.toList_append, List.append_assoc]
               rw [HV3.out.1, HV3.out.2.1, HV3.out.2.2, HX.out, HK.out]
               unfold entry
               rw [HSH.out, ← HZZ.out, ← HMM.out, HKL.out]
             · rw [last_step HY.out]; exact HK.out
             · rw [starts_step e HY.out, if_neg hmod, ← HST.out.2.2]
               simp
         case measure => simp [intOf]; omega
       · skip
         have HZ := Lib.hid (show sizeOf' ⟨R, C, T, true, V⟩ = 2 * V.size + 1 from rfl)
         obtain ⟨z0, hz9⟩ : ∃ z0, 2 * V.size = z0 := ⟨_, rfl⟩
         obtain ⟨zz, hzz⟩ : ∃ zz, z0 + 1 = zz := ⟨_, rfl⟩
         have hz0 : 2 * (V.size : Int) = (z0 : Int) := by omega
         have hz1 : (z0 : Int) + 1 = (zz : Int) := by omega
         have zz9 : zz ≤ 61 := by omega
         have HZZ := Lib.hid (show zz = sizeOf' ⟨R, C, T, true, V⟩ by rw [HZ.out]; omega)
         clear hz9 hzz HZ
         obtain ⟨mm, hmm⟩ : ∃ mm, K.size - sh = mm := ⟨_, rfl⟩
         have hm1 : (K.size : Int) - (sh : Int) = (mm : Int) := by omega
         have hm2 : IntKind.i64.wrap (mm : Int) = (mm : Int) := IntWalk.i64_in _ (by omega)
         have HMM := Lib.hid hmm
         clear hmm
         obtain ⟨P1, hP1, hP1s⟩ := text_of (varB sh)
         obtain ⟨P2, hP2, hP2s⟩ := text_of (varB mm)
         obtain ⟨P3, hP3, hP3s⟩ := text_of (varB zz)
         rw [var_one (by omega)] at hP1s hP2s hP3s
         have p1s : P1.size ≤ 1 := by omega
         have p2s : P2.size ≤ 1 := by omega
         have p3s : P3.size ≤ 1 := by omega
         clear hP1s hP2s hP3s
         have HP1 := Lib.hid (show P1.data.toList = putVar (sh : Int) by rw [hP1, putVar_in (by omega)])
         have HP2 := Lib.hid (show P2.data.toList = putVar (mm : Int) by rw [hP2, putVar_in (by omega)])
         have HP3 := Lib.hid (show P3.data.toList = putVar (zz : Int) by rw [hP3, putVar_in (by omega)])
         have HV3 := Lib.hid (And.intro hP1 (And.intro hP2 hP3))
         obtain ⟨X, hX⟩ : ∃ X, K.extract sh K.size = X := ⟨_, rfl⟩
         have hXs : X.size ≤ 38 := by rw [← hX, ByteArray.size_extract]; omega
         have HX := Lib.hid (show X.data.toList = K.data.toList.drop sh by rw [← hX, drop_text])
         have x1 : (sh : Int) ≤ (K.size : Int) := by omega
         have x2 : (0 : Int) ≤ (sh : Int) := by omega
         have q1 : ¬ 9223372036854775807 < O.size + P1.size := by omega
         have q2 : ¬ 9223372036854775807 < O.size + P1.size + P2.size := by omega
         have q3 : ¬ 9223372036854775807 < O.size + P1.size + P2.size + P3.size := by omega
         have q4 : ¬ 9223372036854775807 < O.size + P1.size + P2.size + P3.size + X.size := by omega
         have q5 : ¬ 9223372036854775807 < O.size + P1.size + P2.size + P3.size + X.size + V.size := by omega
         clear hP1 hP2 hP3
         have E2o := E2.out
         unfold One5 at E2o
         obtain ⟨f0, f1, f2, f3, f4⟩ := E2o
         go_wp2_with fail
         clear f0 f1 f2 f3 f4
         refine wp_region_held_drew (S := fun w' => One5 A (.string R) (.string C) (.int .i64 T) (.bool true) (.string V) w') (by kernel_rfl) E2.out (fun hHeld => ?_)
         refine tk 0 (some 63) ?_ ?hy hHeld ?_
         case hy => (intro w' hS; clear hS; go_simp <;> with_reducible rfl)
         simp only [Act.put, sA, sB, sC]
         refine tk 1 (some 64) ?_ ?hy hHeld ?_
         case hy => (intro w' hS; clear hS; go_simp <;> with_reducible rfl)
         simp only [Act.put, sA, sB, sC]
         refine tk 4 (some 67) ?_ ?hy hHeld ?_
         case hy => (intro w' hS; clear hS; go_simp <;> with_reducible rfl)
         simp only [Act.put, sA, sB, sC]
         refine tk 5 (some 68) ?_ ?hy hHeld ?_
         case hy => (intro w' hS; clear hS; go_simp <;> with_reducible rfl)
         simp only [Act.put, sA, sB, sC]
         refine tk 6 (some 69) ?_ ?hy hHeld ?_
         case hy => (intro w' hS; clear hS; go_simp <;> with_reducible rfl)
         simp only [Act.put, sA, sB, sC]
         refine tk 7 (some 70) ?_ ?hy hHeld ?_
         case hy => (intro w' hS; clear hS; go_simp <;> with_reducible rfl)
         simp only [Act.put, sA, sB, sC]
         refine tk 10 (some 73) ?_ ?hy hHeld ?_
         case hy => (intro w' hS; clear hS; go_simp <;> with_reducible rfl)
         simp only [Act.put, sA, sB, sC]
         refine tk 13 (some 76) ?_ ?hy hHeld ?_
         case hy => (intro w' hS; clear hS; go_simp <;> with_reducible rfl)
         simp only [Act.put, sA, sB, sC]
         refine tk 14 (some 77) ?_ ?hy hHeld ?_
         case hy => (intro w' hS; clear hS; go_simp <;> with_reducible rfl)
         simp only [Act.put, sA, sB, sC]
         refine tk 15 (some 78) ?_ ?hy hHeld ?_
         case hy => (intro w' hS; clear hS; go_simp <;> with_reducible rfl)
         simp only [Act.put, sA, sB, sC]
         refine tk 17 (some 80) ?_ ?hy hHeld ?_
         case hy => (intro w' hS; clear hS; go_simp <;> with_reducible rfl)
         simp only [Act.put, sA, sB, sC]
         refine tk 18 (some 81) ?_ ?hy hHeld ?_
         case hy => (intro w' hS; unfold One5 at hS; obtain ⟨s0, s1, s2, s3, s4⟩ := hS; go_simp <;> with_reducible rfl)
         simp only [Act.put, sA, sB, sC]
         refine wpAnyH_ready (rs := [2]) (by kernel_rfl) (by simp) ?_
         refine AllReadyH.cons rfl (fun K hK => ?_) AllReadyH.nil
         go_simp
         refine (specPutVar_as (sh : Int) P1 HP1.out _).mono ?_
         rintro e w3 ⟨rfl, hb3⟩
         have E3 := Lib.hid (One5.below (w := w2.drewN 1) E2.out hb3)
         have Q3 := Lib.hid ((Q2.out.trans (below_draws 1)).trans (hb3.mono (by have := Q2.out.size; simpa using this)))
         clear hb3
         go_wp2_with fail
         refine hK.out _ _ E3.out (fun hHeld => ?_)
         clear hK K
         refine tk 3 (some 66) ?_ ?hy hHeld ?_
         case hy => (intro w' hS; clear hS; go_simp <;> with_reducible rfl)
         simp only [Act.put, sA, sB, sC]
         refine wpAnyH_ready (rs := [8]) (by kernel_rfl) (by simp) ?_
         refine AllReadyH.cons rfl (fun K hK => ?_) AllReadyH.nil
         go_simp
         refine (specPutVar_as (mm : Int) P2 HP2.out _).mono ?_
         rintro e w4 ⟨rfl, hb4⟩
         have E4 := Lib.hid (E3.out.below hb4)
         have Q4 := Lib.hid (Q3.out.trans (hb4.mono Q3.out.size))
         clear hb4
         go_wp2_with fail
         refine hK.out _ _ E4.out (fun hHeld => ?_)
         clear hK K
         refine tk 9 (some 72) ?_ ?hy hHeld ?_
         case hy => (intro w' hS; clear hS; go_simp <;> with_reducible rfl)
         simp only [Act.put, sA, sB, sC]
         refine wpAnyH_ready (rs := [11]) (by kernel_rfl) (by simp) ?_
         refine AllReadyH.cons rfl (fun K hK => ?_) AllReadyH.nil
         go_simp
         refine (specPutVar_as (zz : Int) P3 HP3.out _).mono ?_
         rintro e w5 ⟨rfl, hb5⟩
         have E5 := Lib.hid (E4.out.below hb5)
         have Q5 := Lib.hid (Q4.out.trans (hb5.mono Q4.out.size))
         clear hb5
         go_wp2_with fail
         refine hK.out _ _ E5.out (fun hHeld => ?_)
         clear hK K
         refine tk 12 (some 75) ?_ ?hy hHeld ?_
         case hy => (intro w' hS; clear hS; go_simp <;> with_reducible rfl)
         simp only [Act.put, sA, sB, sC]
         refine tk 16 (some 79) ?_ ?hy hHeld ?_
         case hy => (intro w' hS; clear hS; go_simp <;> with_reducible rfl)
         simp only [Act.put, sA, sB, sC]
         refine tk 19 (some 82) ?_ ?hy hHeld ?_
         case hy => (intro w' hS; clear hS; go_simp <;> with_reducible rfl)
         simp only [Act.put, sA, sB, sC]
         refine tk 20 (some 5) ?_ ?hy hHeld ?_
         case hy => (intro w' hS; clear hS; go_simp <;> with_reducible rfl)
         simp only [Act.put, sA, sB, sC]
         refine wpAnyH_done (by kernel_rfl) ?_ _
         go_wp2_with fail
         go_roundw
         case rel =>
           refine ⟨i + 1, O ++ P1 ++ P2 ++ P3 ++ X ++ V, K, S, by omega, by go_num, rfl, rfl, rfl, ?_, by omega, ?_, ?_, Q5.out⟩
           · simp only [ByteArray.size_append]; omega
           · omega
           · refine ⟨?_, ?_, ?_⟩
             · rw [entries_step e HY.out, ← HST.out.1]
               simp only [ByteArray.data_append, Array.toList_append, List.append_assoc]
               rw [HV3.out.1, HV3.out.2.1, HV3.out.2.2, HX.out, HK.out]
               unfold entry
               rw [HSH.out, ← HZZ.out, ← HMM.out, HKL.out]
             · rw [last_step HY.out]; exact HK.out
             · rw [starts_step e HY.out, if_neg hmod, ← HST.out.2.2]
               simp
         case measure => simp [intOf]; omega
   · obtain rfl : i = m := by omega
     have e0 : xs.take i = xs := List.take_of_length_le (by rw [HR.out.1]; exact Nat.le_refl _)
     rw [e0] at HST
     obtain ⟨q, hq⟩ : ∃ q, S.size / 2 = q := ⟨_, rfl⟩
     have hq1 : (S.size : Int) / 2 = (q : Int) := by omega
     go_wp2_with fail
     refine (specPutFix (q : Int) 2 _ (by omega) (by omega)).mono ?_
     intro e' w3 t3
     obtain ⟨F, hF, hFz, rfl, hb3⟩ := t3.text
     have hpf : putFix (q : Int) 2 = fixB (S.size / 2) 2 := by rw [hq]; exact putFix_in (n := q) (b := 2) (by omega) (by omega)
     rw [hpf] at hF hFz
     rw [fix_length] at hFz
     have HBT := Lib.hid (block_text HST.out.1 HST.out.2.2 hF)
     have Q3 := Lib.hid (QR.out.trans (hb3.mono QR.out.size))
     have q1 : ¬ 9223372036854775807 < O.size + S.size := by omega
     have q2 : ¬ 9223372036854775807 < O.size + S.size + F.size := by omega
     clear hF hb3 t3 hFz
     go_wp2
     go_ret
     refine ⟨congrArg (fun b => Ending.returned (.string b)) (bytes_ext ?_), Q3.out⟩
     exact HBT.out

set_option maxHeartbeats 1000000 in
theorem specPutBlockO (a : Option Addr) (m c : Nat) (xs : List Cel) (every : Int) (hm : m ≤ 1048576) (hf : Fit xs) (w : World) (h : CelRowO w a m c xs) :
   Calls Try.prog 31 #[.slice a m c, .int .i64 every] w (TextIs w (putBlock xs every)) := by
 have hml := h.1
 by_cases h50 : m ≤ 50
 · cases hok : cellsOk xs
   · rw [putBlock_no (block_no2 hok)]
     have HB := Lib.hid hok
     have HR := Lib.hid h
     clear hok h
     go_enter Try.func31, Try.ntmps31
     go_wp2_with fail
     refine (specCellsOkO a m c xs hm hf _ HR.out).mono ?_
     rw [HB.out]
     rintro e w1 ⟨rfl, hb1⟩
     have B1 := Lib.hid hb1
     clear hb1
     go_wp2
     go_ret
     exact ⟨rfl, B1.out⟩
   · by_cases hev : every < 1 ∨ 16 < every
     · rw [putBlock_no (block_no3 hev)]
       have HB := Lib.hid hok
       have HR := Lib.hid h
       clear hok h
       go_enter Try.func31, Try.ntmps31
       go_wp2_with fail
       refine (specCellsOkO a m c xs hm hf _ HR.out).mono ?_
       rw [HB.out]
       rintro e w1 ⟨rfl, hb1⟩
       have B1 := Lib.hid hb1
       clear hb1
       go_wp2_with fail
       refine (specIn_no _ _ _ _ hev).mono ?_
       rintro e' w1' ⟨rfl, rfl⟩
       go_wp2
       go_ret
       exact ⟨rfl, B1.out⟩
     · obtain ⟨e, rfl⟩ := Int.eq_ofNat_of_zero_le (by omega : 0 ≤ every)
       rw [putBlock_yes (by omega) hok (by omega) (by omega)]
       exact specPutBlock_in a m c xs e (by omega) (by omega) h50 hf hok w h
 · rw [putBlock_no (block_no1 (by omega))]
   clear h
   go_enter Try.func31, Try.ntmps31
   go_wp2
   go_ret
   exact ⟨rfl, Below.refl _ _⟩
end Go.Proofs.Ytkomnnijnggbpaa
