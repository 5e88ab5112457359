/- The walk of the law FnTimes: of one row and column the later cell stands ahead. -/
import Derived.Test.YtejoiaijlaaekaaACell
import Derived.Test.YtejoiaijlaaekaaCellsOkI
import Derived.Test.YtejoiaijlaaekaaTake
import Derived.Test.YtejoiaijlaaekaaBig
namespace Go.Proofs.Ytejoiaijlaaekaa
open Go.RowKit
set_option linter.unusedVariables false

theorem cellOk_time {R C : ByteArray} {t T : Int} {G : Bool} {V : ByteArray} (h : cellOk ⟨R, C, t, G, V⟩ = true) (h0 : 0 ≤ T) (h1 : T ≤ 1000000000) : cellOk ⟨R, C, T, G, V⟩ = true := by
  unfold cellOk at h ⊢
  simp only [Bool.and_eq_true] at h ⊢
  exact ⟨⟨⟨h.1.1.1, time_yes h0 h1⟩, h.1.2⟩, h.2⟩
theorem before_time (R C : ByteArray) (T1 T2 : Int) (G : Bool) (V : ByteArray) : celBefore ⟨R, C, T1, G, V⟩ ⟨R, C, T2, G, V⟩ = decide (T2 < T1) := by
  unfold celBefore
  rw [if_pos rfl, if_pos rfl]
theorem cellsOk_one {x : Cel} (h : cellOk x = true) : cellsOk [x] = true := cellsOk_yes (fun j hj => by
  have : j = 0 := by simpa using hj
  subst this
  rw [okAt_zero (x := x) rfl]
  exact h)
theorem cellsOk_two {x y : Cel} (h : cellOk x = true) (h' : cellOk y = true) : cellsOk [x, y] = celBefore x y := by
  cases hb : celBefore x y
  · exact cellsOk_no (i := 1) (by simp) (by rw [okAt_succ (xs := [x, y]) (j := 0) rfl rfl, hb]; simp)
  · refine cellsOk_yes (fun j hj => ?_)
    have : j = 0 ∨ j = 1 := by simp at hj; omega
    rcases this with rfl | rfl
    · rw [okAt_zero (x := x) rfl]; exact h
    · rw [okAt_succ (xs := [x, y]) (j := 0) rfl rfl, hb, h']; rfl

set_option maxHeartbeats 8000000 in
set_option maxRecDepth 100000 in
theorem fnTimes_walk (a0 : Option Addr) (len0 cap0 : Nat) (z0 : List Int) (w : World) (w0 : IsRow .u8 w a0 len0 cap0 z0) :
    Calls Try.prog 6 #[.slice a0 len0 cap0] w fun e w' => e = .returned (.bool true) ∧ Below w.heap.size w w' := by
  have HR := Lib.hid (bytes_of_row w0 w.heap.size (Nat.le_refl _))
  clear w0
  by_cases hbig : len0 ≤ 1048576
  · go_enter Try.func6, Try.ntmps6
    go_wp2_with fail
    refine (big_no a0 len0 cap0 _ hbig).mono ?_
    rintro e w1 ⟨rfl, rfl⟩
    go_wp2_with fail
    refine (aCell_at a0 len0 cap0 z0 _ HR.out hbig).mono ?_
    rintro e w1 ⟨R, C, t, G, V, hok, hR40, hC40, hV40, rfl, b1⟩
    have hR : R.size ≤ maxLen := Nat.le_trans hR40 (by unfold maxLen; omega)
    have hC : C.size ≤ maxLen := Nat.le_trans hC40 (by unfold maxLen; omega)
    have hV : V.size ≤ maxLen := Nat.le_trans hV40 (by unfold maxLen; omega)
    have HOK := Lib.hid hok
    have B1 := Lib.hid b1
    have HR1 := Lib.hid (below_bytes (below_bytes HR.out b1) (two_below0 w1 (.cells #[.string R, .string C, .int .i64 t, .bool G, .string V] 30) (.cells #[.string R, .string C, .int .i64 t, .bool G, .string V] 30)))
    clear hok b1 hR40 hC40 hV40
    go_wp2_with fail
    refine (at_some a0 len0 cap0 z0 0 _ _ HR1.out hbig (by omega)).mono ?_
    rintro e w2 ⟨x0, hx0, rfl, rfl⟩
    go_wp2_with fail
    refine (at_some a0 len0 cap0 z0 1 _ _ HR1.out hbig (by omega)).mono ?_
    rintro e w2 ⟨x1, hx1, rfl, rfl⟩
    obtain ⟨T1, hT1⟩ : ∃ T : Int, (x0 : Int) * 1000 + x1 = T := ⟨_, rfl⟩
    have hT10 : 0 ≤ T1 := by omega
    have hT11 : T1 ≤ 1000000000 := by omega
    have HR2 := Lib.hid (below_bytes (below_bytes HR.out B1.out) (two_below0 w1 (.cells #[.string R, .string C, .int .i64 T1, .bool G, .string V] 30) (.cells #[.string R, .string C, .int .i64 t, .bool G, .string V] 30)))
    go_wp2_with fail
    refine (at_some a0 len0 cap0 z0 2 _ _ HR2.out hbig (by omega)).mono ?_
    rintro e w2 ⟨x2, hx2, rfl, rfl⟩
    go_wp2_with fail
    refine (at_some a0 len0 cap0 z0 3 _ _ HR2.out hbig (by omega)).mono ?_
    rintro e w2 ⟨x3, hx3, rfl, rfl⟩
    obtain ⟨T2, hT2⟩ : ∃ T : Int, (x2 : Int) * 1000 + x3 = T := ⟨_, rfl⟩
    have hT20 : 0 ≤ T2 := by omega
    have hT21 : T2 ≤ 1000000000 := by omega
    have HO1 := Lib.hid (cellOk_time HOK.out hT10 hT11)
    have HO2 := Lib.hid (cellOk_time HOK.out hT20 hT21)
    obtain ⟨b, hb⟩ : ∃ b, decide (T2 < T1) = b := ⟨_, rfl⟩
    have HB := Lib.hid (show celBefore ⟨R, C, T1, G, V⟩ ⟨R, C, T2, G, V⟩ = b by rw [before_time]; exact hb)
    have HC2 := Lib.hid (show cellsOk [⟨R, C, T1, G, V⟩, ⟨R, C, T2, G, V⟩] = b by rw [cellsOk_two HO1.out HO2.out]; exact HB.out)
    have HC1 := Lib.hid (cellsOk_one HO1.out)
    have HF2 := Lib.hid (show Fit [⟨R, C, T1, G, V⟩, ⟨R, C, T2, G, V⟩] from fun y hy => by simp at hy; rcases hy with rfl | rfl <;> exact ⟨hR, hC, hV⟩)
    have HF1 := Lib.hid (show Fit [⟨R, C, T1, G, V⟩] from fun y hy => by simp at hy; subst hy; exact ⟨hR, hC, hV⟩)
    have E2 := Lib.hid (two5_new w1 (.string R) (.string C) (.int .i64 T1) (.bool G) (.string V) (.string R) (.string C) (.int .i64 T2) (.bool G) (.string V) 30 30)
    have Q2 := Lib.hid (B1.out.trans ((two_below0 w1 (.cells #[.string R, .string C, .int .i64 T1, .bool G, .string V] 30) (.cells #[.string R, .string C, .int .i64 T2, .bool G, .string V] 30)).mono B1.out.size))
    have yb : (b == b) = true := by simp
    go_wp2_with fail
    obtain ⟨w2, hw2⟩ : ∃ W, (w1.alloc (.cells #[.string R, .string C, .int .i64 T1, .bool G, .string V] 30)).alloc (.cells #[.string R, .string C, .int .i64 T2, .bool G, .string V] 30) = W := ⟨_, rfl⟩
    rw [hw2] at E2 Q2 ⊢
    clear hw2 HR1 HR2
    obtain ⟨A, hA⟩ : ∃ A, w1.heap.size = A := ⟨_, rfl⟩
    rw [hA] at E2 ⊢
    clear hA
    obtain ⟨B, hB⟩ : ∃ B, A + 1 = B := ⟨_, rfl⟩
    rw [hB] at E2 ⊢
    clear hB hT1 hT2
    refine wp_region_held_drew (S := fun w' => Two5 A B (.string R) (.string C) (.int .i64 T1) (.bool G) (.string V) (.string R) (.string C) (.int .i64 T2) (.bool G) (.string V) w') (by kernel_rfl) E2.out (fun hHeld => ?_)
    refine takeS_at (i := 0) (d := some 24) (v := ?_) rfl rfl (by kernel_rfl) (by kernel_rfl) (by kernel_rfl) (fun _ _ _ h => h) (by rfl) ?hy hHeld ?_
    case hy => (intro w' hS; unfold Two5 at hS; obtain ⟨s0, s1, s2, s3, s4, s5, s6, s7, s8, s9⟩ := hS; go_simp <;> with_reducible rfl)
    simp only [Act.put, List.setIfInBounds_toArray, List.set_cons_zero, List.set_cons_succ]
    refine takeS_at (i := 1) (d := some 25) (v := ?_) rfl rfl (by kernel_rfl) (by kernel_rfl) (by kernel_rfl) (fun _ _ _ h => h) (by rfl) ?hy hHeld ?_
    case hy => (intro w' hS; unfold Two5 at hS; obtain ⟨s0, s1, s2, s3, s4, s5, s6, s7, s8, s9⟩ := hS; go_simp <;> with_reducible rfl)
    simp only [Act.put, List.setIfInBounds_toArray, List.set_cons_zero, List.set_cons_succ]
    refine takeS_at (i := 3) (d := some 27) (v := ?_) rfl rfl (by kernel_rfl) (by kernel_rfl) (by kernel_rfl) (fun _ _ _ h => h) (by rfl) ?hy hHeld ?_
    case hy => (intro w' hS; clear hS; go_simp <;> with_reducible rfl)
    simp only [Act.put, List.setIfInBounds_toArray, List.set_cons_zero, List.set_cons_succ]
    refine takeS_at (i := 4) (d := some 28) (v := ?_) rfl rfl (by kernel_rfl) (by kernel_rfl) (by kernel_rfl) (fun _ _ _ h => h) (by rfl) ?hy hHeld ?_
    case hy => (intro w' hS; unfold Two5 at hS; obtain ⟨s0, s1, s2, s3, s4, s5, s6, s7, s8, s9⟩ := hS; go_simp <;> with_reducible rfl)
    simp only [Act.put, List.setIfInBounds_toArray, List.set_cons_zero, List.set_cons_succ]
    refine takeS_at (i := 5) (d := some 29) (v := ?_) rfl rfl (by kernel_rfl) (by kernel_rfl) (by kernel_rfl) (fun _ _ _ h => h) (by rfl) ?hy hHeld ?_
    case hy => (intro w' hS; clear hS; go_simp <;> with_reducible rfl)
    simp only [Act.put, List.setIfInBounds_toArray, List.set_cons_zero, List.set_cons_succ]
    refine takeS_at (i := 6) (d := some 30) (v := ?_) rfl rfl (by kernel_rfl) (by kernel_rfl) (by kernel_rfl) (fun _ _ _ h => h) (by rfl) ?hy hHeld ?_
    case hy => (intro w' hS; unfold Two5 at hS; obtain ⟨s0, s1, s2, s3, s4, s5, s6, s7, s8, s9⟩ := hS; go_simp <;> with_reducible rfl)
    simp only [Act.put, List.setIfInBounds_toArray, List.set_cons_zero, List.set_cons_succ]
    refine takeS_at (i := 7) (d := some 31) (v := ?_) rfl rfl (by kernel_rfl) (by kernel_rfl) (by kernel_rfl) (fun _ _ _ h => h) (by rfl) ?hy hHeld ?_
    case hy => (intro w' hS; clear hS; go_simp <;> with_reducible rfl)
    simp only [Act.put, List.setIfInBounds_toArray, List.set_cons_zero, List.set_cons_succ]
    refine wpAnyH_ready (rs := [2]) (by kernel_rfl) (by simp) ?_
    refine AllReadyH.cons rfl (fun K hK => ?_) AllReadyH.nil
    go_simp
    refine (implCellBefore R C T1 G V R C T2 G V _).mono ?_
    rw [HB.out]
    rintro e w3 ⟨rfl, hb3⟩
    have E3 := Lib.hid (Two5.below (w := w2.drewN 1) E2.out hb3)
    have Q3 := Lib.hid ((Q2.out.trans (below_draws 1)).trans (hb3.mono (by have := Q2.out.size; simpa using this)))
    clear hb3
    go_wp2_with fail
    refine hK.out _ _ E3.out (fun hHeld => ?_)
    clear hK K
    refine takeS_at (i := 8) (d := some 32) (v := ?_) rfl rfl (by kernel_rfl) (by kernel_rfl) (by kernel_rfl) (fun _ _ _ h => h) (by rfl) ?hy hHeld ?_
    case hy => (intro w' hS; clear hS; go_simp <;> with_reducible rfl)
    simp only [Act.put, List.setIfInBounds_toArray, List.set_cons_zero, List.set_cons_succ]
    refine takeS_at (i := 9) (d := some 33) (v := ?_) rfl rfl (by kernel_rfl) (by kernel_rfl) (by kernel_rfl) (fun _ _ _ h => h) (by rfl) ?hy hHeld ?_
    case hy => (intro w' hS; clear hS; go_simp <;> with_reducible rfl)
    simp only [Act.put, List.setIfInBounds_toArray, List.set_cons_zero, List.set_cons_succ]
    refine takeS_at (i := 10) (d := some 34) (v := ?_) rfl rfl (by kernel_rfl) (by kernel_rfl) (by kernel_rfl) (fun _ _ _ h => h) (by rfl) ?hy hHeld ?_
    case hy => (intro w' hS; unfold Two5 at hS; obtain ⟨s0, s1, s2, s3, s4, s5, s6, s7, s8, s9⟩ := hS; go_simp <;> with_reducible rfl)
    simp only [Act.put, List.setIfInBounds_toArray, List.set_cons_zero, List.set_cons_succ]
    refine takeS_at (i := 11) (d := some 35) (v := ?_) rfl rfl (by kernel_rfl) (by kernel_rfl) (by kernel_rfl) (fun _ _ _ h => h) (by rfl) ?hy hHeld ?_
    case hy => (intro w' hS; unfold Two5 at hS; obtain ⟨s0, s1, s2, s3, s4, s5, s6, s7, s8, s9⟩ := hS; go_simp <;> with_reducible rfl)
    simp only [Act.put, List.setIfInBounds_toArray, List.set_cons_zero, List.set_cons_succ]
    refine takeS_at (i := 14) (d := some 38) (v := ?_) rfl rfl (by kernel_rfl) (by kernel_rfl) (by kernel_rfl) (fun _ _ _ h => h) (by rfl) ?hy hHeld ?_
    case hy => (intro w' hS; clear hS; go_simp <;> with_reducible rfl)
    simp only [Act.put, List.setIfInBounds_toArray, List.set_cons_zero, List.set_cons_succ]
    refine takeS_at (i := 15) (d := some 39) (v := ?_) rfl rfl (by kernel_rfl) (by kernel_rfl) (by kernel_rfl) (fun _ _ _ h => h) (by rfl) ?hy hHeld ?_
    case hy => (intro w' hS; unfold Two5 at hS; obtain ⟨s0, s1, s2, s3, s4, s5, s6, s7, s8, s9⟩ := hS; go_simp <;> with_reducible rfl)
    simp only [Act.put, List.setIfInBounds_toArray, List.set_cons_zero, List.set_cons_succ]
    refine takeS_at (i := 16) (d := some 40) (v := ?_) rfl rfl (by kernel_rfl) (by kernel_rfl) (by kernel_rfl) (fun _ _ _ h => h) (by rfl) ?hy hHeld ?_
    case hy => (intro w' hS; clear hS; go_simp <;> with_reducible rfl)
    simp only [Act.put, List.setIfInBounds_toArray, List.set_cons_zero, List.set_cons_succ]
    refine takeS_at (i := 17) (d := some 41) (v := ?_) rfl rfl (by kernel_rfl) (by kernel_rfl) (by kernel_rfl) (fun _ _ _ h => h) (by rfl) ?hy hHeld ?_
    case hy => (intro w' hS; unfold Two5 at hS; obtain ⟨s0, s1, s2, s3, s4, s5, s6, s7, s8, s9⟩ := hS; go_simp <;> with_reducible rfl)
    simp only [Act.put, List.setIfInBounds_toArray, List.set_cons_zero, List.set_cons_succ]
    refine takeS_at (i := 18) (d := some 42) (v := ?_) rfl rfl (by kernel_rfl) (by kernel_rfl) (by kernel_rfl) (fun _ _ _ h => h) (by rfl) ?hy hHeld ?_
    case hy => (intro w' hS; clear hS; go_simp <;> with_reducible rfl)
    simp only [Act.put, List.setIfInBounds_toArray, List.set_cons_zero, List.set_cons_succ]
    refine wpAnyH_ready (rs := [12]) (by kernel_rfl) (by simp) ?_
    refine AllReadyH.cons rfl (fun K hK => ?_) AllReadyH.nil
    go_simp
    have E4 := Lib.hid (E3.out.below (one_below w3 (.cells #[.string R, .string C, .int .i64 T1, .bool G, .string V, .string R, .string C, .int .i64 T2, .bool G, .string V] 30)))
    have Q4 := Lib.hid (Q3.out.trans ((one_below w3 (.cells #[.string R, .string C, .int .i64 T1, .bool G, .string V, .string R, .string C, .int .i64 T2, .bool G, .string V] 30)).mono Q3.out.size))
    have D4 := Lib.hid (show CelBlock (w3.alloc (.cells #[.string R, .string C, .int .i64 T1, .bool G, .string V, .string R, .string C, .int .i64 T2, .bool G, .string V] 30)) w3.heap.size [⟨R, C, T1, G, V⟩, ⟨R, C, T2, G, V⟩] from alloc_at w3 (.cells #[.string R, .string C, .int .i64 T1, .bool G, .string V, .string R, .string C, .int .i64 T2, .bool G, .string V] 30))
    refine hK.out _ _ E4.out (fun hHeld => ?_)
    clear hK K
    refine wpAnyH_ready (rs := [13]) (by kernel_rfl) (by simp) ?_
    refine AllReadyH.cons rfl (fun K hK => ?_) AllReadyH.nil
    go_simp
    refine (implCellsOk _ 2 2 [⟨R, C, T1, G, V⟩, ⟨R, C, T2, G, V⟩] (by omega) HF2.out _ (D4.out.row rfl)).mono ?_
    rw [HC2.out]
    rintro e w5 ⟨rfl, hb5⟩
    have E5 := Lib.hid (E4.out.below hb5)
    have Q5 := Lib.hid (Q4.out.trans (hb5.mono Q4.out.size))
    clear hb5
    go_wp2_with fail
    refine hK.out _ _ E5.out (fun hHeld => ?_)
    clear hK K
    refine takeS_at (i := 19) (d := some 43) (v := ?_) rfl rfl (by kernel_rfl) (by kernel_rfl) (by kernel_rfl) (fun _ _ _ h => h) (by rfl) ?hy hHeld ?_
    case hy => (intro w' hS; clear hS; go_simp <;> with_reducible rfl)
    simp only [Act.put, List.setIfInBounds_toArray, List.set_cons_zero, List.set_cons_succ]
    refine takeS_at (i := 20) (d := some 44) (v := ?_) rfl rfl (by kernel_rfl) (by kernel_rfl) (by kernel_rfl) (fun _ _ _ h => h) (by rfl) ?hy hHeld ?_
    case hy => (intro w' hS; clear hS; go_simp <;> with_reducible rfl)
    simp only [Act.put, List.setIfInBounds_toArray, List.set_cons_zero, List.set_cons_succ]
    refine takeS_at (i := 21) (d := some 45) (v := ?_) rfl rfl (by kernel_rfl) (by kernel_rfl) (by kernel_rfl) (fun _ _ _ h => h) (by rfl) ?hy hHeld ?_
    case hy => (intro w' hS; clear hS; go_simp <;> with_reducible rfl)
    simp only [Act.put, List.setIfInBounds_toArray, List.set_cons_zero, List.set_cons_succ]
    refine takeS_at (i := 22) (d := some 46) (v := ?_) rfl rfl (by kernel_rfl) (by kernel_rfl) (by kernel_rfl) (fun _ _ _ h => h) (by rfl) ?hy hHeld ?_
    case hy => (intro w' hS; unfold Two5 at hS; obtain ⟨s0, s1, s2, s3, s4, s5, s6, s7, s8, s9⟩ := hS; go_simp <;> with_reducible rfl)
    simp only [Act.put, List.setIfInBounds_toArray, List.set_cons_zero, List.set_cons_succ]
    refine wpAnyH_ready (rs := [23]) (by kernel_rfl) (by simp) ?_
    refine AllReadyH.cons rfl (fun K hK => ?_) AllReadyH.nil
    go_simp
    have E6 := Lib.hid (E5.out.below (one_below w5 (.cells #[.string R, .string C, .int .i64 T1, .bool G, .string V] 30)))
    have Q6 := Lib.hid (Q5.out.trans ((one_below w5 (.cells #[.string R, .string C, .int .i64 T1, .bool G, .string V] 30)).mono Q5.out.size))
    have D6 := Lib.hid (show CelBlock (w5.alloc (.cells #[.string R, .string C, .int .i64 T1, .bool G, .string V] 30)) w5.heap.size [⟨R, C, T1, G, V⟩] from alloc_at w5 (.cells #[.string R, .string C, .int .i64 T1, .bool G, .string V] 30))
    refine hK.out _ _ E6.out (fun hHeld => ?_)
    clear hK K
    refine wpAnyH_ready (rs := [24]) (by kernel_rfl) (by simp) ?_
    refine AllReadyH.cons rfl (fun K hK => ?_) AllReadyH.nil
    go_simp
    refine (implCellsOk _ 1 1 [⟨R, C, T1, G, V⟩] (by omega) HF1.out _ (D6.out.row rfl)).mono ?_
    rw [HC1.out]
    rintro e w7 ⟨rfl, hb7⟩
    have E7 := Lib.hid (E6.out.below hb7)
    have Q7 := Lib.hid (Q6.out.trans (hb7.mono Q6.out.size))
    clear hb7
    go_wp2_with fail
    refine hK.out _ _ E7.out (fun hHeld => ?_)
    clear hK K
    refine takeS_at (i := 25) (d := some 49) (v := ?_) rfl rfl (by kernel_rfl) (by kernel_rfl) (by kernel_rfl) (fun _ _ _ h => h) (by rfl) ?hy hHeld ?_
    case hy => (intro w' hS; clear hS; go_simp <;> with_reducible rfl)
    simp only [Act.put, List.setIfInBounds_toArray, List.set_cons_zero, List.set_cons_succ]
    refine takeS_at (i := 26) (d := some 50) (v := ?_) rfl rfl (by kernel_rfl) (by kernel_rfl) (by kernel_rfl) (fun _ _ _ h => h) (by rfl) ?hy hHeld ?_
    case hy => (intro w' hS; clear hS; go_simp <;> with_reducible rfl)
    simp only [Act.put, List.setIfInBounds_toArray, List.set_cons_zero, List.set_cons_succ]
    refine wpAnyH_ready (rs := [27]) (by kernel_rfl) (by simp) ?_
    refine AllReadyH.cons rfl (fun K hK => ?_) AllReadyH.nil
    go_simp
    refine (implCellsOk none 0 0 [] (by omega) (fun y hy => by simp at hy) _ ⟨rfl, Nat.le_refl _, fun k y hk => by simp at hk⟩).mono ?_
    rw [show cellsOk [] = true from rfl]
    rintro e w8 ⟨rfl, hb8⟩
    have E8 := Lib.hid (E7.out.below hb8)
    have Q8 := Lib.hid (Q7.out.trans (hb8.mono Q7.out.size))
    clear hb8
    go_wp2_with fail
    refine hK.out _ _ E8.out (fun hHeld => ?_)
    clear hK K
    refine takeS_at (i := 28) (d := some 52) (v := ?_) rfl rfl (by kernel_rfl) (by kernel_rfl) (by kernel_rfl) (fun _ _ _ h => h) (by rfl) ?hy hHeld ?_
    case hy => (intro w' hS; clear hS; go_simp <;> with_reducible rfl)
    simp only [Act.put, List.setIfInBounds_toArray, List.set_cons_zero, List.set_cons_succ]
    refine takeS_at (i := 29) (d := some 53) (v := ?_) rfl rfl (by kernel_rfl) (by kernel_rfl) (by kernel_rfl) (fun _ _ _ h => h) (by rfl) ?hy hHeld ?_
    case hy => (intro w' hS; clear hS; go_simp <;> with_reducible rfl)
    simp only [Act.put, List.setIfInBounds_toArray, List.set_cons_zero, List.set_cons_succ]
    refine takeS_at (i := 30) (d := some 54) (v := ?_) rfl rfl (by kernel_rfl) (by kernel_rfl) (by kernel_rfl) (fun _ _ _ h => h) (by rfl) ?hy hHeld ?_
    case hy => (intro w' hS; unfold Two5 at hS; obtain ⟨s0, s1, s2, s3, s4, s5, s6, s7, s8, s9⟩ := hS; go_simp <;> with_reducible rfl)
    simp only [Act.put, List.setIfInBounds_toArray, List.set_cons_zero, List.set_cons_succ]
    refine wpAnyH_ready (rs := [31]) (by kernel_rfl) (by simp) ?_
    refine AllReadyH.cons rfl (fun K hK => ?_) AllReadyH.nil
    go_simp
    refine (implCellOk R C T1 G V hR hC _).mono ?_
    rw [HO1.out]
    rintro e w9 ⟨rfl, hb9⟩
    have E9 := Lib.hid (E8.out.below hb9)
    have Q9 := Lib.hid (Q8.out.trans (hb9.mono Q8.out.size))
    clear hb9
    go_wp2_with fail
    refine hK.out _ _ E9.out (fun hHeld => ?_)
    clear hK K
    refine takeS_at (i := 32) (d := some 56) (v := ?_) rfl rfl (by kernel_rfl) (by kernel_rfl) (by kernel_rfl) (fun _ _ _ h => h) (by rfl) ?hy hHeld ?_
    case hy => (intro w' hS; clear hS; go_simp <;> with_reducible rfl)
    simp only [Act.put, List.setIfInBounds_toArray, List.set_cons_zero, List.set_cons_succ]
    refine takeS_at (i := 33) (d := some 2) (v := ?_) rfl rfl (by kernel_rfl) (by kernel_rfl) (by kernel_rfl) (fun _ _ _ h => h) (by rfl) ?hy hHeld ?_
    case hy => (intro w' hS; clear hS; go_simp <;> with_reducible rfl)
    simp only [Act.put, List.setIfInBounds_toArray, List.set_cons_zero, List.set_cons_succ]
    refine wpAnyH_done (by kernel_rfl) ?_ _
    go_wp2_with fail
    go_ret
    exact ⟨rfl, Q9.out⟩
  · go_enter Try.func6, Try.ntmps6
    go_wp2_with fail
    refine (big_yes a0 len0 cap0 _ hbig).mono ?_
    rintro e w1 ⟨rfl, rfl⟩
    go_wp2
    go_ret
    exact ⟨rfl, Below.refl _ _⟩
end Go.Proofs.Ytejoiaijlaaekaa
