/- The walk of the law FnKeys: one cell stands ahead of another one just where its key does. -/
import Derived.Test.YtejoiaijlaaekaaDrawKey
import Derived.Test.YtejoiaijlaaekaaCellOkS
import Derived.Test.YtejoiaijlaaekaaCellBefore
import Derived.Test.YtejoiaijlaaekaaBig
namespace Go.Proofs.Ytejoiaijlaaekaa
open Go.RowKit
set_option linter.unusedVariables false

theorem small_max {n : Nat} (h : n ≤ 40) : n ≤ maxLen := Nat.le_trans h (by unfold maxLen; omega)

set_option maxHeartbeats 8000000 in
set_option maxRecDepth 100000 in
theorem fnKeys_walk (a0 : Option Addr) (len0 cap0 : Nat) (z0 : List Int) (w : World) (w0 : IsRow .u8 w a0 len0 cap0 z0) :
    Calls Try.prog 4 #[.slice a0 len0 cap0] w fun e w' => e = .returned (.bool true) ∧ Below w.heap.size w w' := by
  have HR := Lib.hid (bytes_of_row w0 w.heap.size (Nat.le_refl _))
  clear w0
  by_cases hbig : len0 ≤ 1048576
  · go_enter Try.func4, Try.ntmps4
    go_wp2_with fail
    refine (big_no a0 len0 cap0 _ hbig).mono ?_
    rintro e w1 ⟨rfl, rfl⟩
    go_wp2_with fail
    refine (drawCellBefore_at a0 len0 cap0 z0 _ HR.out).mono ?_
    rintro e w1 ⟨R, C, t, G, V, R', C', t', G', V', hs1, hs2, rfl, b1⟩
    have hR := small_max hs1.1
    have hC := small_max hs1.2.1
    have hR' := small_max hs2.1
    have hC' := small_max hs2.2.1
    have E2 := Lib.hid (two5_new w1 (.string R) (.string C) (.int .i64 t) (.bool G) (.string V) (.string R') (.string C') (.int .i64 t') (.bool G') (.string V') 30 30)
    have Q2 := Lib.hid (b1.trans ((two_below0 w1 (.cells #[.string R, .string C, .int .i64 t, .bool G, .string V] 30) (.cells #[.string R', .string C', .int .i64 t', .bool G', .string V'] 30)).mono b1.size))
    obtain ⟨b, hb⟩ : ∃ b, celBefore ⟨R, C, t, G, V⟩ ⟨R', C', t', G', V'⟩ = b := ⟨_, rfl⟩
    obtain ⟨o, ho⟩ : ∃ b, cellOk ⟨R, C, t, G, V⟩ = b := ⟨_, rfl⟩
    obtain ⟨o', ho'⟩ : ∃ b, cellOk ⟨R', C', t', G', V'⟩ = b := ⟨_, rfl⟩
    have HB := Lib.hid hb
    have HO := Lib.hid ho
    have HO' := Lib.hid ho'
    have nb : (b != b) = false := by simp
    have no : (o != o) = false := by simp
    clear hb ho ho' hs1 hs2 b1
    go_wp2_with fail
    obtain ⟨w2, hw2⟩ : ∃ W, (w1.alloc (.cells #[.string R, .string C, .int .i64 t, .bool G, .string V] 30)).alloc (.cells #[.string R', .string C', .int .i64 t', .bool G', .string V'] 30) = W := ⟨_, rfl⟩
    rw [hw2] at E2 Q2 ⊢
    clear hw2
    obtain ⟨A, hA⟩ : ∃ A, w1.heap.size = A := ⟨_, rfl⟩
    rw [hA] at E2 ⊢
    clear hA
    obtain ⟨B, hB⟩ : ∃ B, A + 1 = B := ⟨_, rfl⟩
    rw [hB] at E2 ⊢
    clear hB
    refine (implCellBefore R C t G V R' C' t' G' V' _).mono ?_
    rw [HB.out]
    rintro e w3 ⟨rfl, hb3⟩
    have E3 := Lib.hid (E2.out.below hb3)
    have Q3 := Lib.hid (Q2.out.trans (hb3.mono Q2.out.size))
    clear hb3
    cases b
    · go_wp2_with fail
      refine wp_region_held_drew (S := fun w' => Two5 A B (.string R) (.string C) (.int .i64 t) (.bool G) (.string V) (.string R') (.string C') (.int .i64 t') (.bool G') (.string V') w') (by kernel_rfl) E3.out (fun hHeld => ?_)
      refine takeS_at (i := 0) (d := some 16) (v := ?_) rfl rfl (by kernel_rfl) (by kernel_rfl) (by kernel_rfl) (fun _ _ _ h => h) (by rfl) ?hy hHeld ?_
      case hy => (intro w' hS; clear hS; go_simp <;> with_reducible rfl)
      simp only [Act.put, List.setIfInBounds_toArray, List.set_cons_zero, List.set_cons_succ]
      refine takeS_at (i := 1) (d := some 17) (v := ?_) rfl rfl (by kernel_rfl) (by kernel_rfl) (by kernel_rfl) (fun _ _ _ h => h) (by rfl) ?hy hHeld ?_
      case hy => (intro w' hS; unfold Two5 at hS; obtain ⟨s0, s1, s2, s3, s4, s5, s6, s7, s8, s9⟩ := hS; go_simp <;> with_reducible rfl)
      simp only [Act.put, List.setIfInBounds_toArray, List.set_cons_zero, List.set_cons_succ]
      refine takeS_at (i := 2) (d := some 18) (v := ?_) rfl rfl (by kernel_rfl) (by kernel_rfl) (by kernel_rfl) (fun _ _ _ h => h) (by rfl) ?hy hHeld ?_
      case hy => (intro w' hS; unfold Two5 at hS; obtain ⟨s0, s1, s2, s3, s4, s5, s6, s7, s8, s9⟩ := hS; go_simp <;> with_reducible rfl)
      simp only [Act.put, List.setIfInBounds_toArray, List.set_cons_zero, List.set_cons_succ]
      refine wpAnyH_ready (rs := [3]) (by kernel_rfl) (by simp) ?_
      refine AllReadyH.cons rfl (fun K hK => ?_) AllReadyH.nil
      go_simp
      refine (specCellBefore R C t G V R' C' t' G' V' hR hC hR' hC' _).mono ?_
      rw [HB.out]
      rintro e w4 ⟨rfl, hb4⟩
      have E4 := Lib.hid (Two5.below (w := w3.drewN 1) E3.out hb4)
      have Q4 := Lib.hid ((Q3.out.trans (below_draws 1)).trans (hb4.mono (by have := Q3.out.size; simpa using this)))
      clear hb4
      go_wp2_with fail
      refine hK.out _ _ E4.out (fun hHeld => ?_)
      clear hK K
      refine takeS_at (i := 4) (d := some 20) (v := ?_) rfl rfl (by kernel_rfl) (by kernel_rfl) (by kernel_rfl) (fun _ _ _ h => h) (by rfl) ?hy hHeld ?_
      case hy => (intro w' hS; clear hS; go_simp <;> with_reducible rfl)
      simp only [Act.put, List.setIfInBounds_toArray, List.set_cons_zero, List.set_cons_succ]
      refine takeS_at (i := 5) (d := some 21) (v := ?_) rfl rfl (by kernel_rfl) (by kernel_rfl) (by kernel_rfl) (fun _ _ _ h => h) (by rfl) ?hy hHeld ?_
      case hy => (intro w' hS; clear hS; go_simp <;> with_reducible rfl)
      simp only [Act.put, List.setIfInBounds_toArray, List.set_cons_zero, List.set_cons_succ]
      refine takeS_at (i := 6) (d := some 22) (v := ?_) rfl rfl (by kernel_rfl) (by kernel_rfl) (by kernel_rfl) (fun _ _ _ h => h) (by rfl) ?hy hHeld ?_
      case hy => (intro w' hS; unfold Two5 at hS; obtain ⟨s0, s1, s2, s3, s4, s5, s6, s7, s8, s9⟩ := hS; go_simp <;> with_reducible rfl)
      simp only [Act.put, List.setIfInBounds_toArray, List.set_cons_zero, List.set_cons_succ]
      refine takeS_at (i := 8) (d := some 24) (v := ?_) rfl rfl (by kernel_rfl) (by kernel_rfl) (by kernel_rfl) (fun _ _ _ h => h) (by rfl) ?hy hHeld ?_
      case hy => (intro w' hS; unfold Two5 at hS; obtain ⟨s0, s1, s2, s3, s4, s5, s6, s7, s8, s9⟩ := hS; go_simp <;> with_reducible rfl)
      simp only [Act.put, List.setIfInBounds_toArray, List.set_cons_zero, List.set_cons_succ]
      refine wpAnyH_ready (rs := [7]) (by kernel_rfl) (by simp) ?_
      refine AllReadyH.cons rfl (fun K hK => ?_) AllReadyH.nil
      go_simp
      refine (implCellOk R C t G V hR hC _).mono ?_
      rw [HO.out]
      rintro e w5 ⟨rfl, hb5⟩
      have E5 := Lib.hid (E4.out.below hb5)
      have Q5 := Lib.hid (Q4.out.trans (hb5.mono Q4.out.size))
      clear hb5
      go_wp2_with fail
      refine hK.out _ _ E5.out (fun hHeld => ?_)
      clear hK K
      refine wpAnyH_ready (rs := [9]) (by kernel_rfl) (by simp) ?_
      refine AllReadyH.cons rfl (fun K hK => ?_) AllReadyH.nil
      go_simp
      refine (specCellOk R C t G V hR hC _).mono ?_
      rw [HO.out]
      rintro e w6 ⟨rfl, hb6⟩
      have E6 := Lib.hid (E5.out.below hb6)
      have Q6 := Lib.hid (Q5.out.trans (hb6.mono Q5.out.size))
      clear hb6
      go_wp2_with fail
      refine hK.out _ _ E6.out (fun hHeld => ?_)
      clear hK K
      refine takeS_at (i := 10) (d := some 26) (v := ?_) rfl rfl (by kernel_rfl) (by kernel_rfl) (by kernel_rfl) (fun _ _ _ h => h) (by rfl) ?hy hHeld ?_
      case hy => (intro w' hS; clear hS; go_simp <;> with_reducible rfl)
      simp only [Act.put, List.setIfInBounds_toArray, List.set_cons_zero, List.set_cons_succ]
      refine takeS_at (i := 11) (d := some 27) (v := ?_) rfl rfl (by kernel_rfl) (by kernel_rfl) (by kernel_rfl) (fun _ _ _ h => h) (by rfl) ?hy hHeld ?_
      case hy => (intro w' hS; clear hS; go_simp <;> with_reducible rfl)
      simp only [Act.put, List.setIfInBounds_toArray, List.set_cons_zero, List.set_cons_succ]
      refine takeS_at (i := 12) (d := some 28) (v := ?_) rfl rfl (by kernel_rfl) (by kernel_rfl) (by kernel_rfl) (fun _ _ _ h => h) (by rfl) ?hy hHeld ?_
      case hy => (intro w' hS; clear hS; go_simp <;> with_reducible rfl)
      simp only [Act.put, List.setIfInBounds_toArray, List.set_cons_zero, List.set_cons_succ]
      refine takeS_at (i := 13) (d := some 29) (v := ?_) rfl rfl (by kernel_rfl) (by kernel_rfl) (by kernel_rfl) (fun _ _ _ h => h) (by rfl) ?hy hHeld ?_
      case hy => (intro w' hS; clear hS; go_simp <;> with_reducible rfl)
      simp only [Act.put, List.setIfInBounds_toArray, List.set_cons_zero, List.set_cons_succ]
      refine takeS_at (i := 14) (d := some 30) (v := ?_) rfl rfl (by kernel_rfl) (by kernel_rfl) (by kernel_rfl) (fun _ _ _ h => h) (by rfl) ?hy hHeld ?_
      case hy => (intro w' hS; clear hS; go_simp <;> with_reducible rfl)
      simp only [Act.put, List.setIfInBounds_toArray, List.set_cons_zero, List.set_cons_succ]
      refine skipS_at (i := 15) (d := some 31) rfl rfl (by kernel_rfl) (by kernel_rfl) (by kernel_rfl) (fun _ _ _ h => h) (by rfl) hHeld ?_
      simp only [Act.put, List.setIfInBounds_toArray, List.set_cons_zero, List.set_cons_succ]
      refine skipS_at (i := 16) (d := some 32) rfl rfl (by kernel_rfl) (by kernel_rfl) (by kernel_rfl) (fun _ _ _ h => h) (by rfl) hHeld ?_
      simp only [Act.put, List.setIfInBounds_toArray, List.set_cons_zero, List.set_cons_succ]
      refine skipS_at (i := 17) (d := some 33) rfl rfl (by kernel_rfl) (by kernel_rfl) (by kernel_rfl) (fun _ _ _ h => h) (by rfl) hHeld ?_
      simp only [Act.put, List.setIfInBounds_toArray, List.set_cons_zero, List.set_cons_succ]
      refine takeS_at (i := 18) (d := some 34) (v := ?_) rfl rfl (by kernel_rfl) (by kernel_rfl) (by kernel_rfl) (fun _ _ _ h => h) (by rfl) ?hy hHeld ?_
      case hy => (intro w' hS; clear hS; go_simp <;> with_reducible rfl)
      simp only [Act.put, List.setIfInBounds_toArray, List.set_cons_zero, List.set_cons_succ]
      refine takeS_at (i := 19) (d := some 35) (v := ?_) rfl rfl (by kernel_rfl) (by kernel_rfl) (by kernel_rfl) (fun _ _ _ h => h) (by rfl) ?hy hHeld ?_
      case hy => (intro w' hS; clear hS; go_simp <;> with_reducible rfl)
      simp only [Act.put, List.setIfInBounds_toArray, List.set_cons_zero, List.set_cons_succ]
      refine wpAnyH_done (by kernel_rfl) ?_ _
      have E6o := E6.out
      unfold Two5 at E6o
      obtain ⟨f0, f1, f2, f3, f4, g0, g1, g2, g3, g4⟩ := E6o
      cases o
      · go_wp2_with fail
        refine (specCellOk R C t G V hR hC _).mono ?_
        rw [HO.out]
        rintro e w7 ⟨rfl, hb7⟩
        have Q7 := Lib.hid (Q6.out.trans (hb7.mono Q6.out.size))
        clear hb7 f0 f1 f2 f3 f4 g0 g1 g2 g3 g4
        go_wp2
        go_ret
        exact ⟨rfl, Q7.out⟩
      · go_wp2_with fail
        refine (specCellOk R C t G V hR hC _).mono ?_
        rw [HO.out]
        rintro e w7 ⟨rfl, hb7⟩
        have E7 := Lib.hid (E6.out.below hb7)
        have Q7 := Lib.hid (Q6.out.trans (hb7.mono Q6.out.size))
        clear hb7 f0 f1 f2 f3 f4 g0 g1 g2 g3 g4
        have E7o := E7.out
        unfold Two5 at E7o
        obtain ⟨f0, f1, f2, f3, f4, g0, g1, g2, g3, g4⟩ := E7o
        go_wp2_with fail
        refine (specCellOk R' C' t' G' V' hR' hC' _).mono ?_
        rw [HO'.out]
        rintro e w8 ⟨rfl, hb8⟩
        have E8 := Lib.hid (E7.out.below hb8)
        have Q8 := Lib.hid (Q7.out.trans (hb8.mono Q7.out.size))
        clear hb8 f0 f1 f2 f3 f4 g0 g1 g2 g3 g4
        cases o'
        · go_wp2
          go_ret
          exact ⟨rfl, Q8.out⟩
        · go_wp2_with fail
          refine wp_region_held_drew (S := fun w' => Two5 A B (.string R) (.string C) (.int .i64 t) (.bool G) (.string V) (.string R') (.string C') (.int .i64 t') (.bool G') (.string V') w') (by kernel_rfl) E8.out (fun hHeld => ?_)
          refine takeS_at (i := 0) (d := some 44) (v := ?_) rfl rfl (by kernel_rfl) (by kernel_rfl) (by kernel_rfl) (fun _ _ _ h => h) (by rfl) ?hy hHeld ?_
          case hy => (intro w' hS; clear hS; go_simp <;> with_reducible rfl)
          simp only [Act.put, List.setIfInBounds_toArray, List.set_cons_zero, List.set_cons_succ]
          refine takeS_at (i := 1) (d := some 45) (v := ?_) rfl rfl (by kernel_rfl) (by kernel_rfl) (by kernel_rfl) (fun _ _ _ h => h) (by rfl) ?hy hHeld ?_
          case hy => (intro w' hS; clear hS; go_simp <;> with_reducible rfl)
          simp only [Act.put, List.setIfInBounds_toArray, List.set_cons_zero, List.set_cons_succ]
          refine takeS_at (i := 2) (d := some 46) (v := ?_) rfl rfl (by kernel_rfl) (by kernel_rfl) (by kernel_rfl) (fun _ _ _ h => h) (by rfl) ?hy hHeld ?_
          case hy => (intro w' hS; unfold Two5 at hS; obtain ⟨s0, s1, s2, s3, s4, s5, s6, s7, s8, s9⟩ := hS; go_simp <;> with_reducible rfl)
          simp only [Act.put, List.setIfInBounds_toArray, List.set_cons_zero, List.set_cons_succ]
          refine takeS_at (i := 3) (d := some 47) (v := ?_) rfl rfl (by kernel_rfl) (by kernel_rfl) (by kernel_rfl) (fun _ _ _ h => h) (by rfl) ?hy hHeld ?_
          case hy => (intro w' hS; clear hS; go_simp <;> with_reducible rfl)
          simp only [Act.put, List.setIfInBounds_toArray, List.set_cons_zero, List.set_cons_succ]
          refine takeS_at (i := 4) (d := some 48) (v := ?_) rfl rfl (by kernel_rfl) (by kernel_rfl) (by kernel_rfl) (fun _ _ _ h => h) (by rfl) ?hy hHeld ?_
          case hy => (intro w' hS; unfold Two5 at hS; obtain ⟨s0, s1, s2, s3, s4, s5, s6, s7, s8, s9⟩ := hS; go_simp <;> with_reducible rfl)
          simp only [Act.put, List.setIfInBounds_toArray, List.set_cons_zero, List.set_cons_succ]
          refine takeS_at (i := 5) (d := some 49) (v := ?_) rfl rfl (by kernel_rfl) (by kernel_rfl) (by kernel_rfl) (fun _ _ _ h => h) (by rfl) ?hy hHeld ?_
          case hy => (intro w' hS; clear hS; go_simp <;> with_reducible rfl)
          simp only [Act.put, List.setIfInBounds_toArray, List.set_cons_zero, List.set_cons_succ]
          refine takeS_at (i := 6) (d := some 50) (v := ?_) rfl rfl (by kernel_rfl) (by kernel_rfl) (by kernel_rfl) (fun _ _ _ h => h) (by rfl) ?hy hHeld ?_
          case hy => (intro w' hS; unfold Two5 at hS; obtain ⟨s0, s1, s2, s3, s4, s5, s6, s7, s8, s9⟩ := hS; go_simp <;> with_reducible rfl)
          simp only [Act.put, List.setIfInBounds_toArray, List.set_cons_zero, List.set_cons_succ]
          refine takeS_at (i := 8) (d := some 52) (v := ?_) rfl rfl (by kernel_rfl) (by kernel_rfl) (by kernel_rfl) (fun _ _ _ h => h) (by rfl) ?hy hHeld ?_
          case hy => (intro w' hS; clear hS; go_simp <;> with_reducible rfl)
          simp only [Act.put, List.setIfInBounds_toArray, List.set_cons_zero, List.set_cons_succ]
          refine takeS_at (i := 9) (d := some 53) (v := ?_) rfl rfl (by kernel_rfl) (by kernel_rfl) (by kernel_rfl) (fun _ _ _ h => h) (by rfl) ?hy hHeld ?_
          case hy => (intro w' hS; unfold Two5 at hS; obtain ⟨s0, s1, s2, s3, s4, s5, s6, s7, s8, s9⟩ := hS; go_simp <;> with_reducible rfl)
          simp only [Act.put, List.setIfInBounds_toArray, List.set_cons_zero, List.set_cons_succ]
          refine takeS_at (i := 10) (d := some 54) (v := ?_) rfl rfl (by kernel_rfl) (by kernel_rfl) (by kernel_rfl) (fun _ _ _ h => h) (by rfl) ?hy hHeld ?_
          case hy => (intro w' hS; clear hS; go_simp <;> with_reducible rfl)
          simp only [Act.put, List.setIfInBounds_toArray, List.set_cons_zero, List.set_cons_succ]
          refine takeS_at (i := 11) (d := some 55) (v := ?_) rfl rfl (by kernel_rfl) (by kernel_rfl) (by kernel_rfl) (fun _ _ _ h => h) (by rfl) ?hy hHeld ?_
          case hy => (intro w' hS; unfold Two5 at hS; obtain ⟨s0, s1, s2, s3, s4, s5, s6, s7, s8, s9⟩ := hS; go_simp <;> with_reducible rfl)
          simp only [Act.put, List.setIfInBounds_toArray, List.set_cons_zero, List.set_cons_succ]
          refine takeS_at (i := 12) (d := some 56) (v := ?_) rfl rfl (by kernel_rfl) (by kernel_rfl) (by kernel_rfl) (fun _ _ _ h => h) (by rfl) ?hy hHeld ?_
          case hy => (intro w' hS; clear hS; go_simp <;> with_reducible rfl)
          simp only [Act.put, List.setIfInBounds_toArray, List.set_cons_zero, List.set_cons_succ]
          refine takeS_at (i := 13) (d := some 57) (v := ?_) rfl rfl (by kernel_rfl) (by kernel_rfl) (by kernel_rfl) (fun _ _ _ h => h) (by rfl) ?hy hHeld ?_
          case hy => (intro w' hS; unfold Two5 at hS; obtain ⟨s0, s1, s2, s3, s4, s5, s6, s7, s8, s9⟩ := hS; go_simp <;> with_reducible rfl)
          simp only [Act.put, List.setIfInBounds_toArray, List.set_cons_zero, List.set_cons_succ]
          refine wpAnyH_ready (rs := [7]) (by kernel_rfl) (by simp) ?_
          refine AllReadyH.cons rfl (fun K hK => ?_) AllReadyH.nil
          go_simp
          refine (implKeyOf R C t hR hC _).mono ?_
          intro e w9 h9
          obtain ⟨K1, hK1, hzK1, rfl, hb9⟩ := h9.text
          have HK1 := Lib.hid hK1
          have E9 := Lib.hid (Two5.below (w := w8.drewN 1) E8.out hb9)
          have Q9 := Lib.hid ((Q8.out.trans (below_draws 1)).trans (hb9.mono (by have := Q8.out.size; simpa using this)))
          clear hb9 h9 hK1 hzK1
          go_wp2_with fail
          refine hK.out _ _ E9.out (fun hHeld => ?_)
          clear hK K
          refine wpAnyH_ready (rs := [14]) (by kernel_rfl) (by simp) ?_
          refine AllReadyH.cons rfl (fun K hK => ?_) AllReadyH.nil
          go_simp
          refine (implKeyOf R' C' t' hR' hC' _).mono ?_
          intro e w10 h10
          obtain ⟨K2, hK2, hzK2, rfl, hb10⟩ := h10.text
          have HK2 := Lib.hid hK2
          have E10 := Lib.hid (E9.out.below hb10)
          have Q10 := Lib.hid (Q9.out.trans (hb10.mono Q9.out.size))
          clear hb10 h10 hK2 hzK2
          go_wp2_with fail
          refine hK.out _ _ E10.out (fun hHeld => ?_)
          clear hK K
          refine wpAnyH_ready (rs := [15]) (by kernel_rfl) (by simp) ?_
          refine AllReadyH.cons rfl (fun K hK => ?_) AllReadyH.nil
          go_simp
          refine (implBefore K1 K2 _).mono ?_
          rintro e w11 ⟨rfl, n3, rfl⟩
          have HAH := Lib.hid (show ahead K1.data.toList K2.data.toList = false by rw [HK1.out, HK2.out, ← HB.out, before_key HO.out HO'.out]; rfl)
          rw [HAH.out]
          go_wp2_with fail
          refine hK.out _ _ E10.out (fun hHeld => ?_)
          clear hK K
          refine takeS_at (i := 16) (d := some 60) (v := ?_) rfl rfl (by kernel_rfl) (by kernel_rfl) (by kernel_rfl) (fun _ _ _ h => h) (by rfl) ?hy hHeld ?_
          case hy => (intro w' hS; clear hS; go_simp <;> with_reducible rfl)
          simp only [Act.put, List.setIfInBounds_toArray, List.set_cons_zero, List.set_cons_succ]
          refine takeS_at (i := 17) (d := some 2) (v := ?_) rfl rfl (by kernel_rfl) (by kernel_rfl) (by kernel_rfl) (fun _ _ _ h => h) (by rfl) ?hy hHeld ?_
          case hy => (intro w' hS; clear hS; go_simp <;> with_reducible rfl)
          simp only [Act.put, List.setIfInBounds_toArray, List.set_cons_zero, List.set_cons_succ]
          refine wpAnyH_done (by kernel_rfl) ?_ _
          go_wp2_with fail
          go_ret
          exact ⟨ret_bool (by simp), Q10.out.trans (below_draws _)⟩
    · have HNB := Lib.hid (before_not HB.out)
      go_wp2_with fail
      refine wp_region_held_drew (S := fun w' => Two5 A B (.string R) (.string C) (.int .i64 t) (.bool G) (.string V) (.string R') (.string C') (.int .i64 t') (.bool G') (.string V') w') (by kernel_rfl) E3.out (fun hHeld => ?_)
      refine takeS_at (i := 0) (d := some 16) (v := ?_) rfl rfl (by kernel_rfl) (by kernel_rfl) (by kernel_rfl) (fun _ _ _ h => h) (by rfl) ?hy hHeld ?_
      case hy => (intro w' hS; clear hS; go_simp <;> with_reducible rfl)
      simp only [Act.put, List.setIfInBounds_toArray, List.set_cons_zero, List.set_cons_succ]
      refine takeS_at (i := 1) (d := some 17) (v := ?_) rfl rfl (by kernel_rfl) (by kernel_rfl) (by kernel_rfl) (fun _ _ _ h => h) (by rfl) ?hy hHeld ?_
      case hy => (intro w' hS; unfold Two5 at hS; obtain ⟨s0, s1, s2, s3, s4, s5, s6, s7, s8, s9⟩ := hS; go_simp <;> with_reducible rfl)
      simp only [Act.put, List.setIfInBounds_toArray, List.set_cons_zero, List.set_cons_succ]
      refine takeS_at (i := 2) (d := some 18) (v := ?_) rfl rfl (by kernel_rfl) (by kernel_rfl) (by kernel_rfl) (fun _ _ _ h => h) (by rfl) ?hy hHeld ?_
      case hy => (intro w' hS; unfold Two5 at hS; obtain ⟨s0, s1, s2, s3, s4, s5, s6, s7, s8, s9⟩ := hS; go_simp <;> with_reducible rfl)
      simp only [Act.put, List.setIfInBounds_toArray, List.set_cons_zero, List.set_cons_succ]
      refine wpAnyH_ready (rs := [3]) (by kernel_rfl) (by simp) ?_
      refine AllReadyH.cons rfl (fun K hK => ?_) AllReadyH.nil
      go_simp
      refine (specCellBefore R C t G V R' C' t' G' V' hR hC hR' hC' _).mono ?_
      rw [HB.out]
      rintro e w4 ⟨rfl, hb4⟩
      have E4 := Lib.hid (Two5.below (w := w3.drewN 1) E3.out hb4)
      have Q4 := Lib.hid ((Q3.out.trans (below_draws 1)).trans (hb4.mono (by have := Q3.out.size; simpa using this)))
      clear hb4
      go_wp2_with fail
      refine hK.out _ _ E4.out (fun hHeld => ?_)
      clear hK K
      refine takeS_at (i := 4) (d := some 20) (v := ?_) rfl rfl (by kernel_rfl) (by kernel_rfl) (by kernel_rfl) (fun _ _ _ h => h) (by rfl) ?hy hHeld ?_
      case hy => (intro w' hS; clear hS; go_simp <;> with_reducible rfl)
      simp only [Act.put, List.setIfInBounds_toArray, List.set_cons_zero, List.set_cons_succ]
      refine takeS_at (i := 5) (d := some 21) (v := ?_) rfl rfl (by kernel_rfl) (by kernel_rfl) (by kernel_rfl) (fun _ _ _ h => h) (by rfl) ?hy hHeld ?_
      case hy => (intro w' hS; clear hS; go_simp <;> with_reducible rfl)
      simp only [Act.put, List.setIfInBounds_toArray, List.set_cons_zero, List.set_cons_succ]
      refine takeS_at (i := 6) (d := some 22) (v := ?_) rfl rfl (by kernel_rfl) (by kernel_rfl) (by kernel_rfl) (fun _ _ _ h => h) (by rfl) ?hy hHeld ?_
      case hy => (intro w' hS; unfold Two5 at hS; obtain ⟨s0, s1, s2, s3, s4, s5, s6, s7, s8, s9⟩ := hS; go_simp <;> with_reducible rfl)
      simp only [Act.put, List.setIfInBounds_toArray, List.set_cons_zero, List.set_cons_succ]
      refine takeS_at (i := 8) (d := some 24) (v := ?_) rfl rfl (by kernel_rfl) (by kernel_rfl) (by kernel_rfl) (fun _ _ _ h => h) (by rfl) ?hy hHeld ?_
      case hy => (intro w' hS; unfold Two5 at hS; obtain ⟨s0, s1, s2, s3, s4, s5, s6, s7, s8, s9⟩ := hS; go_simp <;> with_reducible rfl)
      simp only [Act.put, List.setIfInBounds_toArray, List.set_cons_zero, List.set_cons_succ]
      refine wpAnyH_ready (rs := [7]) (by kernel_rfl) (by simp) ?_
      refine AllReadyH.cons rfl (fun K hK => ?_) AllReadyH.nil
      go_simp
      refine (implCellOk R C t G V hR hC _).mono ?_
      rw [HO.out]
      rintro e w5 ⟨rfl, hb5⟩
      have E5 := Lib.hid (E4.out.below hb5)
      have Q5 := Lib.hid (Q4.out.trans (hb5.mono Q4.out.size))
      clear hb5
      go_wp2_with fail
      refine hK.out _ _ E5.out (fun hHeld => ?_)
      clear hK K
      refine wpAnyH_ready (rs := [9]) (by kernel_rfl) (by simp) ?_
      refine AllReadyH.cons rfl (fun K hK => ?_) AllReadyH.nil
      go_simp
      refine (specCellOk R C t G V hR hC _).mono ?_
      rw [HO.out]
      rintro e w6 ⟨rfl, hb6⟩
      have E6 := Lib.hid (E5.out.below hb6)
      have Q6 := Lib.hid (Q5.out.trans (hb6.mono Q5.out.size))
      clear hb6
      go_wp2_with fail
      refine hK.out _ _ E6.out (fun hHeld => ?_)
      clear hK K
      refine takeS_at (i := 10) (d := some 26) (v := ?_) rfl rfl (by kernel_rfl) (by kernel_rfl) (by kernel_rfl) (fun _ _ _ h => h) (by rfl) ?hy hHeld ?_
      case hy => (intro w' hS; clear hS; go_simp <;> with_reducible rfl)
      simp only [Act.put, List.setIfInBounds_toArray, List.set_cons_zero, List.set_cons_succ]
      refine takeS_at (i := 11) (d := some 27) (v := ?_) rfl rfl (by kernel_rfl) (by kernel_rfl) (by kernel_rfl) (fun _ _ _ h => h) (by rfl) ?hy hHeld ?_
      case hy => (intro w' hS; clear hS; go_simp <;> with_reducible rfl)
      simp only [Act.put, List.setIfInBounds_toArray, List.set_cons_zero, List.set_cons_succ]
      refine takeS_at (i := 12) (d := some 28) (v := ?_) rfl rfl (by kernel_rfl) (by kernel_rfl) (by kernel_rfl) (fun _ _ _ h => h) (by rfl) ?hy hHeld ?_
      case hy => (intro w' hS; clear hS; go_simp <;> with_reducible rfl)
      simp only [Act.put, List.setIfInBounds_toArray, List.set_cons_zero, List.set_cons_succ]
      refine takeS_at (i := 13) (d := some 29) (v := ?_) rfl rfl (by kernel_rfl) (by kernel_rfl) (by kernel_rfl) (fun _ _ _ h => h) (by rfl) ?hy hHeld ?_
      case hy => (intro w' hS; clear hS; go_simp <;> with_reducible rfl)
      simp only [Act.put, List.setIfInBounds_toArray, List.set_cons_zero, List.set_cons_succ]
      refine takeS_at (i := 14) (d := some 30) (v := ?_) rfl rfl (by kernel_rfl) (by kernel_rfl) (by kernel_rfl) (fun _ _ _ h => h) (by rfl) ?hy hHeld ?_
      case hy => (intro w' hS; clear hS; go_simp <;> with_reducible rfl)
      simp only [Act.put, List.setIfInBounds_toArray, List.set_cons_zero, List.set_cons_succ]
      refine takeS_at (i := 15) (d := some 31) (v := ?_) rfl rfl (by kernel_rfl) (by kernel_rfl) (by kernel_rfl) (fun _ _ _ h => h) (by rfl) ?hy hHeld ?_
      case hy => (intro w' hS; unfold Two5 at hS; obtain ⟨s0, s1, s2, s3, s4, s5, s6, s7, s8, s9⟩ := hS; go_simp <;> with_reducible rfl)
      simp only [Act.put, List.setIfInBounds_toArray, List.set_cons_zero, List.set_cons_succ]
      refine takeS_at (i := 16) (d := some 32) (v := ?_) rfl rfl (by kernel_rfl) (by kernel_rfl) (by kernel_rfl) (fun _ _ _ h => h) (by rfl) ?hy hHeld ?_
      case hy => (intro w' hS; unfold Two5 at hS; obtain ⟨s0, s1, s2, s3, s4, s5, s6, s7, s8, s9⟩ := hS; go_simp <;> with_reducible rfl)
      simp only [Act.put, List.setIfInBounds_toArray, List.set_cons_zero, List.set_cons_succ]
      refine wpAnyH_ready (rs := [17]) (by kernel_rfl) (by simp) ?_
      refine AllReadyH.cons rfl (fun K hK => ?_) AllReadyH.nil
      go_simp
      refine (implCellBefore R' C' t' G' V' R C t G V _).mono ?_
      rw [HNB.out]
      rintro e w7 ⟨rfl, hb7⟩
      have E7 := Lib.hid (E6.out.below hb7)
      have Q7 := Lib.hid (Q6.out.trans (hb7.mono Q6.out.size))
      clear hb7
      go_wp2_with fail
      refine hK.out _ _ E7.out (fun hHeld => ?_)
      clear hK K
      refine takeS_at (i := 18) (d := some 34) (v := ?_) rfl rfl (by kernel_rfl) (by kernel_rfl) (by kernel_rfl) (fun _ _ _ h => h) (by rfl) ?hy hHeld ?_
      case hy => (intro w' hS; clear hS; go_simp <;> with_reducible rfl)
      simp only [Act.put, List.setIfInBounds_toArray, List.set_cons_zero, List.set_cons_succ]
      refine takeS_at (i := 19) (d := some 35) (v := ?_) rfl rfl (by kernel_rfl) (by kernel_rfl) (by kernel_rfl) (fun _ _ _ h => h) (by rfl) ?hy hHeld ?_
      case hy => (intro w' hS; clear hS; go_simp <;> with_reducible rfl)
      simp only [Act.put, List.setIfInBounds_toArray, List.set_cons_zero, List.set_cons_succ]
      refine wpAnyH_done (by kernel_rfl) ?_ _
      have E7o := E7.out
      unfold Two5 at E7o
      obtain ⟨f0, f1, f2, f3, f4, g0, g1, g2, g3, g4⟩ := E7o
      cases o
      · go_wp2_with fail
        refine (specCellOk R C t G V hR hC _).mono ?_
        rw [HO.out]
        rintro e w8 ⟨rfl, hb8⟩
        have Q8 := Lib.hid (Q7.out.trans (hb8.mono Q7.out.size))
        clear hb8 f0 f1 f2 f3 f4 g0 g1 g2 g3 g4
        go_wp2
        go_ret
        exact ⟨rfl, Q8.out⟩
      · go_wp2_with fail
        refine (specCellOk R C t G V hR hC _).mono ?_
        rw [HO.out]
        rintro e w8 ⟨rfl, hb8⟩
        have E8 := Lib.hid (E7.out.below hb8)
        have Q8 := Lib.hid (Q7.out.trans (hb8.mono Q7.out.size))
        clear hb8 f0 f1 f2 f3 f4 g0 g1 g2 g3 g4
        have E8o := E8.out
        unfold Two5 at E8o
        obtain ⟨f0, f1, f2, f3, f4, g0, g1, g2, g3, g4⟩ := E8o
        go_wp2_with fail
        refine (specCellOk R' C' t' G' V' hR' hC' _).mono ?_
        rw [HO'.out]
        rintro e w9 ⟨rfl, hb9⟩
        have E9 := Lib.hid (E8.out.below hb9)
        have Q9 := Lib.hid (Q8.out.trans (hb9.mono Q8.out.size))
        clear hb9 f0 f1 f2 f3 f4 g0 g1 g2 g3 g4
        cases o'
        · go_wp2
          go_ret
          exact ⟨rfl, Q9.out⟩
        · go_wp2_with fail
          refine wp_region_held_drew (S := fun w' => Two5 A B (.string R) (.string C) (.int .i64 t) (.bool G) (.string V) (.string R') (.string C') (.int .i64 t') (.bool G') (.string V') w') (by kernel_rfl) E9.out (fun hHeld => ?_)
          refine takeS_at (i := 0) (d := some 44) (v := ?_) rfl rfl (by kernel_rfl) (by kernel_rfl) (by kernel_rfl) (fun _ _ _ h => h) (by rfl) ?hy hHeld ?_
          case hy => (intro w' hS; clear hS; go_simp <;> with_reducible rfl)
          simp only [Act.put, List.setIfInBounds_toArray, List.set_cons_zero, List.set_cons_succ]
          refine takeS_at (i := 1) (d := some 45) (v := ?_) rfl rfl (by kernel_rfl) (by kernel_rfl) (by kernel_rfl) (fun _ _ _ h => h) (by rfl) ?hy hHeld ?_
          case hy => (intro w' hS; clear hS; go_simp <;> with_reducible rfl)
          simp only [Act.put, List.setIfInBounds_toArray, List.set_cons_zero, List.set_cons_succ]
          refine takeS_at (i := 2) (d := some 46) (v := ?_) rfl rfl (by kernel_rfl) (by kernel_rfl) (by kernel_rfl) (fun _ _ _ h => h) (by rfl) ?hy hHeld ?_
          case hy => (intro w' hS; unfold Two5 at hS; obtain ⟨s0, s1, s2, s3, s4, s5, s6, s7, s8, s9⟩ := hS; go_simp <;> with_reducible rfl)
          simp only [Act.put, List.setIfInBounds_toArray, List.set_cons_zero, List.set_cons_succ]
          refine takeS_at (i := 3) (d := some 47) (v := ?_) rfl rfl (by kernel_rfl) (by kernel_rfl) (by kernel_rfl) (fun _ _ _ h => h) (by rfl) ?hy hHeld ?_
          case hy => (intro w' hS; clear hS; go_simp <;> with_reducible rfl)
          simp only [Act.put, List.setIfInBounds_toArray, List.set_cons_zero, List.set_cons_succ]
          refine takeS_at (i := 4) (d := some 48) (v := ?_) rfl rfl (by kernel_rfl) (by kernel_rfl) (by kernel_rfl) (fun _ _ _ h => h) (by rfl) ?hy hHeld ?_
          case hy => (intro w' hS; unfold Two5 at hS; obtain ⟨s0, s1, s2, s3, s4, s5, s6, s7, s8, s9⟩ := hS; go_simp <;> with_reducible rfl)
          simp only [Act.put, List.setIfInBounds_toArray, List.set_cons_zero, List.set_cons_succ]
          refine takeS_at (i := 5) (d := some 49) (v := ?_) rfl rfl (by kernel_rfl) (by kernel_rfl) (by kernel_rfl) (fun _ _ _ h => h) (by rfl) ?hy hHeld ?_
          case hy => (intro w' hS; clear hS; go_simp <;> with_reducible rfl)
          simp only [Act.put, List.setIfInBounds_toArray, List.set_cons_zero, List.set_cons_succ]
          refine takeS_at (i := 6) (d := some 50) (v := ?_) rfl rfl (by kernel_rfl) (by kernel_rfl) (by kernel_rfl) (fun _ _ _ h => h) (by rfl) ?hy hHeld ?_
          case hy => (intro w' hS; unfold Two5 at hS; obtain ⟨s0, s1, s2, s3, s4, s5, s6, s7, s8, s9⟩ := hS; go_simp <;> with_reducible rfl)
          simp only [Act.put, List.setIfInBounds_toArray, List.set_cons_zero, List.set_cons_succ]
          refine takeS_at (i := 8) (d := some 52) (v := ?_) rfl rfl (by kernel_rfl) (by kernel_rfl) (by kernel_rfl) (fun _ _ _ h => h) (by rfl) ?hy hHeld ?_
          case hy => (intro w' hS; clear hS; go_simp <;> with_reducible rfl)
          simp only [Act.put, List.setIfInBounds_toArray, List.set_cons_zero, List.set_cons_succ]
          refine takeS_at (i := 9) (d := some 53) (v := ?_) rfl rfl (by kernel_rfl) (by kernel_rfl) (by kernel_rfl) (fun _ _ _ h => h) (by rfl) ?hy hHeld ?_
          case hy => (intro w' hS; unfold Two5 at hS; obtain ⟨s0, s1, s2, s3, s4, s5, s6, s7, s8, s9⟩ := hS; go_simp <;> with_reducible rfl)
          simp only [Act.put, List.setIfInBounds_toArray, List.set_cons_zero, List.set_cons_succ]
          refine takeS_at (i := 10) (d := some 54) (v := ?_) rfl rfl (by kernel_rfl) (by kernel_rfl) (by kernel_rfl) (fun _ _ _ h => h) (by rfl) ?hy hHeld ?_
          case hy => (intro w' hS; clear hS; go_simp <;> with_reducible rfl)
          simp only [Act.put, List.setIfInBounds_toArray, List.set_cons_zero, List.set_cons_succ]
          refine takeS_at (i := 11) (d := some 55) (v := ?_) rfl rfl (by kernel_rfl) (by kernel_rfl) (by kernel_rfl) (fun _ _ _ h => h) (by rfl) ?hy hHeld ?_
          case hy => (intro w' hS; unfold Two5 at hS; obtain ⟨s0, s1, s2, s3, s4, s5, s6, s7, s8, s9⟩ := hS; go_simp <;> with_reducible rfl)
          simp only [Act.put, List.setIfInBounds_toArray, List.set_cons_zero, List.set_cons_succ]
          refine takeS_at (i := 12) (d := some 56) (v := ?_) rfl rfl (by kernel_rfl) (by kernel_rfl) (by kernel_rfl) (fun _ _ _ h => h) (by rfl) ?hy hHeld ?_
          case hy => (intro w' hS; clear hS; go_simp <;> with_reducible rfl)
          simp only [Act.put, List.setIfInBounds_toArray, List.set_cons_zero, List.set_cons_succ]
          refine takeS_at (i := 13) (d := some 57) (v := ?_) rfl rfl (by kernel_rfl) (by kernel_rfl) (by kernel_rfl) (fun _ _ _ h => h) (by rfl) ?hy hHeld ?_
          case hy => (intro w' hS; unfold Two5 at hS; obtain ⟨s0, s1, s2, s3, s4, s5, s6, s7, s8, s9⟩ := hS; go_simp <;> with_reducible rfl)
          simp only [Act.put, List.setIfInBounds_toArray, List.set_cons_zero, List.set_cons_succ]
          refine wpAnyH_ready (rs := [7]) (by kernel_rfl) (by simp) ?_
          refine AllReadyH.cons rfl (fun K hK => ?_) AllReadyH.nil
          go_simp
          refine (implKeyOf R C t hR hC _).mono ?_
          intro e w10 h10
          obtain ⟨K1, hK1, hzK1, rfl, hb10⟩ := h10.text
          have HK1 := Lib.hid hK1
          have E10 := Lib.hid (Two5.below (w := w9.drewN 1) E9.out hb10)
          have Q10 := Lib.hid ((Q9.out.trans (below_draws 1)).trans (hb10.mono (by have := Q9.out.size; simpa using this)))
          clear hb10 h10 hK1 hzK1
          go_wp2_with fail
          refine hK.out _ _ E10.out (fun hHeld => ?_)
          clear hK K
          refine wpAnyH_ready (rs := [14]) (by kernel_rfl) (by simp) ?_
          refine AllReadyH.cons rfl (fun K hK => ?_) AllReadyH.nil
          go_simp
          refine (implKeyOf R' C' t' hR' hC' _).mono ?_
          intro e w11 h11
          obtain ⟨K2, hK2, hzK2, rfl, hb11⟩ := h11.text
          have HK2 := Lib.hid hK2
          have E11 := Lib.hid (E10.out.below hb11)
          have Q11 := Lib.hid (Q10.out.trans (hb11.mono Q10.out.size))
          clear hb11 h11 hK2 hzK2
          go_wp2_with fail
          refine hK.out _ _ E11.out (fun hHeld => ?_)
          clear hK K
          refine wpAnyH_ready (rs := [15]) (by kernel_rfl) (by simp) ?_
          refine AllReadyH.cons rfl (fun K hK => ?_) AllReadyH.nil
          go_simp
          refine (implBefore K1 K2 _).mono ?_
          rintro e w12 ⟨rfl, n3, rfl⟩
          have HAH := Lib.hid (show ahead K1.data.toList K2.data.toList = true by rw [HK1.out, HK2.out, ← HB.out, before_key HO.out HO'.out]; rfl)
          rw [HAH.out]
          go_wp2_with fail
          refine hK.out _ _ E11.out (fun hHeld => ?_)
          clear hK K
          refine takeS_at (i := 16) (d := some 60) (v := ?_) rfl rfl (by kernel_rfl) (by kernel_rfl) (by kernel_rfl) (fun _ _ _ h => h) (by rfl) ?hy hHeld ?_
          case hy => (intro w' hS; clear hS; go_simp <;> with_reducible rfl)
          simp only [Act.put, List.setIfInBounds_toArray, List.set_cons_zero, List.set_cons_succ]
          refine takeS_at (i := 17) (d := some 2) (v := ?_) rfl rfl (by kernel_rfl) (by kernel_rfl) (by kernel_rfl) (fun _ _ _ h => h) (by rfl) ?hy hHeld ?_
          case hy => (intro w' hS; clear hS; go_simp <;> with_reducible rfl)
          simp only [Act.put, List.setIfInBounds_toArray, List.set_cons_zero, List.set_cons_succ]
          refine wpAnyH_done (by kernel_rfl) ?_ _
          go_wp2_with fail
          go_ret
          exact ⟨ret_bool (by simp), Q11.out.trans (below_draws _)⟩
  · go_enter Try.func4, Try.ntmps4
    go_wp2_with fail
    refine (big_yes a0 len0 cap0 _ hbig).mono ?_
    rintro e w1 ⟨rfl, rfl⟩
    go_wp2
    go_ret
    exact ⟨rfl, Below.refl _ _⟩
end Go.Proofs.Ytejoiaijlaaekaa
