/- The walk of the law FnOneCell: a block of one cell has its form. -/
import Derived.Test.YtgonnibakkabjaaCellsN
import Derived.Test.YtgonnibakkabjaaGetA
import Derived.Test.YtgonnibakkabjaaPutBlockS
import Derived.Test.YtgonnibakkabjaaSameCels
import Derived.Test.YtgonnibakkabjaaVarAs
import Derived.Test.YtgonnibakkabjaaBlockLen
import Derived.Test.YtgonnibakkabjaaLawA
namespace Go.Proofs.Ytgonnibakkabjaa
open Go.RowKit
set_option linter.unusedVariables false

theorem block_one (x : Cel) (e : Nat) : block [x] e = 0 :: (varB (celKey x).length ++ (varB (sizeOf' x) ++ (celKey x ++ (x.value.data.toList ++ [0, 0, 1, 0])))) := by
  have h0 : shareOf e 0 [] (celKey x) = 0 := by unfold shareOf; rw [if_pos (Nat.zero_mod e)]
  have hs : startsB e 0 0 [] [x] = [0, 0] := by
    unfold startsB startsB
    rw [if_pos (Nat.zero_mod e)]
    rfl
  unfold block
  rw [hs]
  unfold entries entries entry
  rw [h0, show varB 0 = [0] from var_small (by omega)]
  simp [fixB]
  first | rfl | decide
theorem block_nil (e : Nat) : block [] e = [0, 0] := by
  unfold block entries startsB
  rfl

set_option maxHeartbeats 4000000 in
set_option maxRecDepth 100000 in
theorem fnOneCell_walk (a0 : Option Addr) (len0 cap0 : Nat) (z0 : List Int) (w : World) (w0 : IsRow .u8 w a0 len0 cap0 z0) :
    Calls Try.prog 7 #[.slice a0 len0 cap0] w fun e w' => e = .returned (.bool true) ∧ Below w.heap.size w w' := by
  have HR := Lib.hid (bytes_of_row w0 w.heap.size (Nat.le_refl _))
  clear w0
  by_cases hbig : len0 ≤ 1048576
  · go_enter Try.func7, Try.ntmps7
    go_wp2_with fail
    refine (big_no a0 len0 cap0 _ hbig).mono ?_
    rintro e w1 ⟨rfl, rfl⟩
    go_wp2_with fail
    refine (aCell_any 1 (by omega) a0 len0 cap0 z0 _ HR.out hbig).mono ?_
    rintro e w1 ⟨R, C, t, G, V, hok, hR40, hC40, hV40, rfl, b1⟩
    have hR : R.size ≤ maxLen := Nat.le_trans hR40 (by unfold maxLen; omega)
    have hC : C.size ≤ maxLen := Nat.le_trans hC40 (by unfold maxLen; omega)
    have HOK := Lib.hid hok
    have HC1 := Lib.hid (cells_one hok)
    have HF := Lib.hid (fit_ok (cells_one hok))
    have X1 := Lib.hid (one5_new w1 (.string R) (.string C) (.int .i64 t) (.bool G) (.string V) 38)
    have B1 := Lib.hid (b1.trans ((one_below w1 (.cells #[.string R, .string C, .int .i64 t, .bool G, .string V] 38)).mono b1.size))
    have x5 := X1.out
    unfold One5 at x5
    obtain ⟨c0, c1, c2, c3, c4⟩ := x5
    clear b1 hok
    go_wp2_with fail
    obtain ⟨w2, hw2⟩ : ∃ W, w1.alloc (.cells #[.string R, .string C, .int .i64 t, .bool G, .string V] 38) = W := ⟨_, rfl⟩
    rw [hw2] at X1 B1 c0 c1 c2 c3 c4 ⊢
    clear hw2
    obtain ⟨D, hD⟩ : ∃ A, w1.heap.size = A := ⟨_, rfl⟩
    rw [hD] at X1 c0 c1 c2 c3 c4 ⊢
    clear hD c0 c1 c2 c3 c4
    refine (specKeyOf R C t hR hC _).mono ?_
    intro e w3 h3
    obtain ⟨Ky, hK, hKz, rfl, b3⟩ := h3.text
    have HK := Lib.hid (show Ky.data.toList = celKey ⟨R, C, t, G, V⟩ from hK)
    have hK38 : Ky.size ≤ 38 := by
      have h1 := key_small HOK.out
      rw [← HK.out] at h1
      simpa using h1
    have E3 := Lib.hid (X1.out.below b3)
    have Q3 := Lib.hid (B1.out.trans (b3.mono B1.out.size))
    clear h3 hK hKz b3
    have x5 := E3.out
    unfold One5 at x5
    obtain ⟨c0, c1, c2, c3, c4⟩ := x5
    obtain ⟨zz, hzz⟩ : ∃ z, sizeOf' ⟨R, C, t, G, V⟩ = z := ⟨_, rfl⟩
    have HZZ := Lib.hid hzz
    have hzd : 2 * V.size + (if G then 1 else 0) = zz := hzz
    have zz9 : zz ≤ 61 := by rw [← hzz]; exact size_small HOK.out
    obtain ⟨P1, hP1, hP1s⟩ := text_of (varB Ky.size)
    obtain ⟨P2, hP2, hP2s⟩ := text_of (varB zz)
    rw [var_one (by omega)] at hP1s hP2s
    have p1s : P1.size ≤ 1 := by omega
    have p2s : P2.size ≤ 1 := by omega
    have HP1 := Lib.hid (show P1.data.toList = putVar (Ky.size : Int) by rw [hP1, putVar_in (by omega)])
    have HP2 := Lib.hid (show P2.data.toList = putVar (zz : Int) by rw [hP2, putVar_in (by omega)])
    have HV := Lib.hid (And.intro hP1 hP2)
    clear hP1s hP2s hzz hP1 hP2
    have q1 : ¬ 9223372036854775807 < 1 + P1.size := by omega
    have q2 : ¬ 9223372036854775807 < 1 + P1.size + P2.size := by omega
    have q3 : ¬ 9223372036854775807 < 1 + P1.size + P2.size + Ky.size := by omega
    have q4 : ¬ 9223372036854775807 < 1 + P1.size + P2.size + Ky.size + V.size := by omega
    have q5 : ¬ 9223372036854775807 < 1 + P1.size + P2.size + Ky.size + V.size + 4 := by omega
    cases G
    · have hz1 : 2 * (V.size : Int) = (zz : Int) := by simp at hzd; omega
      clear hzd
      go_wp2_with fail
      clear c0 c1 c2 c3 c4
      refine wp_region_held_drew (S := fun w' => One5 D (.string R) (.string C) (.int .i64 t) (.bool false) (.string V) w') (by kernel_rfl) E3.out (fun hHeld => ?_)
      refine takeS_at (i := 0) (d := some 28) (v := ?_) rfl rfl (by kernel_rfl) (by kernel_rfl) (by kernel_rfl) (fun _ _ _ h => h) (by rfl) ?hy hHeld ?_
      case hy => (intro w' hS; clear hS; go_simp <;> with_reducible rfl)
      simp only [Act.put, List.setIfInBounds_toArray, List.set_cons_zero, List.set_cons_succ]
      refine takeS_at (i := 1) (d := some 29) (v := ?_) rfl rfl (by kernel_rfl) (by kernel_rfl) (by kernel_rfl) (fun _ _ _ h => h) (by rfl) ?hy hHeld ?_
      case hy => (intro w' hS; clear hS; go_simp <;> with_reducible rfl)
      simp only [Act.put, List.setIfInBounds_toArray, List.set_cons_zero, List.set_cons_succ]
      refine takeS_at (i := 4) (d := some 32) (v := ?_) rfl rfl (by kernel_rfl) (by kernel_rfl) (by kernel_rfl) (fun _ _ _ h => h) (by rfl) ?hy hHeld ?_
      case hy => (intro w' hS; clear hS; go_simp <;> with_reducible rfl)
      simp only [Act.put, List.setIfInBounds_toArray, List.set_cons_zero, List.set_cons_succ]
      refine takeS_at (i := 7) (d := some 35) (v := ?_) rfl rfl (by kernel_rfl) (by kernel_rfl) (by kernel_rfl) (fun _ _ _ h => h) (by rfl) ?hy hHeld ?_
      case hy => (intro w' hS; clear hS; go_simp <;> with_reducible rfl)
      simp only [Act.put, List.setIfInBounds_toArray, List.set_cons_zero, List.set_cons_succ]
      refine takeS_at (i := 9) (d := some 37) (v := ?_) rfl rfl (by kernel_rfl) (by kernel_rfl) (by kernel_rfl) (fun _ _ _ h => h) (by rfl) ?hy hHeld ?_
      case hy => (intro w' hS; clear hS; go_simp <;> with_reducible rfl)
      simp only [Act.put, List.setIfInBounds_toArray, List.set_cons_zero, List.set_cons_succ]
      refine takeS_at (i := 10) (d := some 38) (v := ?_) rfl rfl (by kernel_rfl) (by kernel_rfl) (by kernel_rfl) (fun _ _ _ h => h) (by rfl) ?hy hHeld ?_
      case hy => (intro w' hS; unfold One5 at hS; obtain ⟨s0, s1, s2, s3, s4⟩ := hS; go_simp <;> with_reducible rfl)
      simp only [Act.put, List.setIfInBounds_toArray, List.set_cons_zero, List.set_cons_succ]
      refine wpAnyH_ready (rs := [2]) (by kernel_rfl) (by simp) ?_
      refine AllReadyH.cons rfl (fun K hK => ?_) AllReadyH.nil
      go_simp
      refine (specPutVar_as (Ky.size : Int) P1 HP1.out _).mono ?_
      rintro e w4 ⟨rfl, hb4⟩
      have E4 := Lib.hid (One5.below (w := w3.drewN 1) E3.out hb4)
      have Q4 := Lib.hid ((Q3.out.trans (below_draws 1)).trans (hb4.mono (by have := Q3.out.size; simpa using this)))
      clear hb4
      go_wp2_with fail
      refine hK.out _ _ E4.out (fun hHeld => ?_)
      clear hK K
      refine takeS_at (i := 3) (d := some 31) (v := ?_) rfl rfl (by kernel_rfl) (by kernel_rfl) (by kernel_rfl) (fun _ _ _ h => h) (by rfl) ?hy hHeld ?_
      case hy => (intro w' hS; clear hS; go_simp <;> with_reducible rfl)
      simp only [Act.put, List.setIfInBounds_toArray, List.set_cons_zero, List.set_cons_succ]
      refine wpAnyH_ready (rs := [5]) (by kernel_rfl) (by simp) ?_
      refine AllReadyH.cons rfl (fun K hK => ?_) AllReadyH.nil
      go_simp
      refine (specPutVar_as (zz : Int) P2 HP2.out _).mono ?_
      rintro e w5 ⟨rfl, hb5⟩
      have E5 := Lib.hid (E4.out.below hb5)
      have Q5 := Lib.hid (Q4.out.trans (hb5.mono Q4.out.size))
      clear hb5
      go_wp2_with fail
      refine hK.out _ _ E5.out (fun hHeld => ?_)
      clear hK K
      refine takeS_at (i := 6) (d := some 34) (v := ?_) rfl rfl (by kernel_rfl) (by kernel_rfl) (by kernel_rfl) (fun _ _ _ h => h) (by rfl) ?hy hHeld ?_
      case hy => (intro w' hS; clear hS; go_simp <;> with_reducible rfl)
      simp only [Act.put, List.setIfInBounds_toArray, List.set_cons_zero, List.set_cons_succ]
      refine takeS_at (i := 8) (d := some 36) (v := ?_) rfl rfl (by kernel_rfl) (by kernel_rfl) (by kernel_rfl) (fun _ _ _ h => h) (by rfl) ?hy hHeld ?_
      case hy => (intro w' hS; clear hS; go_simp <;> with_reducible rfl)
      simp only [Act.put, List.setIfInBounds_toArray, List.set_cons_zero, List.set_cons_succ]
      refine takeS_at (i := 11) (d := some 39) (v := ?_) rfl rfl (by kernel_rfl) (by kernel_rfl) (by kernel_rfl) (fun _ _ _ h => h) (by rfl) ?hy hHeld ?_
      case hy => (intro w' hS; clear hS; go_simp <;> with_reducible rfl)
      simp only [Act.put, List.setIfInBounds_toArray, List.set_cons_zero, List.set_cons_succ]
      refine takeS_at (i := 12) (d := some 40) (v := ?_) rfl rfl (by kernel_rfl) (by kernel_rfl) (by kernel_rfl) (fun _ _ _ h => h) (by rfl) ?hy hHeld ?_
      case hy => (intro w' hS; clear hS; go_simp <;> with_reducible rfl)
      simp only [Act.put, List.setIfInBounds_toArray, List.set_cons_zero, List.set_cons_succ]
      refine takeS_at (i := 13) (d := some 6) (v := ?_) rfl rfl (by kernel_rfl) (by kernel_rfl) (by kernel_rfl) (fun _ _ _ h => h) (by rfl) ?hy hHeld ?_
      case hy => (intro w' hS; clear hS; go_simp <;> with_reducible rfl)
      simp only [Act.put, List.setIfInBounds_toArray, List.set_cons_zero, List.set_cons_succ]
      refine wpAnyH_done (by kernel_rfl) ?_ _
      obtain ⟨A, hA, hAl⟩ := text_of (block [⟨R, C, t, false, V⟩] 1)
      have hb1 := block_one ⟨R, C, t, false, V⟩ 1
      rw [HZZ.out] at hb1
      have hA20 : A.size ≤ 1048576 := by
        rw [hAl, hb1, ← HK.out]
        simp only [List.length_cons, List.length_append, Array.length_toList, ByteArray.size_data, List.length_nil]
        rw [var_one (by omega), var_one (by omega)]
        omega
      have HPB := Lib.hid (show ∀ ev : Nat, 1 ≤ ev → ev ≤ 16 → putBlock [⟨R, C, t, false, V⟩] (ev : Int) = A.data.toList from fun ev h1 h2 => by rw [putBlock_yes (by simp) HC1.out h1 h2, block_one, hA, block_one])
      have HS := Lib.hid (show ({ data := #[0] } ++ P1 ++ P2 ++ Ky ++ V ++ { data := #[0, 0, 1, 0] } : ByteArray) = A from bytes_ext (by
        rw [hA, hb1, ← HK.out]
        simp only [ByteArray.data_append, Array.toList_append, List.append_assoc, HV.out.1, HV.out.2]
        simp))
      have HNE := Lib.hid (show A.data.toList ≠ [] by rw [hA]; exact block_ne _ _)
      clear hA hAl hb1
      have hsame := same_beq A
      go_wp2_with fail
      rw [HS.out]
      refine (at_some a0 len0 cap0 z0 0 _ _ (below_bytes HR.out Q5.out) hbig (by omega)).mono ?_
      rintro e w6 ⟨x0, hx0, rfl, rfl⟩
      obtain ⟨ev, hev⟩ : ∃ ev : Nat, 1 + x0 % 16 = ev := ⟨_, rfl⟩
      have hev0 : 1 ≤ ev := by omega
      have hev1 : ev ≤ 16 := by omega
      have hevi : (1 : Int) + (x0 : Int) % 16 = (ev : Int) := by omega
      clear hev
      go_wp2_with fail
      refine (implGetBlock A ev hA20 _).mono ?_
      rintro e w6 ⟨v, l, ok, rfl, hg, ho, b6⟩
      have hgt : Got A.data.toList ev [⟨R, C, t, false, V⟩] true := .inl ⟨rfl, HPB.out ev hev0 hev1, HNE.out⟩
      obtain ⟨rfl, rfl⟩ := got_one hgt hg
      obtain ⟨ad, cap, hv⟩ := own_form ho
      have hv : v = .slice ad 1 cap := hv
      subst hv
      have E6 := Lib.hid (show One5 D (.string R) (.string C) (.int .i64 t) (.bool false) (.string V) w6 ∧ CelRow w6 ad 1 cap [⟨R, C, t, false, V⟩] from ⟨E5.out.below b6, ho.row⟩)
      have Q6 := Lib.hid (Q5.out.trans (b6.mono Q5.out.size))
      clear hgt hg ho b6 hevi hx0
      go_wp2_with fail
      refine wp_region_held_drew (S := fun w' => One5 D (.string R) (.string C) (.int .i64 t) (.bool false) (.string V) w' ∧ CelRow w' ad 1 cap [⟨R, C, t, false, V⟩]) (by kernel_rfl) E6.out (fun hHeld => ?_)
      obtain ⟨w7, hw7⟩ : ∃ W, w6.drew = W := ⟨_, rfl⟩
      have E7 := Lib.hid (show One5 D (.string R) (.string C) (.int .i64 t) (.bool false) (.string V) w7 ∧ CelRow w7 ad 1 cap [⟨R, C, t, false, V⟩] by rw [← hw7]; exact ⟨E6.out.1.below (below_draws 1), E6.out.2.below (below_draws 1)⟩)
      have Q7 := Lib.hid (show Below w.heap.size w w7 by rw [← hw7]; exact Q6.out.trans (below_draws 1))
      rw [hw7] at hHeld ⊢
      clear hw7
      refine takeS_at (i := 0) (d := some 50) (v := ?_) rfl rfl (by kernel_rfl) (by kernel_rfl) (by kernel_rfl) (fun _ _ _ h => h) (by rfl) ?hy hHeld ?_
      case hy => (intro w' hS; obtain ⟨hS, hS2⟩ := hS; clear hS2; unfold One5 at hS; obtain ⟨s0, s1, s2, s3, s4⟩ := hS; go_simp <;> with_reducible rfl)
      simp only [Act.put, List.setIfInBounds_toArray, List.set_cons_zero, List.set_cons_succ]
      refine takeS_at (i := 2) (d := some 52) (v := ?_) rfl rfl (by kernel_rfl) (by kernel_rfl) (by kernel_rfl) (fun _ _ _ h => h) (by rfl) ?hy hHeld ?_
      case hy => (intro w' hS; clear hS; go_simp <;> with_reducible rfl)
      simp only [Act.put, List.setIfInBounds_toArray, List.set_cons_zero, List.set_cons_succ]
      refine takeS_at (i := 7) (d := some 57) (v := ?_) rfl rfl (by kernel_rfl) (by kernel_rfl) (by kernel_rfl) (fun _ _ _ h => h) (by rfl) ?hy hHeld ?_
      case hy => (intro w' hS; clear hS; go_simp <;> with_reducible rfl)
      simp only [Act.put, List.setIfInBounds_toArray, List.set_cons_zero, List.set_cons_succ]
      refine wpAnyH_ready (rs := [1, 3]) (by kernel_rfl) (by simp) ?_
      refine AllReadyH.cons rfl (fun K hK => ?_) (AllReadyH.cons rfl (fun K hK => ?_) AllReadyH.nil)
      · go_simp
        have hb8 := one_below w7 (.cells #[.string R, .string C, .int .i64 t, .bool false, .string V] 38)
        have D8 := Lib.hid (block_of w7 R C t false V)
        obtain ⟨w8, hw8⟩ : ∃ W, w7.alloc (.cells #[.string R, .string C, .int .i64 t, .bool false, .string V] 38) = W := ⟨_, rfl⟩
        rw [hw8] at hb8 D8 ⊢
        clear hw8
        have E8 := Lib.hid (show One5 D (.string R) (.string C) (.int .i64 t) (.bool false) (.string V) w8 ∧ CelRow w8 ad 1 cap [⟨R, C, t, false, V⟩] from ⟨E7.out.1.below hb8, E7.out.2.below hb8⟩)
        have Q8 := Lib.hid (Q7.out.trans (hb8.mono Q7.out.size))
        clear hb8
        obtain ⟨N8, hN8⟩ : ∃ A, w7.heap.size = A := ⟨_, rfl⟩
        rw [hN8] at D8 ⊢
        clear hN8
        refine hK.out _ _ E8.out (fun hHeld => ?_)
        clear hK K
        refine wpAnyH_ready (rs := [3]) (by kernel_rfl) (by simp) ?_
        refine AllReadyH.cons rfl (fun K hK => ?_) AllReadyH.nil
        go_simp
        refine (at_some a0 len0 cap0 z0 0 _ _ (below_bytes HR.out Q8.out) hbig (by omega)).mono ?_
        rintro e w9 ⟨y0, hy0, rfl, rfl⟩
        go_wp2_with fail
        refine hK.out _ _ E8.out (fun hHeld => ?_)
        clear hK K
        obtain ⟨ev2, hev2⟩ : ∃ ev : Nat, 1 + y0 % 16 = ev := ⟨_, rfl⟩
        have hev3 : 1 ≤ ev2 := by omega
        have hev4 : ev2 ≤ 16 := by omega
        have hev5 : (1 : Int) + (y0 : Int) % 16 = (ev2 : Int) := by omega
        have HE := Lib.hid (show IntKind.i64.wrap (1 + (y0 : Int).tmod 16) = (ev2 : Int) by rw [Int.tmod_eq_emod_of_nonneg (by omega), hev5]; exact IntWalk.i64_in _ (by omega))
        clear hev2 hev5
        refine takeS_at (i := 4) (d := some 54) (v := ?_) rfl rfl (by kernel_rfl) (by kernel_rfl) (by kernel_rfl) (fun _ _ _ h => h) (by rfl) ?hy hHeld ?_
        case hy => (intro w' hS; clear hS; go_simp <;> with_reducible rfl)
        simp only [Act.put, List.setIfInBounds_toArray, List.set_cons_zero, List.set_cons_succ]
        refine takeS_at (i := 5) (d := some 55) (v := ?_) rfl rfl (by kernel_rfl) (by kernel_rfl) (by kernel_rfl) (fun _ _ _ h => h) (by rfl) ?hy hHeld ?_
        case hy => (intro w' hS; clear hS; go_simp <;> with_reducible rfl)
        simp only [Act.put, List.setIfInBounds_toArray, List.set_cons_zero, List.set_cons_succ]
        refine wpAnyH_ready (rs := [6]) (by kernel_rfl) (by simp) ?_
        refine AllReadyH.cons rfl (fun K hK => ?_) AllReadyH.nil
        go_simp
        rw [HE.out]
        refine (implPutBlock _ 1 1 [⟨R, C, t, false, V⟩] ev2 (by omega) HF.out _ (D8.out.row rfl)).mono ?_
        rintro e w10 ⟨rfl, hb10⟩
        rw [HPB.out ev2 hev3 hev4, as_text rfl]
        have E10 := Lib.hid (show One5 D (.string R) (.string C) (.int .i64 t) (.bool false) (.string V) w10 ∧ CelRow w10 ad 1 cap [⟨R, C, t, false, V⟩] from ⟨E8.out.1.below hb10, E8.out.2.below hb10⟩)
        have Q10 := Lib.hid (Q8.out.trans (hb10.mono Q8.out.size))
        clear hb10
        go_wp2_with fail
        refine hK.out _ _ E10.out (fun hHeld => ?_)
        clear hK K
        refine takeS_at (i := 8) (d := some 58) (v := ?_) rfl rfl (by kernel_rfl) (by kernel_rfl) (by kernel_rfl) (fun _ _ _ h => h) (by rfl) ?hy hHeld ?_
        case hy => (intro w' hS; clear hS; go_simp <;> with_reducible rfl)
        simp only [Act.put, List.setIfInBounds_toArray, List.set_cons_zero, List.set_cons_succ]
        refine takeS_at (i := 9) (d := some 59) (v := ?_) rfl rfl (by kernel_rfl) (by kernel_rfl) (by kernel_rfl) (fun _ _ _ h => h) (by rfl) ?hy hHeld ?_
        case hy => (intro w' hS; clear hS; go_simp <;> with_reducible rfl)
        simp only [Act.put, List.setIfInBounds_toArray, List.set_cons_zero, List.set_cons_succ]
        refine takeS_at (i := 10) (d := some 60) (v := ?_) rfl rfl (by kernel_rfl) (by kernel_rfl) (by kernel_rfl) (fun _ _ _ h => h) (by rfl) ?hy hHeld ?_
        case hy => (intro w' hS; clear hS; go_simp <;> with_reducible rfl)
        simp only [Act.put, List.setIfInBounds_toArray, List.set_cons_zero, List.set_cons_succ]
        refine takeS_at (i := 11) (d := some 61) (v := ?_) rfl rfl (by kernel_rfl) (by kernel_rfl) (by kernel_rfl) (fun _ _ _ h => h) (by rfl) ?hy hHeld ?_
        case hy => (intro w' hS; clear hS; go_simp <;> with_reducible rfl)
        simp only [Act.put, List.setIfInBounds_toArray, List.set_cons_zero, List.set_cons_succ]
        refine takeS_at (i := 12) (d := some 62) (v := ?_) rfl rfl (by kernel_rfl) (by kernel_rfl) (by kernel_rfl) (fun _ _ _ h => h) (by rfl) ?hy hHeld ?_
        case hy => (intro w' hS; clear hS; go_simp <;> with_reducible rfl)
        simp only [Act.put, List.setIfInBounds_toArray, List.set_cons_zero, List.set_cons_succ]
        refine takeS_at (i := 13) (d := some 63) (v := ?_) rfl rfl (by kernel_rfl) (by kernel_rfl) (by kernel_rfl) (fun _ _ _ h => h) (by rfl) ?hy hHeld ?_
        case hy => (intro w' hS; clear hS; go_simp <;> with_reducible rfl)
        simp only [Act.put, List.setIfInBounds_toArray, List.set_cons_zero, List.set_cons_succ]
        refine takeS_at (i := 14) (d := some 64) (v := ?_) rfl rfl (by kernel_rfl) (by kernel_rfl) (by kernel_rfl) (fun _ _ _ h => h) (by rfl) ?hy hHeld ?_
        case hy => (intro w' hS; obtain ⟨hS, hS2⟩ := hS; clear hS2; unfold One5 at hS; obtain ⟨s0, s1, s2, s3, s4⟩ := hS; go_simp <;> with_reducible rfl)
        simp only [Act.put, List.setIfInBounds_toArray, List.set_cons_zero, List.set_cons_succ]
        refine wpAnyH_ready (rs := [15]) (by kernel_rfl) (by simp) ?_
        refine AllReadyH.cons rfl (fun K hK => ?_) AllReadyH.nil
        go_simp
        have hb11 := one_below w10 (.cells #[.string R, .string C, .int .i64 t, .bool false, .string V] 38)
        have D11 := Lib.hid (block_of w10 R C t false V)
        obtain ⟨w11, hw11⟩ : ∃ W, w10.alloc (.cells #[.string R, .string C, .int .i64 t, .bool false, .string V] 38) = W := ⟨_, rfl⟩
        rw [hw11] at hb11 D11 ⊢
        clear hw11
        have E11 := Lib.hid (show One5 D (.string R) (.string C) (.int .i64 t) (.bool false) (.string V) w11 ∧ CelRow w11 ad 1 cap [⟨R, C, t, false, V⟩] from ⟨E10.out.1.below hb11, E10.out.2.below hb11⟩)
        have Q11 := Lib.hid (Q10.out.trans (hb11.mono Q10.out.size))
        clear hb11
        obtain ⟨N11, hN11⟩ : ∃ A, w10.heap.size = A := ⟨_, rfl⟩
        rw [hN11] at D11 ⊢
        clear hN11
        refine hK.out _ _ E11.out (fun hHeld => ?_)
        clear hK K
        refine wpAnyH_ready (rs := [16]) (by kernel_rfl) (by simp) ?_
        refine AllReadyH.cons rfl (fun K hK => ?_) AllReadyH.nil
        go_simp
        refine (sameCells_same _ _ 1 cap 1 [⟨R, C, t, false, V⟩] (by omega) _ E11.out.2 (D11.out.row rfl)).mono ?_
        rintro e w12 ⟨rfl, hb12⟩
        have E12 := Lib.hid (show One5 D (.string R) (.string C) (.int .i64 t) (.bool false) (.string V) w12 ∧ CelRow w12 ad 1 cap [⟨R, C, t, false, V⟩] from ⟨E11.out.1.below hb12, E11.out.2.below hb12⟩)
        have Q12 := Lib.hid (Q11.out.trans (hb12.mono Q11.out.size))
        clear hb12
        go_wp2_with fail
        refine hK.out _ _ E12.out (fun hHeld => ?_)
        clear hK K
        refine takeS_at (i := 17) (d := some 67) (v := ?_) rfl rfl (by kernel_rfl) (by kernel_rfl) (by kernel_rfl) (fun _ _ _ h => h) (by rfl) ?hy hHeld ?_
        case hy => (intro w' hS; clear hS; go_simp <;> with_reducible rfl)
        simp only [Act.put, List.setIfInBounds_toArray, List.set_cons_zero, List.set_cons_succ]
        refine takeS_at (i := 18) (d := some 68) (v := ?_) rfl rfl (by kernel_rfl) (by kernel_rfl) (by kernel_rfl) (fun _ _ _ h => h) (by rfl) ?hy hHeld ?_
        case hy => (intro w' hS; clear hS; go_simp <;> with_reducible rfl)
        simp only [Act.put, List.setIfInBounds_toArray, List.set_cons_zero, List.set_cons_succ]
        refine wpAnyH_ready (rs := [19]) (by kernel_rfl) (by simp) ?_
        refine AllReadyH.cons rfl (fun K hK => ?_) AllReadyH.nil
        go_simp
        refine (implPutBlock none 0 0 [] 1 (by omega) (fun y hy => by simp at hy) _ ⟨rfl, Nat.le_refl _, fun k y hk => by simp at hk⟩).mono ?_
        rw [show putBlock [] (1 : Int) = [0, 0] from (putBlock_yes (xs := []) (e := 1) (by simp) cells_nil (by omega) (by omega)).trans (block_nil 1)]
        rintro e w13 ⟨rfl, hb13⟩
        have E13 := Lib.hid (show One5 D (.string R) (.string C) (.int .i64 t) (.bool false) (.string V) w13 ∧ CelRow w13 ad 1 cap [⟨R, C, t, false, V⟩] from ⟨E12.out.1.below hb13, E12.out.2.below hb13⟩)
        have Q13 := Lib.hid (Q12.out.trans (hb13.mono Q12.out.size))
        clear hb13
        go_wp2_with fail
        refine hK.out _ _ E13.out (fun hHeld => ?_)
        clear hK K
        refine takeS_at (i := 20) (d := some 70) (v := ?_) rfl rfl (by kernel_rfl) (by kernel_rfl) (by kernel_rfl) (fun _ _ _ h => h) (by rfl) ?hy hHeld ?_
        case hy => (intro w' hS; clear hS; go_simp <;> with_reducible rfl)
        simp only [Act.put, List.setIfInBounds_toArray, List.set_cons_zero, List.set_cons_succ]
        refine takeS_at (i := 21) (d := some 71) (v := ?_) rfl rfl (by kernel_rfl) (by kernel_rfl) (by kernel_rfl) (fun _ _ _ h => h) (by rfl) ?hy hHeld ?_
        case hy => (intro w' hS; clear hS; go_simp <;> with_reducible rfl)
        simp only [Act.put, List.setIfInBounds_toArray, List.set_cons_zero, List.set_cons_succ]
        refine takeS_at (i := 22) (d := some 2) (v := ?_) rfl rfl (by kernel_rfl) (by kernel_rfl) (by kernel_rfl) (fun _ _ _ h => h) (by rfl) ?hy hHeld ?_
        case hy => (intro w' hS; clear hS; go_simp <;> with_reducible rfl)
        simp only [Act.put, List.setIfInBounds_toArray, List.set_cons_zero, List.set_cons_succ]
        refine wpAnyH_done (by kernel_rfl) ?_ _
        go_wp2
        go_ret
        exact ⟨ret_bool (by simp), Q13.out⟩
      · go_simp
        refine (at_some a0 len0 cap0 z0 0 _ _ (below_bytes HR.out Q7.out) hbig (by omega)).mono ?_
        rintro e w9 ⟨y0, hy0, rfl, rfl⟩
        go_wp2_with fail
        refine hK.out _ _ E7.out (fun hHeld => ?_)
        clear hK K
        obtain ⟨ev2, hev2⟩ : ∃ ev : Nat, 1 + y0 % 16 = ev := ⟨_, rfl⟩
        have hev3 : 1 ≤ ev2 := by omega
        have hev4 : ev2 ≤ 16 := by omega
        have hev5 : (1 : Int) + (y0 : Int) % 16 = (ev2 : Int) := by omega
        have HE := Lib.hid (show IntKind.i64.wrap (1 + (y0 : Int).tmod 16) = (ev2 : Int) by rw [Int.tmod_eq_emod_of_nonneg (by omega), hev5]; exact IntWalk.i64_in _ (by omega))
        clear hev2 hev5
        refine takeS_at (i := 4) (d := some 54) (v := ?_) rfl rfl (by kernel_rfl) (by kernel_rfl) (by kernel_rfl) (fun _ _ _ h => h) (by rfl) ?hy hHeld ?_
        case hy => (intro w' hS; clear hS; go_simp <;> with_reducible rfl)
        simp only [Act.put, List.setIfInBounds_toArray, List.set_cons_zero, List.set_cons_succ]
        refine takeS_at (i := 5) (d := some 55) (v := ?_) rfl rfl (by kernel_rfl) (by kernel_rfl) (by kernel_rfl) (fun _ _ _ h => h) (by rfl) ?hy hHeld ?_
        case hy => (intro w' hS; clear hS; go_simp <;> with_reducible rfl)
        simp only [Act.put, List.setIfInBounds_toArray, List.set_cons_zero, List.set_cons_succ]
        refine wpAnyH_ready (rs := [1]) (by kernel_rfl) (by simp) ?_
        refine AllReadyH.cons rfl (fun K hK => ?_) AllReadyH.nil
        go_simp
        have hb8 := one_below w7 (.cells #[.string R, .string C, .int .i64 t, .bool false, .string V] 38)
        have D8 := Lib.hid (block_of w7 R C t false V)
        obtain ⟨w8, hw8⟩ : ∃ W, w7.alloc (.cells #[.string R, .string C, .int .i64 t, .bool false, .string V] 38) = W := ⟨_, rfl⟩
        rw [hw8] at hb8 D8 ⊢
        clear hw8
        have E8 := Lib.hid (show One5 D (.string R) (.string C) (.int .i64 t) (.bool false) (.string V) w8 ∧ CelRow w8 ad 1 cap [⟨R, C, t, false, V⟩] from ⟨E7.out.1.below hb8, E7.out.2.below hb8⟩)
        have Q8 := Lib.hid (Q7.out.trans (hb8.mono Q7.out.size))
        clear hb8
        obtain ⟨N8, hN8⟩ : ∃ A, w7.heap.size = A := ⟨_, rfl⟩
        rw [hN8] at D8 ⊢
        clear hN8
        refine hK.out _ _ E8.out (fun hHeld => ?_)
        clear hK K
        refine wpAnyH_ready (rs := [6]) (by kernel_rfl) (by simp) ?_
        refine AllReadyH.cons rfl (fun K hK => ?_) AllReadyH.nil
        go_simp
        rw [HE.out]
        refine (implPutBlock _ 1 1 [⟨R, C, t, false, V⟩] ev2 (by omega) HF.out _ (D8.out.row rfl)).mono ?_
        rintro e w10 ⟨rfl, hb10⟩
        rw [HPB.out ev2 hev3 hev4, as_text rfl]
        have E10 := Lib.hid (show One5 D (.string R) (.string C) (.int .i64 t) (.bool false) (.string V) w10 ∧ CelRow w10 ad 1 cap [⟨R, C, t, false, V⟩] from ⟨E8.out.1.below hb10, E8.out.2.below hb10⟩)
        have Q10 := Lib.hid (Q8.out.trans (hb10.mono Q8.out.size))
        clear hb10
        go_wp2_with fail
        refine hK.out _ _ E10.out (fun hHeld => ?_)
        clear hK K
        refine takeS_at (i := 8) (d := some 58) (v := ?_) rfl rfl (by kernel_rfl) (by kernel_rfl) (by kernel_rfl) (fun _ _ _ h => h) (by rfl) ?hy hHeld ?_
        case hy => (intro w' hS; clear hS; go_simp <;> with_reducible rfl)
        simp only [Act.put, List.setIfInBounds_toArray, List.set_cons_zero, List.set_cons_succ]
        refine takeS_at (i := 9) (d := some 59) (v := ?_) rfl rfl (by kernel_rfl) (by kernel_rfl) (by kernel_rfl) (fun _ _ _ h => h) (by rfl) ?hy hHeld ?_
        case hy => (intro w' hS; clear hS; go_simp <;> with_reducible rfl)
        simp only [Act.put, List.setIfInBounds_toArray, List.set_cons_zero, List.set_cons_succ]
        refine takeS_at (i := 10) (d := some 60) (v := ?_) rfl rfl (by kernel_rfl) (by kernel_rfl) (by kernel_rfl) (fun _ _ _ h => h) (by rfl) ?hy hHeld ?_
        case hy => (intro w' hS; clear hS; go_simp <;> with_reducible rfl)
        simp only [Act.put, List.setIfInBounds_toArray, List.set_cons_zero, List.set_cons_succ]
        refine takeS_at (i := 11) (d := some 61) (v := ?_) rfl rfl (by kernel_rfl) (by kernel_rfl) (by kernel_rfl) (fun _ _ _ h => h) (by rfl) ?hy hHeld ?_
        case hy => (intro w' hS; clear hS; go_simp <;> with_reducible rfl)
        simp only [Act.put, List.setIfInBounds_toArray, List.set_cons_zero, List.set_cons_succ]
        refine takeS_at (i := 12) (d := some 62) (v := ?_) rfl rfl (by kernel_rfl) (by kernel_rfl) (by kernel_rfl) (fun _ _ _ h => h) (by rfl) ?hy hHeld ?_
        case hy => (intro w' hS; clear hS; go_simp <;> with_reducible rfl)
        simp only [Act.put, List.setIfInBounds_toArray, List.set_cons_zero, List.set_cons_succ]
        refine takeS_at (i := 13) (d := some 63) (v := ?_) rfl rfl (by kernel_rfl) (by kernel_rfl) (by kernel_rfl) (fun _ _ _ h => h) (by rfl) ?hy hHeld ?_
        case hy => (intro w' hS; clear hS; go_simp <;> with_reducible rfl)
        simp only [Act.put, List.setIfInBounds_toArray, List.set_cons_zero, List.set_cons_succ]
        refine takeS_at (i := 14) (d := some 64) (v := ?_) rfl rfl (by kernel_rfl) (by kernel_rfl) (by kernel_rfl) (fun _ _ _ h => h) (by rfl) ?hy hHeld ?_
        case hy => (intro w' hS; obtain ⟨hS, hS2⟩ := hS; clear hS2; unfold One5 at hS; obtain ⟨s0, s1, s2, s3, s4⟩ := hS; go_simp <;> with_reducible rfl)
        simp only [Act.put, List.setIfInBounds_toArray, List.set_cons_zero, List.set_cons_succ]
        refine wpAnyH_ready (rs := [15]) (by kernel_rfl) (by simp) ?_
        refine AllReadyH.cons rfl (fun K hK => ?_) AllReadyH.nil
        go_simp
        have hb11 := one_below w10 (.cells #[.string R, .string C, .int .i64 t, .bool false, .string V] 38)
        have D11 := Lib.hid (block_of w10 R C t false V)
        obtain ⟨w11, hw11⟩ : ∃ W, w10.alloc (.cells #[.string R, .string C, .int .i64 t, .bool false, .string V] 38) = W := ⟨_, rfl⟩
        rw [hw11] at hb11 D11 ⊢
        clear hw11
        have E11 := Lib.hid (show One5 D (.string R) (.string C) (.int .i64 t) (.bool false) (.string V) w11 ∧ CelRow w11 ad 1 cap [⟨R, C, t, false, V⟩] from ⟨E10.out.1.below hb11, E10.out.2.below hb11⟩)
        have Q11 := Lib.hid (Q10.out.trans (hb11.mono Q10.out.size))
        clear hb11
        obtain ⟨N11, hN11⟩ : ∃ A, w10.heap.size = A := ⟨_, rfl⟩
        rw [hN11] at D11 ⊢
        clear hN11
        refine hK.out _ _ E11.out (fun hHeld => ?_)
        clear hK K
        refine wpAnyH_ready (rs := [16]) (by kernel_rfl) (by simp) ?_
        refine AllReadyH.cons rfl (fun K hK => ?_) AllReadyH.nil
        go_simp
        refine (sameCells_same _ _ 1 cap 1 [⟨R, C, t, false, V⟩] (by omega) _ E11.out.2 (D11.out.row rfl)).mono ?_
        rintro e w12 ⟨rfl, hb12⟩
        have E12 := Lib.hid (show One5 D (.string R) (.string C) (.int .i64 t) (.bool false) (.string V) w12 ∧ CelRow w12 ad 1 cap [⟨R, C, t, false, V⟩] from ⟨E11.out.1.below hb12, E11.out.2.below hb12⟩)
        have Q12 := Lib.hid (Q11.out.trans (hb12.mono Q11.out.size))
        clear hb12
        go_wp2_with fail
        refine hK.out _ _ E12.out (fun hHeld => ?_)
        clear hK K
        refine takeS_at (i := 17) (d := some 67) (v := ?_) rfl rfl (by kernel_rfl) (by kernel_rfl) (by kernel_rfl) (fun _ _ _ h => h) (by rfl) ?hy hHeld ?_
        case hy => (intro w' hS; clear hS; go_simp <;> with_reducible rfl)
        simp only [Act.put, List.setIfInBounds_toArray, List.set_cons_zero, List.set_cons_succ]
        refine takeS_at (i := 18) (d := some 68) (v := ?_) rfl rfl (by kernel_rfl) (by kernel_rfl) (by kernel_rfl) (fun _ _ _ h => h) (by rfl) ?hy hHeld ?_
        case hy => (intro w' hS; clear hS; go_simp <;> with_reducible rfl)
        simp only [Act.put, List.setIfInBounds_toArray, List.set_cons_zero, List.set_cons_succ]
        refine wpAnyH_ready (rs := [19]) (by kernel_rfl) (by simp) ?_
        refine AllReadyH.cons rfl (fun K hK => ?_) AllReadyH.nil
        go_simp
        refine (implPutBlock none 0 0 [] 1 (by omega) (fun y hy => by simp at hy) _ ⟨rfl, Nat.le_refl _, fun k y hk => by simp at hk⟩).mono ?_
        rw [show putBlock [] (1 : Int) = [0, 0] from (putBlock_yes (xs := []) (e := 1) (by simp) cells_nil (by omega) (by omega)).trans (block_nil 1)]
        rintro e w13 ⟨rfl, hb13⟩
        have E13 := Lib.hid (show One5 D (.string R) (.string C) (.int .i64 t) (.bool false) (.string V) w13 ∧ CelRow w13 ad 1 cap [⟨R, C, t, false, V⟩] from ⟨E12.out.1.below hb13, E12.out.2.below hb13⟩)
        have Q13 := Lib.hid (Q12.out.trans (hb13.mono Q12.out.size))
        clear hb13
        go_wp2_with fail
        refine hK.out _ _ E13.out (fun hHeld => ?_)
        clear hK K
        refine takeS_at (i := 20) (d := some 70) (v := ?_) rfl rfl (by kernel_rfl) (by kernel_rfl) (by kernel_rfl) (fun _ _ _ h => h) (by rfl) ?hy hHeld ?_
        case hy => (intro w' hS; clear hS; go_simp <;> with_reducible rfl)
        simp only [Act.put, List.setIfInBounds_toArray, List.set_cons_zero, List.set_cons_succ]
        refine takeS_at (i := 21) (d := some 71) (v := ?_) rfl rfl (by kernel_rfl) (by kernel_rfl) (by kernel_rfl) (fun _ _ _ h => h) (by rfl) ?hy hHeld ?_
        case hy => (intro w' hS; clear hS; go_simp <;> with_reducible rfl)
        simp only [Act.put, List.setIfInBounds_toArray, List.set_cons_zero, List.set_cons_succ]
        refine takeS_at (i := 22) (d := some 2) (v := ?_) rfl rfl (by kernel_rfl) (by kernel_rfl) (by kernel_rfl) (fun _ _ _ h => h) (by rfl) ?hy hHeld ?_
        case hy => (intro w' hS; clear hS; go_simp <;> with_reducible rfl)
        simp only [Act.put, List.setIfInBounds_toArray, List.set_cons_zero, List.set_cons_succ]
        refine wpAnyH_done (by kernel_rfl) ?_ _
        go_wp2
        go_ret
        exact ⟨ret_bool (by simp), Q13.out⟩
    · obtain ⟨zn, hz0⟩ : ∃ z, 2 * V.size = z := ⟨_, rfl⟩
      have hz1 : 2 * (V.size : Int) = (zn : Int) := by omega
      have hz2 : (zn : Int) + 1 = (zz : Int) := by simp at hzd; omega
      have hz3 : zn ≤ 60 := by simp at hzd; omega
      clear hz0
      clear hzd
      go_wp2_with fail
      clear c0 c1 c2 c3 c4
      refine wp_region_held_drew (S := fun w' => One5 D (.string R) (.string C) (.int .i64 t) (.bool true) (.string V) w') (by kernel_rfl) E3.out (fun hHeld => ?_)
      refine takeS_at (i := 0) (d := some 28) (v := ?_) rfl rfl (by kernel_rfl) (by kernel_rfl) (by kernel_rfl) (fun _ _ _ h => h) (by rfl) ?hy hHeld ?_
      case hy => (intro w' hS; clear hS; go_simp <;> with_reducible rfl)
      simp only [Act.put, List.setIfInBounds_toArray, List.set_cons_zero, List.set_cons_succ]
      refine takeS_at (i := 1) (d := some 29) (v := ?_) rfl rfl (by kernel_rfl) (by kernel_rfl) (by kernel_rfl) (fun _ _ _ h => h) (by rfl) ?hy hHeld ?_
      case hy => (intro w' hS; clear hS; go_simp <;> with_reducible rfl)
      simp only [Act.put, List.setIfInBounds_toArray, List.set_cons_zero, List.set_cons_succ]
      refine takeS_at (i := 4) (d := some 32) (v := ?_) rfl rfl (by kernel_rfl) (by kernel_rfl) (by kernel_rfl) (fun _ _ _ h => h) (by rfl) ?hy hHeld ?_
      case hy => (intro w' hS; clear hS; go_simp <;> with_reducible rfl)
      simp only [Act.put, List.setIfInBounds_toArray, List.set_cons_zero, List.set_cons_succ]
      refine takeS_at (i := 7) (d := some 35) (v := ?_) rfl rfl (by kernel_rfl) (by kernel_rfl) (by kernel_rfl) (fun _ _ _ h => h) (by rfl) ?hy hHeld ?_
      case hy => (intro w' hS; clear hS; go_simp <;> with_reducible rfl)
      simp only [Act.put, List.setIfInBounds_toArray, List.set_cons_zero, List.set_cons_succ]
      refine takeS_at (i := 9) (d := some 37) (v := ?_) rfl rfl (by kernel_rfl) (by kernel_rfl) (by kernel_rfl) (fun _ _ _ h => h) (by rfl) ?hy hHeld ?_
      case hy => (intro w' hS; clear hS; go_simp <;> with_reducible rfl)
      simp only [Act.put, List.setIfInBounds_toArray, List.set_cons_zero, List.set_cons_succ]
      refine takeS_at (i := 10) (d := some 38) (v := ?_) rfl rfl (by kernel_rfl) (by kernel_rfl) (by kernel_rfl) (fun _ _ _ h => h) (by rfl) ?hy hHeld ?_
      case hy => (intro w' hS; unfold One5 at hS; obtain ⟨s0, s1, s2, s3, s4⟩ := hS; go_simp <;> with_reducible rfl)
      simp only [Act.put, List.setIfInBounds_toArray, List.set_cons_zero, List.set_cons_succ]
      refine wpAnyH_ready (rs := [2]) (by kernel_rfl) (by simp) ?_
      refine AllReadyH.cons rfl (fun K hK => ?_) AllReadyH.nil
      go_simp
      refine (specPutVar_as (Ky.size : Int) P1 HP1.out _).mono ?_
      rintro e w4 ⟨rfl, hb4⟩
      have E4 := Lib.hid (One5.below (w := w3.drewN 1) E3.out hb4)
      have Q4 := Lib.hid ((Q3.out.trans (below_draws 1)).trans (hb4.mono (by have := Q3.out.size; simpa using this)))
      clear hb4
      go_wp2_with fail
      refine hK.out _ _ E4.out (fun hHeld => ?_)
      clear hK K
      refine takeS_at (i := 3) (d := some 31) (v := ?_) rfl rfl (by kernel_rfl) (by kernel_rfl) (by kernel_rfl) (fun _ _ _ h => h) (by rfl) ?hy hHeld ?_
      case hy => (intro w' hS; clear hS; go_simp <;> with_reducible rfl)
      simp only [Act.put, List.setIfInBounds_toArray, List.set_cons_zero, List.set_cons_succ]
      refine wpAnyH_ready (rs := [5]) (by kernel_rfl) (by simp) ?_
      refine AllReadyH.cons rfl (fun K hK => ?_) AllReadyH.nil
      go_simp
      refine (specPutVar_as (zz : Int) P2 HP2.out _).mono ?_
      rintro e w5 ⟨rfl, hb5⟩
      have E5 := Lib.hid (E4.out.below hb5)
      have Q5 := Lib.hid (Q4.out.trans (hb5.mono Q4.out.size))
      clear hb5
      go_wp2_with fail
      refine hK.out _ _ E5.out (fun hHeld => ?_)
      clear hK K
      refine takeS_at (i := 6) (d := some 34) (v := ?_) rfl rfl (by kernel_rfl) (by kernel_rfl) (by kernel_rfl) (fun _ _ _ h => h) (by rfl) ?hy hHeld ?_
      case hy => (intro w' hS; clear hS; go_simp <;> with_reducible rfl)
      simp only [Act.put, List.setIfInBounds_toArray, List.set_cons_zero, List.set_cons_succ]
      refine takeS_at (i := 8) (d := some 36) (v := ?_) rfl rfl (by kernel_rfl) (by kernel_rfl) (by kernel_rfl) (fun _ _ _ h => h) (by rfl) ?hy hHeld ?_
      case hy => (intro w' hS; clear hS; go_simp <;> with_reducible rfl)
      simp only [Act.put, List.setIfInBounds_toArray, List.set_cons_zero, List.set_cons_succ]
      refine takeS_at (i := 11) (d := some 39) (v := ?_) rfl rfl (by kernel_rfl) (by kernel_rfl) (by kernel_rfl) (fun _ _ _ h => h) (by rfl) ?hy hHeld ?_
      case hy => (intro w' hS; clear hS; go_simp <;> with_reducible rfl)
      simp only [Act.put, List.setIfInBounds_toArray, List.set_cons_zero, List.set_cons_succ]
      refine takeS_at (i := 12) (d := some 40) (v := ?_) rfl rfl (by kernel_rfl) (by kernel_rfl) (by kernel_rfl) (fun _ _ _ h => h) (by rfl) ?hy hHeld ?_
      case hy => (intro w' hS; clear hS; go_simp <;> with_reducible rfl)
      simp only [Act.put, List.setIfInBounds_toArray, List.set_cons_zero, List.set_cons_succ]
      refine takeS_at (i := 13) (d := some 6) (v := ?_) rfl rfl (by kernel_rfl) (by kernel_rfl) (by kernel_rfl) (fun _ _ _ h => h) (by rfl) ?hy hHeld ?_
      case hy => (intro w' hS; clear hS; go_simp <;> with_reducible rfl)
      simp only [Act.put, List.setIfInBounds_toArray, List.set_cons_zero, List.set_cons_succ]
      refine wpAnyH_done (by kernel_rfl) ?_ _
      obtain ⟨A, hA, hAl⟩ := text_of (block [⟨R, C, t, true, V⟩] 1)
      have hb1 := block_one ⟨R, C, t, true, V⟩ 1
      rw [HZZ.out] at hb1
      have hA20 : A.size ≤ 1048576 := by
        rw [hAl, hb1, ← HK.out]
        simp only [List.length_cons, List.length_append, Array.length_toList, ByteArray.size_data, List.length_nil]
        rw [var_one (by omega), var_one (by omega)]
        omega
      have HPB := Lib.hid (show ∀ ev : Nat, 1 ≤ ev → ev ≤ 16 → putBlock [⟨R, C, t, true, V⟩] (ev : Int) = A.data.toList from fun ev h1 h2 => by rw [putBlock_yes (by simp) HC1.out h1 h2, block_one, hA, block_one])
      have HS := Lib.hid (show ({ data := #[0] } ++ P1 ++ P2 ++ Ky ++ V ++ { data := #[0, 0, 1, 0] } : ByteArray) = A from bytes_ext (by
        rw [hA, hb1, ← HK.out]
        simp only [ByteArray.data_append, Array.toList_append, List.append_assoc, HV.out.1, HV.out.2]
        simp))
      have HNE := Lib.hid (show A.data.toList ≠ [] by rw [hA]; exact block_ne _ _)
      clear hA hAl hb1
      have hsame := same_beq A
      go_wp2_with fail
      rw [HS.out]
      refine (at_some a0 len0 cap0 z0 0 _ _ (below_bytes HR.out Q5.out) hbig (by omega)).mono ?_
      rintro e w6 ⟨x0, hx0, rfl, rfl⟩
      obtain ⟨ev, hev⟩ : ∃ ev : Nat, 1 + x0 % 16 = ev := ⟨_, rfl⟩
      have hev0 : 1 ≤ ev := by omega
      have hev1 : ev ≤ 16 := by omega
      have hevi : (1 : Int) + (x0 : Int) % 16 = (ev : Int) := by omega
      clear hev
      go_wp2_with fail
      refine (implGetBlock A ev hA20 _).mono ?_
      rintro e w6 ⟨v, l, ok, rfl, hg, ho, b6⟩
      have hgt : Got A.data.toList ev [⟨R, C, t, true, V⟩] true := .inl ⟨rfl, HPB.out ev hev0 hev1, HNE.out⟩
      obtain ⟨rfl, rfl⟩ := got_one hgt hg
      obtain ⟨ad, cap, hv⟩ := own_form ho
      have hv : v = .slice ad 1 cap := hv
      subst hv
      have E6 := Lib.hid (show One5 D (.string R) (.string C) (.int .i64 t) (.bool true) (.string V) w6 ∧ CelRow w6 ad 1 cap [⟨R, C, t, true, V⟩] from ⟨E5.out.below b6, ho.row⟩)
      have Q6 := Lib.hid (Q5.out.trans (b6.mono Q5.out.size))
      clear hgt hg ho b6 hevi hx0
      go_wp2_with fail
      refine wp_region_held_drew (S := fun w' => One5 D (.string R) (.string C) (.int .i64 t) (.bool true) (.string V) w' ∧ CelRow w' ad 1 cap [⟨R, C, t, true, V⟩]) (by kernel_rfl) E6.out (fun hHeld => ?_)
      obtain ⟨w7, hw7⟩ : ∃ W, w6.drew = W := ⟨_, rfl⟩
      have E7 := Lib.hid (show One5 D (.string R) (.string C) (.int .i64 t) (.bool true) (.string V) w7 ∧ CelRow w7 ad 1 cap [⟨R, C, t, true, V⟩] by rw [← hw7]; exact ⟨E6.out.1.below (below_draws 1), E6.out.2.below (below_draws 1)⟩)
      have Q7 := Lib.hid (show Below w.heap.size w w7 by rw [← hw7]; exact Q6.out.trans (below_draws 1))
      rw [hw7] at hHeld ⊢
      clear hw7
      refine takeS_at (i := 0) (d := some 50) (v := ?_) rfl rfl (by kernel_rfl) (by kernel_rfl) (by kernel_rfl) (fun _ _ _ h => h) (by rfl) ?hy hHeld ?_
      case hy => (intro w' hS; obtain ⟨hS, hS2⟩ := hS; clear hS2; unfold One5 at hS; obtain ⟨s0, s1, s2, s3, s4⟩ := hS; go_simp <;> with_reducible rfl)
      simp only [Act.put, List.setIfInBounds_toArray, List.set_cons_zero, List.set_cons_succ]
      refine takeS_at (i := 2) (d := some 52) (v := ?_) rfl rfl (by kernel_rfl) (by kernel_rfl) (by kernel_rfl) (fun _ _ _ h => h) (by rfl) ?hy hHeld ?_
      case hy => (intro w' hS; clear hS; go_simp <;> with_reducible rfl)
      simp only [Act.put, List.setIfInBounds_toArray, List.set_cons_zero, List.set_cons_succ]
      refine takeS_at (i := 7) (d := some 57) (v := ?_) rfl rfl (by kernel_rfl) (by kernel_rfl) (by kernel_rfl) (fun _ _ _ h => h) (by rfl) ?hy hHeld ?_
      case hy => (intro w' hS; clear hS; go_simp <;> with_reducible rfl)
      simp only [Act.put, List.setIfInBounds_toArray, List.set_cons_zero, List.set_cons_succ]
      refine wpAnyH_ready (rs := [1, 3]) (by kernel_rfl) (by simp) ?_
      refine AllReadyH.cons rfl (fun K hK => ?_) (AllReadyH.cons rfl (fun K hK => ?_) AllReadyH.nil)
      · go_simp
        have hb8 := one_below w7 (.cells #[.string R, .string C, .int .i64 t, .bool true, .string V] 38)
        have D8 := Lib.hid (block_of w7 R C t true V)
        obtain ⟨w8, hw8⟩ : ∃ W, w7.alloc (.cells #[.string R, .string C, .int .i64 t, .bool true, .string V] 38) = W := ⟨_, rfl⟩
        rw [hw8] at hb8 D8 ⊢
        clear hw8
        have E8 := Lib.hid (show One5 D (.string R) (.string C) (.int .i64 t) (.bool true) (.string V) w8 ∧ CelRow w8 ad 1 cap [⟨R, C, t, true, V⟩] from ⟨E7.out.1.below hb8, E7.out.2.below hb8⟩)
        have Q8 := Lib.hid (Q7.out.trans (hb8.mono Q7.out.size))
        clear hb8
        obtain ⟨N8, hN8⟩ : ∃ A, w7.heap.size = A := ⟨_, rfl⟩
        rw [hN8] at D8 ⊢
        clear hN8
        refine hK.out _ _ E8.out (fun hHeld => ?_)
        clear hK K
        refine wpAnyH_ready (rs := [3]) (by kernel_rfl) (by simp) ?_
        refine AllReadyH.cons rfl (fun K hK => ?_) AllReadyH.nil
        go_simp
        refine (at_some a0 len0 cap0 z0 0 _ _ (below_bytes HR.out Q8.out) hbig (by omega)).mono ?_
        rintro e w9 ⟨y0, hy0, rfl, rfl⟩
        go_wp2_with fail
        refine hK.out _ _ E8.out (fun hHeld => ?_)
        clear hK K
        obtain ⟨ev2, hev2⟩ : ∃ ev : Nat, 1 + y0 % 16 = ev := ⟨_, rfl⟩
        have hev3 : 1 ≤ ev2 := by omega
        have hev4 : ev2 ≤ 16 := by omega
        have hev5 : (1 : Int) + (y0 : Int) % 16 = (ev2 : Int) := by omega
        have HE := Lib.hid (show IntKind.i64.wrap (1 + (y0 : Int).tmod 16) = (ev2 : Int) by rw [Int.tmod_eq_emod_of_nonneg (by omega), hev5]; exact IntWalk.i64_in _ (by omega))
        clear hev2 hev5
        refine takeS_at (i := 4) (d := some 54) (v := ?_) rfl rfl (by kernel_rfl) (by kernel_rfl) (by kernel_rfl) (fun _ _ _ h => h) (by rfl) ?hy hHeld ?_
        case hy => (intro w' hS; clear hS; go_simp <;> with_reducible rfl)
        simp only [Act.put, List.setIfInBounds_toArray, List.set_cons_zero, List.set_cons_succ]
        refine takeS_at (i := 5) (d := some 55) (v := ?_) rfl rfl (by kernel_rfl) (by kernel_rfl) (by kernel_rfl) (fun _ _ _ h => h) (by rfl) ?hy hHeld ?_
        case hy => (intro w' hS; clear hS; go_simp <;> with_reducible rfl)
        simp only [Act.put, List.setIfInBounds_toArray, List.set_cons_zero, List.set_cons_succ]
        refine wpAnyH_ready (rs := [6]) (by kernel_rfl) (by simp) ?_
        refine AllReadyH.cons rfl (fun K hK => ?_) AllReadyH.nil
        go_simp
        rw [HE.out]
        refine (implPutBlock _ 1 1 [⟨R, C, t, true, V⟩] ev2 (by omega) HF.out _ (D8.out.row rfl)).mono ?_
        rintro e w10 ⟨rfl, hb10⟩
        rw [HPB.out ev2 hev3 hev4, as_text rfl]
        have E10 := Lib.hid (show One5 D (.string R) (.string C) (.int .i64 t) (.bool true) (.string V) w10 ∧ CelRow w10 ad 1 cap [⟨R, C, t, true, V⟩] from ⟨E8.out.1.below hb10, E8.out.2.below hb10⟩)
        have Q10 := Lib.hid (Q8.out.trans (hb10.mono Q8.out.size))
        clear hb10
        go_wp2_with fail
        refine hK.out _ _ E10.out (fun hHeld => ?_)
        clear hK K
        refine takeS_at (i := 8) (d := some 58) (v := ?_) rfl rfl (by kernel_rfl) (by kernel_rfl) (by kernel_rfl) (fun _ _ _ h => h) (by rfl) ?hy hHeld ?_
        case hy => (intro w' hS; clear hS; go_simp <;> with_reducible rfl)
        simp only [Act.put, List.setIfInBounds_toArray, List.set_cons_zero, List.set_cons_succ]
        refine takeS_at (i := 9) (d := some 59) (v := ?_) rfl rfl (by kernel_rfl) (by kernel_rfl) (by kernel_rfl) (fun _ _ _ h => h) (by rfl) ?hy hHeld ?_
        case hy => (intro w' hS; clear hS; go_simp <;> with_reducible rfl)
        simp only [Act.put, List.setIfInBounds_toArray, List.set_cons_zero, List.set_cons_succ]
        refine takeS_at (i := 10) (d := some 60) (v := ?_) rfl rfl (by kernel_rfl) (by kernel_rfl) (by kernel_rfl) (fun _ _ _ h => h) (by rfl) ?hy hHeld ?_
        case hy => (intro w' hS; clear hS; go_simp <;> with_reducible rfl)
        simp only [Act.put, List.setIfInBounds_toArray, List.set_cons_zero, List.set_cons_succ]
        refine takeS_at (i := 11) (d := some 61) (v := ?_) rfl rfl (by kernel_rfl) (by kernel_rfl) (by kernel_rfl) (fun _ _ _ h => h) (by rfl) ?hy hHeld ?_
        case hy => (intro w' hS; clear hS; go_simp <;> with_reducible rfl)
        simp only [Act.put, List.setIfInBounds_toArray, List.set_cons_zero, List.set_cons_succ]
        refine takeS_at (i := 12) (d := some 62) (v := ?_) rfl rfl (by kernel_rfl) (by kernel_rfl) (by kernel_rfl) (fun _ _ _ h => h) (by rfl) ?hy hHeld ?_
        case hy => (intro w' hS; clear hS; go_simp <;> with_reducible rfl)
        simp only [Act.put, List.setIfInBounds_toArray, List.set_cons_zero, List.set_cons_succ]
        refine takeS_at (i := 13) (d := some 63) (v := ?_) rfl rfl (by kernel_rfl) (by kernel_rfl) (by kernel_rfl) (fun _ _ _ h => h) (by rfl) ?hy hHeld ?_
        case hy => (intro w' hS; clear hS; go_simp <;> with_reducible rfl)
        simp only [Act.put, List.setIfInBounds_toArray, List.set_cons_zero, List.set_cons_succ]
        refine takeS_at (i := 14) (d := some 64) (v := ?_) rfl rfl (by kernel_rfl) (by kernel_rfl) (by kernel_rfl) (fun _ _ _ h => h) (by rfl) ?hy hHeld ?_
        case hy => (intro w' hS; obtain ⟨hS, hS2⟩ := hS; clear hS2; unfold One5 at hS; obtain ⟨s0, s1, s2, s3, s4⟩ := hS; go_simp <;> with_reducible rfl)
        simp only [Act.put, List.setIfInBounds_toArray, List.set_cons_zero, List.set_cons_succ]
        refine wpAnyH_ready (rs := [15]) (by kernel_rfl) (by simp) ?_
        refine AllReadyH.cons rfl (fun K hK => ?_) AllReadyH.nil
        go_simp
        have hb11 := one_below w10 (.cells #[.string R, .string C, .int .i64 t, .bool true, .string V] 38)
        have D11 := Lib.hid (block_of w10 R C t true V)
        obtain ⟨w11, hw11⟩ : ∃ W, w10.alloc (.cells #[.string R, .string C, .int .i64 t, .bool true, .string V] 38) = W := ⟨_, rfl⟩
        rw [hw11] at hb11 D11 ⊢
        clear hw11
        have E11 := Lib.hid (show One5 D (.string R) (.string C) (.int .i64 t) (.bool true) (.string V) w11 ∧ CelRow w11 ad 1 cap [⟨R, C, t, true, V⟩] from ⟨E10.out.1.below hb11, E10.out.2.below hb11⟩)
        have Q11 := Lib.hid (Q10.out.trans (hb11.mono Q10.out.size))
        clear hb11
        obtain ⟨N11, hN11⟩ : ∃ A, w10.heap.size = A := ⟨_, rfl⟩
        rw [hN11] at D11 ⊢
        clear hN11
        refine hK.out _ _ E11.out (fun hHeld => ?_)
        clear hK K
        refine wpAnyH_ready (rs := [16]) (by kernel_rfl) (by simp) ?_
        refine AllReadyH.cons rfl (fun K hK => ?_) AllReadyH.nil
        go_simp
        refine (sameCells_same _ _ 1 cap 1 [⟨R, C, t, true, V⟩] (by omega) _ E11.out.2 (D11.out.row rfl)).mono ?_
        rintro e w12 ⟨rfl, hb12⟩
        have E12 := Lib.hid (show One5 D (.string R) (.string C) (.int .i64 t) (.bool true) (.string V) w12 ∧ CelRow w12 ad 1 cap [⟨R, C, t, true, V⟩] from ⟨E11.out.1.below hb12, E11.out.2.below hb12⟩)
        have Q12 := Lib.hid (Q11.out.trans (hb12.mono Q11.out.size))
        clear hb12
        go_wp2_with fail
        refine hK.out _ _ E12.out (fun hHeld => ?_)
        clear hK K
        refine takeS_at (i := 17) (d := some 67) (v := ?_) rfl rfl (by kernel_rfl) (by kernel_rfl) (by kernel_rfl) (fun _ _ _ h => h) (by rfl) ?hy hHeld ?_
        case hy => (intro w' hS; clear hS; go_simp <;> with_reducible rfl)
        simp only [Act.put, List.setIfInBounds_toArray, List.set_cons_zero, List.set_cons_succ]
        refine takeS_at (i := 18) (d := some 68) (v := ?_) rfl rfl (by kernel_rfl) (by kernel_rfl) (by kernel_rfl) (fun _ _ _ h => h) (by rfl) ?hy hHeld ?_
        case hy => (intro w' hS; clear hS; go_simp <;> with_reducible rfl)
        simp only [Act.put, List.setIfInBounds_toArray, List.set_cons_zero, List.set_cons_succ]
        refine wpAnyH_ready (rs := [19]) (by kernel_rfl) (by simp) ?_
        refine AllReadyH.cons rfl (fun K hK => ?_) AllReadyH.nil
        go_simp
        refine (implPutBlock none 0 0 [] 1 (by omega) (fun y hy => by simp at hy) _ ⟨rfl, Nat.le_refl _, fun k y hk => by simp at hk⟩).mono ?_
        rw [show putBlock [] (1 : Int) = [0, 0] from (putBlock_yes (xs := []) (e := 1) (by simp) cells_nil (by omega) (by omega)).trans (block_nil 1)]
        rintro e w13 ⟨rfl, hb13⟩
        have E13 := Lib.hid (show One5 D (.string R) (.string C) (.int .i64 t) (.bool true) (.string V) w13 ∧ CelRow w13 ad 1 cap [⟨R, C, t, true, V⟩] from ⟨E12.out.1.below hb13, E12.out.2.below hb13⟩)
        have Q13 := Lib.hid (Q12.out.trans (hb13.mono Q12.out.size))
        clear hb13
        go_wp2_with fail
        refine hK.out _ _ E13.out (fun hHeld => ?_)
        clear hK K
        refine takeS_at (i := 20) (d := some 70) (v := ?_) rfl rfl (by kernel_rfl) (by kernel_rfl) (by kernel_rfl) (fun _ _ _ h => h) (by rfl) ?hy hHeld ?_
        case hy => (intro w' hS; clear hS; go_simp <;> with_reducible rfl)
        simp only [Act.put, List.setIfInBounds_toArray, List.set_cons_zero, List.set_cons_succ]
        refine takeS_at (i := 21) (d := some 71) (v := ?_) rfl rfl (by kernel_rfl) (by kernel_rfl) (by kernel_rfl) (fun _ _ _ h => h) (by rfl) ?hy hHeld ?_
        case hy => (intro w' hS; clear hS; go_simp <;> with_reducible rfl)
        simp only [Act.put, List.setIfInBounds_toArray, List.set_cons_zero, List.set_cons_succ]
        refine takeS_at (i := 22) (d := some 2) (v := ?_) rfl rfl (by kernel_rfl) (by kernel_rfl) (by kernel_rfl) (fun _ _ _ h => h) (by rfl) ?hy hHeld ?_
        case hy => (intro w' hS; clear hS; go_simp <;> with_reducible rfl)
        simp only [Act.put, List.setIfInBounds_toArray, List.set_cons_zero, List.set_cons_succ]
        refine wpAnyH_done (by kernel_rfl) ?_ _
        go_wp2
        go_ret
        exact ⟨ret_bool (by simp), Q13.out⟩
      · go_simp
        refine (at_some a0 len0 cap0 z0 0 _ _ (below_bytes HR.out Q7.out) hbig (by omega)).mono ?_
        rintro e w9 ⟨y0, hy0, rfl, rfl⟩
        go_wp2_with fail
        refine hK.out _ _ E7.out (fun hHeld => ?_)
        clear hK K
        obtain ⟨ev2, hev2⟩ : ∃ ev : Nat, 1 + y0 % 16 = ev := ⟨_, rfl⟩
        have hev3 : 1 ≤ ev2 := by omega
        have hev4 : ev2 ≤ 16 := by omega
        have hev5 : (1 : Int) + (y0 : Int) % 16 = (ev2 : Int) := by omega
        have HE := Lib.hid (show IntKind.i64.wrap (1 + (y0 : Int).tmod 16) = (ev2 : Int) by rw [Int.tmod_eq_emod_of_nonneg (by omega), hev5]; exact IntWalk.i64_in _ (by omega))
        clear hev2 hev5
        refine takeS_at (i := 4) (d := some 54) (v := ?_) rfl rfl (by kernel_rfl) (by kernel_rfl) (by kernel_rfl) (fun _ _ _ h => h) (by rfl) ?hy hHeld ?_
        case hy => (intro w' hS; clear hS; go_simp <;> with_reducible rfl)
        simp only [Act.put, List.setIfInBounds_toArray, List.set_cons_zero, List.set_cons_succ]
        refine takeS_at (i := 5) (d := some 55) (v := ?_) rfl rfl (by kernel_rfl) (by kernel_rfl) (by kernel_rfl) (fun _ _ _ h => h) (by rfl) ?hy hHeld ?_
        case hy => (intro w' hS; clear hS; go_simp <;> with_reducible rfl)
        simp only [Act.put, List.setIfInBounds_toArray, List.set_cons_zero, List.set_cons_succ]
        refine wpAnyH_ready (rs := [1]) (by kernel_rfl) (by simp) ?_
        refine AllReadyH.cons rfl (fun K hK => ?_) AllReadyH.nil
        go_simp
        have hb8 := one_below w7 (.cells #[.string R, .string C, .int .i64 t, .bool true, .string V] 38)
        have D8 := Lib.hid (block_of w7 R C t true V)
        obtain ⟨w8, hw8⟩ : ∃ W, w7.alloc (.cells #[.string R, .string C, .int .i64 t, .bool true, .string V] 38) = W := ⟨_, rfl⟩
        rw [hw8] at hb8 D8 ⊢
        clear hw8
        have E8 := Lib.hid (show One5 D (.string R) (.string C) (.int .i64 t) (.bool true) (.string V) w8 ∧ CelRow w8 ad 1 cap [⟨R, C, t, true, V⟩] from ⟨E7.out.1.below hb8, E7.out.2.below hb8⟩)
        have Q8 := Lib.hid (Q7.out.trans (hb8.mono Q7.out.size))
        clear hb8
        obtain ⟨N8, hN8⟩ : ∃ A, w7.heap.size = A := ⟨_, rfl⟩
        rw [hN8] at D8 ⊢
        clear hN8
        refine hK.out _ _ E8.out (fun hHeld => ?_)
        clear hK K
        refine wpAnyH_ready (rs := [6]) (by kernel_rfl) (by simp) ?_
        refine AllReadyH.cons rfl (fun K hK => ?_) AllReadyH.nil
        go_simp
        rw [HE.out]
        refine (implPutBlock _ 1 1 [⟨R, C, t, true, V⟩] ev2 (by omega) HF.out _ (D8.out.row rfl)).mono ?_
        rintro e w10 ⟨rfl, hb10⟩
        rw [HPB.out ev2 hev3 hev4, as_text rfl]
        have E10 := Lib.hid (show One5 D (.string R) (.string C) (.int .i64 t) (.bool true) (.string V) w10 ∧ CelRow w10 ad 1 cap [⟨R, C, t, true, V⟩] from ⟨E8.out.1.below hb10, E8.out.2.below hb10⟩)
        have Q10 := Lib.hid (Q8.out.trans (hb10.mono Q8.out.size))
        clear hb10
        go_wp2_with fail
        refine hK.out _ _ E10.out (fun hHeld => ?_)
        clear hK K
        refine takeS_at (i := 8) (d := some 58) (v := ?_) rfl rfl (by kernel_rfl) (by kernel_rfl) (by kernel_rfl) (fun _ _ _ h => h) (by rfl) ?hy hHeld ?_
        case hy => (intro w' hS; clear hS; go_simp <;> with_reducible rfl)
        simp only [Act.put, List.setIfInBounds_toArray, List.set_cons_zero, List.set_cons_succ]
        refine takeS_at (i := 9) (d := some 59) (v := ?_) rfl rfl (by kernel_rfl) (by kernel_rfl) (by kernel_rfl) (fun _ _ _ h => h) (by rfl) ?hy hHeld ?_
        case hy => (intro w' hS; clear hS; go_simp <;> with_reducible rfl)
        simp only [Act.put, List.setIfInBounds_toArray, List.set_cons_zero, List.set_cons_succ]
        refine takeS_at (i := 10) (d := some 60) (v := ?_) rfl rfl (by kernel_rfl) (by kernel_rfl) (by kernel_rfl) (fun _ _ _ h => h) (by rfl) ?hy hHeld ?_
        case hy => (intro w' hS; clear hS; go_simp <;> with_reducible rfl)
        simp only [Act.put, List.setIfInBounds_toArray, List.set_cons_zero, List.set_cons_succ]
        refine takeS_at (i := 11) (d := some 61) (v := ?_) rfl rfl (by kernel_rfl) (by kernel_rfl) (by kernel_rfl) (fun _ _ _ h => h) (by rfl) ?hy hHeld ?_
        case hy => (intro w' hS; clear hS; go_simp <;> with_reducible rfl)
        simp only [Act.put, List.setIfInBounds_toArray, List.set_cons_zero, List.set_cons_succ]
        refine takeS_at (i := 12) (d := some 62) (v := ?_) rfl rfl (by kernel_rfl) (by kernel_rfl) (by kernel_rfl) (fun _ _ _ h => h) (by rfl) ?hy hHeld ?_
        case hy => (intro w' hS; clear hS; go_simp <;> with_reducible rfl)
        simp only [Act.put, List.setIfInBounds_toArray, List.set_cons_zero, List.set_cons_succ]
        refine takeS_at (i := 13) (d := some 63) (v := ?_) rfl rfl (by kernel_rfl) (by kernel_rfl) (by kernel_rfl) (fun _ _ _ h => h) (by rfl) ?hy hHeld ?_
        case hy => (intro w' hS; clear hS; go_simp <;> with_reducible rfl)
        simp only [Act.put, List.setIfInBounds_toArray, List.set_cons_zero, List.set_cons_succ]
        refine takeS_at (i := 14) (d := some 64) (v := ?_) rfl rfl (by kernel_rfl) (by kernel_rfl) (by kernel_rfl) (fun _ _ _ h => h) (by rfl) ?hy hHeld ?_
        case hy => (intro w' hS; obtain ⟨hS, hS2⟩ := hS; clear hS2; unfold One5 at hS; obtain ⟨s0, s1, s2, s3, s4⟩ := hS; go_simp <;> with_reducible rfl)
        simp only [Act.put, List.setIfInBounds_toArray, List.set_cons_zero, List.set_cons_succ]
        refine wpAnyH_ready (rs := [15]) (by kernel_rfl) (by simp) ?_
        refine AllReadyH.cons rfl (fun K hK => ?_) AllReadyH.nil
        go_simp
        have hb11 := one_below w10 (.cells #[.string R, .string C, .int .i64 t, .bool true, .string V] 38)
        have D11 := Lib.hid (block_of w10 R C t true V)
        obtain ⟨w11, hw11⟩ : ∃ W, w10.alloc (.cells #[.string R, .string C, .int .i64 t, .bool true, .string V] 38) = W := ⟨_, rfl⟩
        rw [hw11] at hb11 D11 ⊢
        clear hw11
        have E11 := Lib.hid (show One5 D (.string R) (.string C) (.int .i64 t) (.bool true) (.string V) w11 ∧ CelRow w11 ad 1 cap [⟨R, C, t, true, V⟩] from ⟨E10.out.1.below hb11, E10.out.2.below hb11⟩)
        have Q11 := Lib.hid (Q10.out.trans (hb11.mono Q10.out.size))
        clear hb11
        obtain ⟨N11, hN11⟩ : ∃ A, w10.heap.size = A := ⟨_, rfl⟩
        rw [hN11] at D11 ⊢
        clear hN11
        refine hK.out _ _ E11.out (fun hHeld => ?_)
        clear hK K
        refine wpAnyH_ready (rs := [16]) (by kernel_rfl) (by simp) ?_
        refine AllReadyH.cons rfl (fun K hK => ?_) AllReadyH.nil
        go_simp
        refine (sameCells_same _ _ 1 cap 1 [⟨R, C, t, true, V⟩] (by omega) _ E11.out.2 (D11.out.row rfl)).mono ?_
        rintro e w12 ⟨rfl, hb12⟩
        have E12 := Lib.hid (show One5 D (.string R) (.string C) (.int .i64 t) (.bool true) (.string V) w12 ∧ CelRow w12 ad 1 cap [⟨R, C, t, true, V⟩] from ⟨E11.out.1.below hb12, E11.out.2.below hb12⟩)
        have Q12 := Lib.hid (Q11.out.trans (hb12.mono Q11.out.size))
        clear hb12
        go_wp2_with fail
        refine hK.out _ _ E12.out (fun hHeld => ?_)
        clear hK K
        refine takeS_at (i := 17) (d := some 67) (v := ?_) rfl rfl (by kernel_rfl) (by kernel_rfl) (by kernel_rfl) (fun _ _ _ h => h) (by rfl) ?hy hHeld ?_
        case hy => (intro w' hS; clear hS; go_simp <;> with_reducible rfl)
        simp only [Act.put, List.setIfInBounds_toArray, List.set_cons_zero, List.set_cons_succ]
        refine takeS_at (i := 18) (d := some 68) (v := ?_) rfl rfl (by kernel_rfl) (by kernel_rfl) (by kernel_rfl) (fun _ _ _ h => h) (by rfl) ?hy hHeld ?_
        case hy => (intro w' hS; clear hS; go_simp <;> with_reducible rfl)
        simp only [Act.put, List.setIfInBounds_toArray, List.set_cons_zero, List.set_cons_succ]
        refine wpAnyH_ready (rs := [19]) (by kernel_rfl) (by simp) ?_
        refine AllReadyH.cons rfl (fun K hK => ?_) AllReadyH.nil
        go_simp
        refine (implPutBlock none 0 0 [] 1 (by omega) (fun y hy => by simp at hy) _ ⟨rfl, Nat.le_refl _, fun k y hk => by simp at hk⟩).mono ?_
        rw [show putBlock [] (1 : Int) = [0, 0] from (putBlock_yes (xs := []) (e := 1) (by simp) cells_nil (by omega) (by omega)).trans (block_nil 1)]
        rintro e w13 ⟨rfl, hb13⟩
        have E13 := Lib.hid (show One5 D (.string R) (.string C) (.int .i64 t) (.bool true) (.string V) w13 ∧ CelRow w13 ad 1 cap [⟨R, C, t, true, V⟩] from ⟨E12.out.1.below hb13, E12.out.2.below hb13⟩)
        have Q13 := Lib.hid (Q12.out.trans (hb13.mono Q12.out.size))
        clear hb13
        go_wp2_with fail
        refine hK.out _ _ E13.out (fun hHeld => ?_)
        clear hK K
        refine takeS_at (i := 20) (d := some 70) (v := ?_) rfl rfl (by kernel_rfl) (by kernel_rfl) (by kernel_rfl) (fun _ _ _ h => h) (by rfl) ?hy hHeld ?_
        case hy => (intro w' hS; clear hS; go_simp <;> with_reducible rfl)
        simp only [Act.put, List.setIfInBounds_toArray, List.set_cons_zero, List.set_cons_succ]
        refine takeS_at (i := 21) (d := some 71) (v := ?_) rfl rfl (by kernel_rfl) (by kernel_rfl) (by kernel_rfl) (fun _ _ _ h => h) (by rfl) ?hy hHeld ?_
        case hy => (intro w' hS; clear hS; go_simp <;> with_reducible rfl)
        simp only [Act.put, List.setIfInBounds_toArray, List.set_cons_zero, List.set_cons_succ]
        refine takeS_at (i := 22) (d := some 2) (v := ?_) rfl rfl (by kernel_rfl) (by kernel_rfl) (by kernel_rfl) (fun _ _ _ h => h) (by rfl) ?hy hHeld ?_
        case hy => (intro w' hS; clear hS; go_simp <;> with_reducible rfl)
        simp only [Act.put, List.setIfInBounds_toArray, List.set_cons_zero, List.set_cons_succ]
        refine wpAnyH_done (by kernel_rfl) ?_ _
        go_wp2
        go_ret
        exact ⟨ret_bool (by simp), Q13.out⟩
  · go_enter Try.func7, Try.ntmps7
    go_wp2_with fail
    refine (big_yes a0 len0 cap0 _ hbig).mono ?_
    rintro e w1 ⟨rfl, rfl⟩
    go_wp2
    go_ret
    exact ⟨rfl, Below.refl _ _⟩
end Go.Proofs.Ytgonnibakkabjaa
