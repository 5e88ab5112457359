/- The walks of the laws FnExactCellOk and FnExactCellBefore. -/
import Derived.Test.YtejoiaijlaaekaaCellOkS
import Derived.Test.YtejoiaijlaaekaaCellBefore
import Derived.Test.YtejoiaijlaaekaaCellHelp
import Derived.Test.YtejoiaijlaaekaaOne5
import Derived.BigQuiet
import Derived.Deep.RegionHeld3
namespace Go.Proofs.Ytejoiaijlaaekaa
open Go.RowKit
set_option linter.unusedVariables false

theorem bool_self (b : Bool) : (b != b) = false := by simp

set_option maxHeartbeats 1000000 in
set_option maxRecDepth 100000 in
theorem fnExactCellOk_walk (R C : ByteArray) (T : Int) (G : Bool) (V : ByteArray) (hR : R.size ≤ maxLen) (hC : C.size ≤ maxLen) (hV : V.size ≤ maxLen) (w : World) :
    Calls Try.prog 7 #[.agg #[.string R, .string C, .int .i64 T, .bool G, .string V]] w fun e w' => e = .returned (.bool true) ∧ Below w.heap.size w w' := by
  have E0 := Lib.hid (one5_new w (.string R) (.string C) (.int .i64 T) (.bool G) (.string V) 45)
  have B0 := Lib.hid (one_below w (.cells #[.string R, .string C, .int .i64 T, .bool G, .string V] 45))
  by_cases hsz : (R.size : Int) + C.size + V.size ≤ 1048576
  · have HS := Lib.hid (szLeft_yes hsz)
    have hpos : ¬ ((1048576 : Int) - R.size - C.size - V.size < 0) := by omega
    obtain ⟨b, hb⟩ : ∃ b, cellOk ⟨R, C, T, G, V⟩ = b := ⟨_, rfl⟩
    have HB := Lib.hid hb
    have hbb := bool_self b
    clear hb
    go_enter Try.func7, Try.ntmps7
    go_wp2_with fail
    refine (szCell_at R C T G V _ (by omega) (by omega) hR hC hV _).mono ?_
    rw [HS.out]
    rintro e w1 ⟨rfl, hb1⟩
    have E1 := Lib.hid (E0.out.below hb1)
    have B1 := Lib.hid (B0.out.trans (hb1.mono B0.out.size))
    clear hb1
    have E1o := E1.out
    unfold One5 at E1o
    obtain ⟨f0, f1, f2, f3, f4⟩ := E1o
    go_wp2_with fail
    refine (toCell_at R C T G V _).mono ?_
    rintro e w2 ⟨rfl, hb2⟩
    have E2 := Lib.hid (E1.out.below hb2)
    have B2 := Lib.hid (B1.out.trans (hb2.mono B1.out.size))
    clear hb2 f0 f1 f2 f3 f4
    go_wp2_with fail
    refine (specCellOk R C T G V hR hC _).mono ?_
    rw [HB.out]
    rintro e w3 ⟨rfl, hb3⟩
    have E3 := Lib.hid (E2.out.below hb3)
    have B3 := Lib.hid (B2.out.trans (hb3.mono B2.out.size))
    clear hb3
    have E3o := E3.out
    unfold One5 at E3o
    obtain ⟨f0, f1, f2, f3, f4⟩ := E3o
    go_wp2_with fail
    refine (toCell_at R C T G V _).mono ?_
    rintro e w4 ⟨rfl, hb4⟩
    have B4 := Lib.hid (B3.out.trans (hb4.mono B3.out.size))
    clear hb4 f0 f1 f2 f3 f4
    go_wp2_with fail
    refine (implCellOk R C T G V hR hC _).mono ?_
    rw [HB.out]
    rintro e w5 ⟨rfl, hb5⟩
    have B5 := Lib.hid (B4.out.trans (hb5.mono B4.out.size))
    clear hb5
    go_wp2
    go_ret
    exact ⟨rfl, B5.out⟩
  · have HS := Lib.hid (szLeft_no (L := 1048576) (R := R) (C := C) (V := V) (by omega))
    go_enter Try.func7, Try.ntmps7
    go_wp2_with fail
    refine (szCell_at R C T G V _ (by omega) (by omega) hR hC hV _).mono ?_
    rw [HS.out]
    rintro e w1 ⟨rfl, hb1⟩
    have B1 := Lib.hid (B0.out.trans (hb1.mono B0.out.size))
    clear hb1
    go_wp2
    go_ret
    exact ⟨rfl, B1.out⟩

set_option maxHeartbeats 4000000 in
set_option maxRecDepth 100000 in
theorem fnExactCellBefore_walk (R C : ByteArray) (T : Int) (G : Bool) (V : ByteArray) (hR : R.size ≤ maxLen) (hC : C.size ≤ maxLen) (hV : V.size ≤ maxLen) (R' C' : ByteArray) (T' : Int) (G' : Bool) (V' : ByteArray) (hR' : R'.size ≤ maxLen) (hC' : C'.size ≤ maxLen) (hV' : V'.size ≤ maxLen) (w : World) :
    Calls Try.prog 10 #[.agg #[.string R, .string C, .int .i64 T, .bool G, .string V], .agg #[.string R', .string C', .int .i64 T', .bool G', .string V']] w fun e w' => e = .returned (.bool true) ∧ Below w.heap.size w w' := by
  have E0 := Lib.hid (two5_new w (.string R) (.string C) (.int .i64 T) (.bool G) (.string V) (.string R') (.string C') (.int .i64 T') (.bool G') (.string V') 45 45)
  have B0 := Lib.hid (two_below0 w (.cells #[.string R, .string C, .int .i64 T, .bool G, .string V] 45) (.cells #[.string R', .string C', .int .i64 T', .bool G', .string V'] 45))
  by_cases hsz : (R.size : Int) + C.size + V.size ≤ 1048576
  · have HS := Lib.hid (szLeft_yes hsz)
    have hpos : ¬ ((1048576 : Int) - R.size - C.size - V.size < 0) := by omega
    obtain ⟨L, hL⟩ : ∃ L : Int, (1048576 : Int) - R.size - C.size - V.size = L := ⟨_, rfl⟩
    rw [hL] at HS hpos
    have hL0 : 0 ≤ L := by omega
    have hL1 : L ≤ 1048576 := by omega
    clear hL
    by_cases hsz2 : (R'.size : Int) + C'.size + V'.size ≤ L
    · skip
      have HS2 := Lib.hid (szLeft_yes hsz2)
      have hpos2 : ¬ (L - R'.size - C'.size - V'.size < 0) := by omega
      obtain ⟨b, hb⟩ : ∃ b, celBefore ⟨R, C, T, G, V⟩ ⟨R', C', T', G', V'⟩ = b := ⟨_, rfl⟩
      have HB := Lib.hid hb
      have hbb := bool_self b
      clear hb
      go_enter Try.func10, Try.ntmps10
      go_wp2_with fail
      obtain ⟨w0, hW⟩ : ∃ W, (w.alloc (.cells #[.string R, .string C, .int .i64 T, .bool G, .string V] 45)).alloc (.cells #[.string R', .string C', .int .i64 T', .bool G', .string V'] 45) = W := ⟨_, rfl⟩
      rw [hW] at E0 B0 ⊢
      clear hW
      obtain ⟨A, hA⟩ : ∃ A, w.heap.size = A := ⟨_, rfl⟩
      rw [hA] at E0 B0 ⊢
      have HA := Lib.hid hA
      clear hA
      obtain ⟨B, hB⟩ : ∃ B, A + 1 = B := ⟨_, rfl⟩
      rw [hB] at E0 ⊢
      clear hB
      refine (szCell_at R C T G V _ (by omega) (by omega) hR hC hV _).mono ?_
      rw [HS.out]
      rintro e w1 ⟨rfl, hb1⟩
      have E1 := Lib.hid (E0.out.below hb1)
      have B1 := Lib.hid (B0.out.trans (hb1.mono (by have := B0.out.size; have := HA.out; omega)))
      clear hb1
      have E1o := E1.out
      unfold Two5 at E1o
      obtain ⟨f0, f1, f2, f3, f4, g0, g1, g2, g3, g4⟩ := E1o
      go_wp2_with fail
      refine (szCell_at R' C' T' G' V' _ (by omega) (by omega) hR' hC' hV' _).mono ?_
      rw [HS2.out]
      rintro e w2 ⟨rfl, hb2⟩
      have E2 := Lib.hid (E1.out.below hb2)
      have B2 := Lib.hid (B1.out.trans (hb2.mono (by have := B1.out.size; have := HA.out; omega)))
      clear hb2 f0 f1 f2 f3 f4 g0 g1 g2 g3 g4
      go_wp2_with fail
      go_region_held3 (fun w' => w'.cell? ⟨A, 0, none⟩ = some (.string R) ∧ w'.cell? ⟨A, 1, none⟩ = some (.string C) ∧ w'.cell? ⟨A, 2, none⟩ = some (.int .i64 T) ∧ w'.cell? ⟨A, 3, none⟩ = some (.bool G) ∧ w'.cell? ⟨A, 4, none⟩ = some (.string V) ∧ w'.cell? ⟨B, 0, none⟩ = some (.string R') ∧ w'.cell? ⟨B, 1, none⟩ = some (.string C') ∧ w'.cell? ⟨B, 2, none⟩ = some (.int .i64 T') ∧ w'.cell? ⟨B, 3, none⟩ = some (.bool G') ∧ w'.cell? ⟨B, 4, none⟩ = some (.string V'))
        (first | exact E5.out | exact E4.out | exact E3.out | exact E2.out)
        (first | (go_at_call 35; have hgd := E3.out; clear hgd; refine (toCell_at R' C' T' G' V' _).mono ?_; rintro e w4 ⟨rfl, hb4⟩; have E4 := Lib.hid (E3.out.below hb4); have B4 := Lib.hid (B3.out.trans (hb4.mono (by have := B3.out.size; have := HA.out; omega))); clear hb4) | (go_at_call 35; refine (toCell_at R C T G V _).mono ?_; rintro e w3 ⟨rfl, hb3⟩; have E3 := Lib.hid (Two5.below (w := w2.drew) E2.out hb3); have B3 := Lib.hid (B2.out.drew.trans (hb3.mono (by have := B2.out.size; have := HA.out; simp; omega))); clear hb3) | (go_at_call 22; refine (specCellBefore R C T G V R' C' T' G' V' hR hC hR' hC' _).mono ?_; rw [HB.out]; rintro e w5 ⟨rfl, hb5⟩; have E5 := Lib.hid (E4.out.below hb5); have B5 := Lib.hid (B4.out.trans (hb5.mono (by have := B4.out.size; have := HA.out; omega))); clear hb5))
      go_wp2_with fail
      go_region_held3 (fun w' => w'.cell? ⟨A, 0, none⟩ = some (.string R) ∧ w'.cell? ⟨A, 1, none⟩ = some (.string C) ∧ w'.cell? ⟨A, 2, none⟩ = some (.int .i64 T) ∧ w'.cell? ⟨A, 3, none⟩ = some (.bool G) ∧ w'.cell? ⟨A, 4, none⟩ = some (.string V) ∧ w'.cell? ⟨B, 0, none⟩ = some (.string R') ∧ w'.cell? ⟨B, 1, none⟩ = some (.string C') ∧ w'.cell? ⟨B, 2, none⟩ = some (.int .i64 T') ∧ w'.cell? ⟨B, 3, none⟩ = some (.bool G') ∧ w'.cell? ⟨B, 4, none⟩ = some (.string V'))
        (first | exact E8.out | exact E7.out | exact E6.out | exact E5.out)
        (first | (go_at_call 35; have hgd := E6.out; clear hgd; refine (toCell_at R' C' T' G' V' _).mono ?_; rintro e w7 ⟨rfl, hb7⟩; have E7 := Lib.hid (E6.out.below hb7); have B7 := Lib.hid (B6.out.trans (hb7.mono (by have := B6.out.size; have := HA.out; omega))); clear hb7) | (go_at_call 35; refine (toCell_at R C T G V _).mono ?_; rintro e w6 ⟨rfl, hb6⟩; have E6 := Lib.hid (Two5.below (w := w5.drew) E5.out hb6); have B6 := Lib.hid (B5.out.drew.trans (hb6.mono (by have := B5.out.size; have := HA.out; simp; omega))); clear hb6) | (go_at_call 21; refine (implCellBefore R C T G V R' C' T' G' V' _).mono ?_; rw [HB.out]; rintro e w8 ⟨rfl, hb8⟩; have E8 := Lib.hid (E7.out.below hb8); have B8 := Lib.hid (B7.out.trans (hb8.mono (by have := B7.out.size; have := HA.out; omega))); clear hb8))
      go_wp2
      go_ret
      exact ⟨rfl, by rw [HA.out]; exact B8.out⟩
    · skip
      have HS2 := Lib.hid (szLeft_no (L := L) (R := R') (C := C') (V := V') (by omega))
      go_enter Try.func10, Try.ntmps10
      go_wp2_with fail
      obtain ⟨w0, hW⟩ : ∃ W, (w.alloc (.cells #[.string R, .string C, .int .i64 T, .bool G, .string V] 45)).alloc (.cells #[.string R', .string C', .int .i64 T', .bool G', .string V'] 45) = W := ⟨_, rfl⟩
      rw [hW] at E0 B0 ⊢
      clear hW
      obtain ⟨A, hA⟩ : ∃ A, w.heap.size = A := ⟨_, rfl⟩
      rw [hA] at E0 B0 ⊢
      have HA := Lib.hid hA
      clear hA
      obtain ⟨B, hB⟩ : ∃ B, A + 1 = B := ⟨_, rfl⟩
      rw [hB] at E0 ⊢
      clear hB
      refine (szCell_at R C T G V _ (by omega) (by omega) hR hC hV _).mono ?_
      rw [HS.out]
      rintro e w1 ⟨rfl, hb1⟩
      have E1 := Lib.hid (E0.out.below hb1)
      have B1 := Lib.hid (B0.out.trans (hb1.mono (by have := B0.out.size; have := HA.out; omega)))
      clear hb1
      have E1o := E1.out
      unfold Two5 at E1o
      obtain ⟨f0, f1, f2, f3, f4, g0, g1, g2, g3, g4⟩ := E1o
      go_wp2_with fail
      refine (szCell_at R' C' T' G' V' _ (by omega) (by omega) hR' hC' hV' _).mono ?_
      rw [HS2.out]
      rintro e w2 ⟨rfl, hb2⟩
      have E2 := Lib.hid (E1.out.below hb2)
      have B2 := Lib.hid (B1.out.trans (hb2.mono (by have := B1.out.size; have := HA.out; omega)))
      clear hb2 f0 f1 f2 f3 f4 g0 g1 g2 g3 g4
      go_wp2
      go_ret
      exact ⟨rfl, by rw [HA.out]; exact B2.out⟩
  · skip
    have HS := Lib.hid (szLeft_no (L := 1048576) (R := R) (C := C) (V := V) (by omega))
    go_enter Try.func10, Try.ntmps10
    go_wp2_with fail
    obtain ⟨w0, hW⟩ : ∃ W, (w.alloc (.cells #[.string R, .string C, .int .i64 T, .bool G, .string V] 45)).alloc (.cells #[.string R', .string C', .int .i64 T', .bool G', .string V'] 45) = W := ⟨_, rfl⟩
    rw [hW] at E0 B0 ⊢
    clear hW
    obtain ⟨A, hA⟩ : ∃ A, w.heap.size = A := ⟨_, rfl⟩
    rw [hA] at E0 B0 ⊢
    have HA := Lib.hid hA
    clear hA
    obtain ⟨B, hB⟩ : ∃ B, A + 1 = B := ⟨_, rfl⟩
    rw [hB] at E0 ⊢
    clear hB
    refine (szCell_at R C T G V _ (by omega) (by omega) hR hC hV _).mono ?_
    rw [HS.out]
    rintro e w1 ⟨rfl, hb1⟩
    have E1 := Lib.hid (E0.out.below hb1)
    have B1 := Lib.hid (B0.out.trans (hb1.mono (by have := B0.out.size; have := HA.out; omega)))
    clear hb1
    go_wp2
    go_ret
    exact ⟨rfl, by rw [HA.out]; exact B1.out⟩
end Go.Proofs.Ytejoiaijlaaekaa
