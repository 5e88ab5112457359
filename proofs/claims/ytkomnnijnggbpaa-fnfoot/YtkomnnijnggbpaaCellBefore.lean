/- Contracts of CellBefore: the program's and the model's. -/
import Derived.Test.YtkomnnijnggbpaaZ0
import Derived.BigQuiet
import Derived.Deep.RegionHeld3
namespace Go.Proofs.Ytkomnnijnggbpaa
open Go.RowKit
set_option linter.unusedVariables false

theorem list_same (s t : ByteArray) (h : s.data.toList = t.data.toList) : (s.toList == t.toList) = true := by rw [ByteArray.toList_eq, ByteArray.toList_eq, h]; simp
theorem list_other (s t : ByteArray) (h : s.data.toList ≠ t.data.toList) : (s.toList == t.toList) = false := by rw [ByteArray.toList_eq, ByteArray.toList_eq]; simpa using h

set_option maxHeartbeats 2000000 in
theorem specCellBefore (R C : ByteArray) (T : Int) (G : Bool) (V R' C' : ByteArray) (T' : Int) (G' : Bool) (V' : ByteArray) (hR : R.size ≤ maxLen) (hC : C.size ≤ maxLen) (hR' : R'.size ≤ maxLen) (hC' : C'.size ≤ maxLen) (w : World) :
   Calls Try.prog 47 #[.agg #[.string R, .string C, .int .i64 T, .bool G, .string V], .agg #[.string R', .string C', .int .i64 T', .bool G', .string V']] w fun e w' => e = .returned (.bool (celBefore ⟨R, C, T, G, V⟩ ⟨R', C', T', G', V'⟩)) ∧ Below w.heap.size w w' := by
 unfold celBefore
 by_cases h1 : R.data.toList = R'.data.toList
 · have e1 := list_same R R' h1
   rw [if_pos h1]
   clear h1
   by_cases h2 : C.data.toList = C'.data.toList
   · have e2 := list_same C C' h2
     rw [if_pos h2]
     clear h2
     go_enter Try.func47, Try.ntmps47
     go_wp2_with fail
     go_ret
     exact ⟨ret_bool rfl, two_below0 _ _ _⟩
   · have e2 := list_other C C' h2
     rw [if_neg h2]
     clear h2
     go_enter Try.func47, Try.ntmps47
     go_wp2_with fail
     refine (specBefore C C' _ hC hC').mono ?_
     rintro e w1 ⟨rfl, n1, rfl⟩
     go_wp2_with fail
     go_ret
     exact ⟨ret_bool rfl, two_below _ _ _ _⟩
 · have e1 := list_other R R' h1
   rw [if_neg h1]
   clear h1
   go_enter Try.func47, Try.ntmps47
   go_wp2_with fail
   refine (specBefore R R' _ hR hR').mono ?_
   rintro e w1 ⟨rfl, n1, rfl⟩
   go_wp2_with fail
   go_ret
   exact ⟨ret_bool rfl, two_below _ _ _ _⟩

set_option maxHeartbeats 2000000 in
set_option maxRecDepth 100000 in
theorem columnOf_at (R C : ByteArray) (T : Int) (G : Bool) (V : ByteArray) (w : World) :
   Calls Try.prog 73 #[.agg #[.string R, .string C, .int .i64 T, .bool G, .string V]] w fun e w' => e = .returned (.agg #[.string R, .string C, .int .i64 0, .bool false, .string ⟨#[]⟩]) ∧ Below w.heap.size w w' := by
 go_enter Try.func73, Try.ntmps73
 go_wp2_with fail
 refine bodyPost_ret (v := .agg #[.string R, .string C, .int .i64 0, .bool false, .string ⟨#[]⟩]) (results_cell_row Try.results73 _ _ (w.heap.size + 1) _ #[.string R, .string C, .int .i64 0, .bool false, .string ⟨#[]⟩] _ _ rfl (alloc_at2 _ _ _) Try.underlying36 rfl (by rw [sizeCel]; rfl)) rfl ⟨rfl, two_below0 _ _ _⟩

set_option maxHeartbeats 2000000 in
set_option maxRecDepth 100000 in
theorem implCellBefore (R C : ByteArray) (T : Int) (G : Bool) (V R' C' : ByteArray) (T' : Int) (G' : Bool) (V' : ByteArray) (w : World) :
   Calls Try.prog 50 #[.agg #[.string R, .string C, .int .i64 T, .bool G, .string V], .agg #[.string R', .string C', .int .i64 T', .bool G', .string V']] w fun e w' => e = .returned (.bool (celBefore ⟨R, C, T, G, V⟩ ⟨R', C', T', G', V'⟩)) ∧ Below w.heap.size w w' := by
 have E0 := Lib.hid (two5_new w (.string R) (.string C) (.int .i64 T) (.bool G) (.string V) (.string R') (.string C') (.int .i64 T') (.bool G') (.string V') 36 36)
 have HB := Lib.hid (two_below0 w (.cells #[.string R, .string C, .int .i64 T, .bool G, .string V] 36) (.cells #[.string R', .string C', .int .i64 T', .bool G', .string V'] 36))
 unfold celBefore
 by_cases h1 : R.data.toList = R'.data.toList
 · have e1 := list_same R R' h1
   rw [if_pos h1]
   clear h1
   by_cases h2 : C.data.toList = C'.data.toList
   · have e2 := list_same C C' h2
     rw [if_pos h2]
     clear h2
     go_enter Try.func50, Try.ntmps50
     go_wp2_with fail
     obtain ⟨W, hW⟩ : ∃ W, (w.alloc (.cells #[.string R, .string C, .int .i64 T, .bool G, .string V] 36)).alloc (.cells #[.string R', .string C', .int .i64 T', .bool G', .string V'] 36) = W := ⟨_, rfl⟩
     rw [hW] at E0 HB ⊢
     clear hW
     obtain ⟨A, hA⟩ : ∃ A, w.heap.size = A := ⟨_, rfl⟩
     rw [hA] at E0 HB ⊢
     have HA := Lib.hid hA
     clear hA
     obtain ⟨B, hB⟩ : ∃ B, A + 1 = B := ⟨_, rfl⟩
     rw [hB] at E0 ⊢
     clear hB
     go_region_held3 (fun w' => w'.cell? ⟨A, 0, none⟩ = some (.string R) ∧ w'.cell? ⟨A, 1, none⟩ = some (.string C) ∧ w'.cell? ⟨A, 2, none⟩ = some (.int .i64 T) ∧ w'.cell? ⟨A, 3, none⟩ = some (.bool G) ∧ w'.cell? ⟨A, 4, none⟩ = some (.string V) ∧ w'.cell? ⟨B, 0, none⟩ = some (.string R') ∧ w'.cell? ⟨B, 1, none⟩ = some (.string C') ∧ w'.cell? ⟨B, 2, none⟩ = some (.int .i64 T') ∧ w'.cell? ⟨B, 3, none⟩ = some (.bool G') ∧ w'.cell? ⟨B, 4, none⟩ = some (.string V'))
       (first | exact E0.out | exact E1.out | exact E2.out)
       (first | (go_at_call 73; refine (columnOf_at R C T G V _).mono ?_; rintro e w1 ⟨rfl, hb1⟩; have E1 := Lib.hid (Two5.below (w := W.drew) E0.out hb1); have B1 := Lib.hid (HB.out.drew.trans (hb1.mono (by have := HB.out.size; have := HA.out; simp; omega))); clear hb1) | (go_at_call 73; refine (columnOf_at R' C' T' G' V' _).mono ?_; rintro e w2 ⟨rfl, hb2⟩; have E2 := Lib.hid (E1.out.below hb2); have B2 := Lib.hid (B1.out.trans (hb2.mono (by have := B1.out.size; have := HA.out; omega))); clear hb2))
     have E2o := E2.out
     unfold Two5 at E2o
     obtain ⟨f0, f1, f2, f3, f4, g0, g1, g2, g3, g4⟩ := E2o
     go_wp2_with fail
     go_ret
     exact ⟨ret_bool rfl, by rw [HA.out]; exact B2.out⟩
   · have e2 := list_other C C' h2
     rw [if_neg h2]
     clear h2
     go_enter Try.func50, Try.ntmps50
     go_wp2_with fail
     obtain ⟨W, hW⟩ : ∃ W, (w.alloc (.cells #[.string R, .string C, .int .i64 T, .bool G, .string V] 36)).alloc (.cells #[.string R', .string C', .int .i64 T', .bool G', .string V'] 36) = W := ⟨_, rfl⟩
     rw [hW] at E0 HB ⊢
     clear hW
     obtain ⟨A, hA⟩ : ∃ A, w.heap.size = A := ⟨_, rfl⟩
     rw [hA] at E0 HB ⊢
     have HA := Lib.hid hA
     clear hA
     obtain ⟨B, hB⟩ : ∃ B, A + 1 = B := ⟨_, rfl⟩
     rw [hB] at E0 ⊢
     clear hB
     go_region_held3 (fun w' => w'.cell? ⟨A, 0, none⟩ = some (.string R) ∧ w'.cell? ⟨A, 1, none⟩ = some (.string C) ∧ w'.cell? ⟨A, 2, none⟩ = some (.int .i64 T) ∧ w'.cell? ⟨A, 3, none⟩ = some (.bool G) ∧ w'.cell? ⟨A, 4, none⟩ = some (.string V) ∧ w'.cell? ⟨B, 0, none⟩ = some (.string R') ∧ w'.cell? ⟨B, 1, none⟩ = some (.string C') ∧ w'.cell? ⟨B, 2, none⟩ = some (.int .i64 T') ∧ w'.cell? ⟨B, 3, none⟩ = some (.bool G') ∧ w'.cell? ⟨B, 4, none⟩ = some (.string V'))
       (first | exact E0.out | exact E1.out | exact E2.out)
       (first | (go_at_call 73; refine (columnOf_at R C T G V _).mono ?_; rintro e w1 ⟨rfl, hb1⟩; have E1 := Lib.hid (Two5.below (w := W.drew) E0.out hb1); have B1 := Lib.hid (HB.out.drew.trans (hb1.mono (by have := HB.out.size; have := HA.out; simp; omega))); clear hb1) | (go_at_call 73; refine (columnOf_at R' C' T' G' V' _).mono ?_; rintro e w2 ⟨rfl, hb2⟩; have E2 := Lib.hid (E1.out.below hb2); have B2 := Lib.hid (B1.out.trans (hb2.mono (by have := B1.out.size; have := HA.out; omega))); clear hb2))
     have E2o := E2.out
     unfold Two5 at E2o
     obtain ⟨f0, f1, f2, f3, f4, g0, g1, g2, g3, g4⟩ := E2o
     go_wp2_with fail
     refine (implBefore C C' _).mono ?_
     rintro e w3 ⟨rfl, n3, rfl⟩
     go_wp2_with fail
     go_ret
     exact ⟨ret_bool rfl, by rw [HA.out]; exact B2.out.trans (below_draws _)⟩
 · have e1 := list_other R R' h1
   rw [if_neg h1]
   clear h1
   · skip
     go_enter Try.func50, Try.ntmps50
     go_wp2_with fail
     obtain ⟨W, hW⟩ : ∃ W, (w.alloc (.cells #[.string R, .string C, .int .i64 T, .bool G, .string V] 36)).alloc (.cells #[.string R', .string C', .int .i64 T', .bool G', .string V'] 36) = W := ⟨_, rfl⟩
     rw [hW] at E0 HB ⊢
     clear hW
     obtain ⟨A, hA⟩ : ∃ A, w.heap.size = A := ⟨_, rfl⟩
     rw [hA] at E0 HB ⊢
     have HA := Lib.hid hA
     clear hA
     obtain ⟨B, hB⟩ : ∃ B, A + 1 = B := ⟨_, rfl⟩
     rw [hB] at E0 ⊢
     clear hB
     go_region_held3 (fun w' => w'.cell? ⟨A, 0, none⟩ = some (.string R) ∧ w'.cell? ⟨A, 1, none⟩ = some (.string C) ∧ w'.cell? ⟨A, 2, none⟩ = some (.int .i64 T) ∧ w'.cell? ⟨A, 3, none⟩ = some (.bool G) ∧ w'.cell? ⟨A, 4, none⟩ = some (.string V) ∧ w'.cell? ⟨B, 0, none⟩ = some (.string R') ∧ w'.cell? ⟨B, 1, none⟩ = some (.string C') ∧ w'.cell? ⟨B, 2, none⟩ = some (.int .i64 T') ∧ w'.cell? ⟨B, 3, none⟩ = some (.bool G') ∧ w'.cell? ⟨B, 4, none⟩ = some (.string V'))
       (first | exact E0.out | exact E1.out | exact E2.out)
       (first | (go_at_call 73; refine (columnOf_at R C T G V _).mono ?_; rintro e w1 ⟨rfl, hb1⟩; have E1 := Lib.hid (Two5.below (w := W.drew) E0.out hb1); have B1 := Lib.hid (HB.out.drew.trans (hb1.mono (by have := HB.out.size; have := HA.out; simp; omega))); clear hb1) | (go_at_call 73; refine (columnOf_at R' C' T' G' V' _).mono ?_; rintro e w2 ⟨rfl, hb2⟩; have E2 := Lib.hid (E1.out.below hb2); have B2 := Lib.hid (B1.out.trans (hb2.mono (by have := B1.out.size; have := HA.out; omega))); clear hb2))
     have E2o := E2.out
     unfold Two5 at E2o
     obtain ⟨f0, f1, f2, f3, f4, g0, g1, g2, g3, g4⟩ := E2o
     go_wp2_with fail
     refine (implBefore R R' _).mono ?_
     rintro e w3 ⟨rfl, n3, rfl⟩
     go_wp2_with fail
     go_ret
     exact ⟨ret_bool rfl, by rw [HA.out]; exact B2.out.trans (below_draws _)⟩
end Go.Proofs.Ytkomnnijnggbpaa
