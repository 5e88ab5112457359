/- The model's names of cells, and whether a way is right. -/
import Derived.Test.YtkomnnijnggbpaaZ0
import Derived.Test.YtkomnnijnggbpaaZ4
namespace Go.Proofs.Ytkomnnijnggbpaa
open Go.RowKit
set_option linter.unusedVariables false

theorem Cel5O.below_to {w w' : World} {g m : Nat} {y : Cel} (h : Cel5O w g m y) (hb : Below w.heap.size w w') : Cel5O w' g m y := h.below hb
def nameOf (x : Cel) : ByteArray := (x.row ++ ⟨#[0]⟩) ++ x.col
theorem name_key (x : Cel) : (nameOf x).data.toList = nameKey x := by
 unfold nameOf nameKey
 simp only [ByteArray.data_append, Array.toList_append]
 simp
set_option maxHeartbeats 1000000 in
theorem specConfigOk (e s : Int) (p : Bool) (w : World) :
   Calls Try.prog 16 #[.agg #[.int .i64 e, .int .i64 s, .bool p]] w fun r w' => r = .returned (.bool (confOk ⟨e, s, p⟩)) ∧ Below w.heap.size w w' := by
 have B0 := Lib.hid ((Below.refl w.heap.size w).alloc (Nat.le_refl _) (.cells #[.int .i64 e, .int .i64 s, .bool p] 28))
 unfold confOk
 by_cases h1 : 1 ≤ e ∧ e ≤ 16
 · by_cases h2 : 1 ≤ s ∧ s ≤ 50
   · go_enter Try.func16, Try.ntmps16
     go_wp2_with fail
     refine (specIn_yes e 1 16 _ h1.1 h1.2).mono ?_
     rintro r w1 ⟨rfl, rfl⟩
     go_wp2_with fail
     refine (specIn_yes s 1 50 _ h2.1 h2.2).mono ?_
     rintro r w1 ⟨rfl, rfl⟩
     go_wp2
     go_ret
     exact ⟨ret_bool (by simp [h1.1, h1.2, h2.1, h2.2]), B0.out⟩
   · go_enter Try.func16, Try.ntmps16
     go_wp2_with fail
     refine (specIn_yes e 1 16 _ h1.1 h1.2).mono ?_
     rintro r w1 ⟨rfl, rfl⟩
     go_wp2_with fail
     refine (specIn_no s 1 50 _ (by omega)).mono ?_
     rintro r w1 ⟨rfl, rfl⟩
     go_wp2
     go_ret
     refine ⟨ret_bool ?_, B0.out⟩
     symm
     rcases (show s < 1 ∨ 50 < s by omega) with h | h
     · rw [show decide (1 ≤ s) = false from decide_eq_false (by omega)]; simp
     · rw [show decide (s ≤ 50) = false from decide_eq_false (by omega)]; simp
 · go_enter Try.func16, Try.ntmps16
   go_wp2_with fail
   refine (specIn_no e 1 16 _ (by omega)).mono ?_
   rintro r w1 ⟨rfl, rfl⟩
   go_wp2
   go_ret
   refine ⟨ret_bool ?_, B0.out⟩
   symm
   rcases (show e < 1 ∨ 16 < e by omega) with h | h
   · rw [show decide (1 ≤ e) = false from decide_eq_false (by omega)]; simp
   · rw [show decide (e ≤ 16) = false from decide_eq_false (by omega)]; simp

set_option maxHeartbeats 2000000 in
set_option maxRecDepth 100000 in
theorem specNames (a : Option Addr) (n c : Nat) (xs : List Cel) (hn : n ≤ 1000) (hs : ∀ x ∈ xs, x.row.size ≤ 1000000 ∧ x.col.size ≤ 1000000) (w : World) (h : CelRowO w a n c xs) :
   Calls Try.prog 35 #[.slice a n c] w fun e w' => ∃ v, e = .returned v ∧ OwnS w.heap.size w' v (xs.map nameOf) ∧ Below w.heap.size w w' := by
 have HR := Lib.hid h
 have HS := Lib.hid hs
 have hnc := h.2.1
 have O0 := Lib.hid (owns_made w)
 have B0 := Lib.hid ((Below.refl w.heap.size w).alloc (Nat.le_refl _) (.cells #[] 9))
 clear h hs
 go_enter Try.func35, Try.ntmps35
 go_wp2_with fail
 go_loopw [3, 4] (fun vv ii wr => ∃ i : Nat, i ≤ n ∧ ii = .int .i64 i ∧ Hid (OwnS w.heap.size wr vv ((xs.take i).map nameOf) ∧ Below w.heap.size w wr)) (fun _ ii _ => n - (intOf ii).toNat)
 case atStart => exact ⟨0, Nat.zero_le _, rfl, ⟨O0.out, B0.out⟩⟩
 case round =>
   obtain ⟨i, hi, rfl, HX⟩ := hrel
   obtain ⟨ad, cp, hv⟩ := HX.out.1.form
   have hlen : ((xs.take i).map nameOf).length = i := by rw [List.length_map, List.length_take, HR.out.1]; omega
   rw [hlen] at hv
   subst hv
   have HL := Lib.hid hlen
   clear hlen
   by_cases hlt : i < n
   · obtain ⟨⟨R, C, t, G, V⟩, hy⟩ : ∃ y, xs[i]? = some y := ⟨_, List.getElem?_eq_getElem (by rw [HR.out.1]; exact hlt)⟩
     obtain ⟨g, off, hag, k5⟩ := HR.out.2.2 i _ hy
     subst hag
     have hsz := HS.out _ (List.mem_of_getElem? hy)
     have hR : R.size ≤ 1000000 := hsz.1
     have hC : C.size ≤ 1000000 := hsz.2
     have CS := Lib.hid k5
     have K5 := Lib.hid (k5.below HX.out.2)
     have HT := Lib.hid (show (xs.take (i + 1)).map nameOf = (xs.take i).map nameOf ++ [(R ++ ⟨#[0]⟩) ++ C] by rw [take_next hy, List.map_append]; rfl)
     have i1 : (i : Int) < (n : Int) := by omega
     have i0 : (0 : Int) ≤ (i : Int) := by omega
     have q1 : ¬ 9223372036854775807 < R.size + 1 := by omega
     have q2 : ¬ 9223372036854775807 < R.size + 1 + C.size := by omega
     clear hy k5 hsz
     go_wp2_with fail
     refine wp_region_held_drew (S := fun w' => Cel5O w' g (off + i * 5) ⟨R, C, t, G, V⟩) (by kernel_rfl) K5.out (fun hHeld => ?_)
     refine tk 0 (some 12) ?_ ?hy hHeld ?_
     case hy => (intro w' hS; clear hS; go_simp <;> with_reducible rfl)
     simp only [Act.put, sA, sB, sC]
     refine tk 1 (some 13) ?_ ?hy hHeld ?_
     case hy => (intro w' hS; clear hS; go_simp <;> with_reducible rfl)
     simp only [Act.put, sA, sB, sC]
     refine tk 2 (some 14) ?_ ?hy hHeld ?_
     case hy => (intro w' hS; clear hS; go_simp <;> with_reducible rfl)
     simp only [Act.put, sA, sB, sC]
     refine tk 3 (some 15) ?_ ?hy hHeld ?_
     case hy => (intro w' hS; clear hS; go_simp <;> with_reducible rfl)
     simp only [Act.put, sA, sB, sC]
     refine tk 4 (some 16) ?_ ?hy hHeld ?_
     case hy => (intro w' hS; clear hS; go_simp <;> with_reducible rfl)
     simp only [Act.put, sA, sB, sC]
     refine tk 5 (some 17) ?_ ?hy hHeld ?_
     case hy => (intro w' hS; unfold Cel5O at hS; obtain ⟨s0, s1, s2, s3, s4⟩ := hS; go_simp <;> with_reducible rfl)
     simp only [Act.put, sA, sB, sC]
     refine tk 6 (some 18) ?_ ?hy hHeld ?_
     case hy => (intro w' hS; clear hS; go_simp <;> with_reducible rfl)
     simp only [Act.put, sA, sB, sC]
     refine tk 7 (some 19) ?_ ?hy hHeld ?_
     case hy => (intro w' hS; clear hS; go_simp <;> with_reducible rfl)
     simp only [Act.put, sA, sB, sC]
     refine tk 8 (some 20) ?_ ?hy hHeld ?_
     case hy => (intro w' hS; clear hS; go_simp <;> with_reducible rfl)
     simp only [Act.put, sA, sB, sC]
     refine tk 9 (some 21) ?_ ?hy hHeld ?_
     case hy => (intro w' hS; clear hS; go_simp <;> with_reducible rfl)
     simp only [Act.put, sA, sB, sC]
     refine tk 10 (some 22) ?_ ?hy hHeld ?_
     case hy => (intro w' hS; clear hS; go_simp <;> with_reducible rfl)
     simp only [Act.put, sA, sB, sC]
     refine tk 11 (some 23) ?_ ?hy hHeld ?_
     case hy => (intro w' hS; unfold Cel5O at hS; obtain ⟨s0, s1, s2, s3, s4⟩ := hS; go_simp <;> with_reducible rfl)
     simp only [Act.put, sA, sB, sC]
     refine tk 12 (some 24) ?_ ?hy hHeld ?_
     case hy => (intro w' hS; clear hS; go_simp <;> with_reducible rfl)
     simp only [Act.put, sA, sB, sC]
     refine wpAnyH_ready (rs := [13]) (by kernel_rfl) (by simp) ?_
     refine AllReadyH.cons rfl (fun K hK => ?_) AllReadyH.nil
     go_simp
     have N6 := Lib.hid (new_text wr.drew ((R ++ ⟨#[0]⟩) ++ C))
     have O6 := Lib.hid ((show OwnS w.heap.size wr.drew _ _ from HX.out.1.below (below_draws 1)).new (.cells #[.string ((R ++ ⟨#[0]⟩) ++ C)] 9))
     have B6 := Lib.hid ((show Below w.heap.size w wr.drew from HX.out.2.trans (below_draws 1)).alloc (by have := HX.out.2.size; simpa using this) (.cells #[.string ((R ++ ⟨#[0]⟩) ++ C)] 9))
     refine hK.out _ _ ((show Cel5O wr.drew g (off + i * 5) ⟨R, C, t, G, V⟩ from K5.out.below (below_draws 1)).below ((Below.refl _ _).alloc (Nat.le_refl _) _)) (fun hHeld => ?_)
     clear hK K
     refine wpAnyH_ready (rs := [14]) (by kernel_rfl) (by simp) ?_
     refine AllReadyH.cons rfl (fun K hK => ?_) AllReadyH.nil
     rw [if_pos (by rfl)]
     refine op_pushW [(R ++ ⟨#[0]⟩) ++ C] _ _ rfl rfl rfl rfl N6.out O6.out B6.out.size (by rw [HL.out]; simp; omega) ?_
     intro v7 w7 o7 gr7
     have L7 := Lib.hid (B6.out.grown gr7 B6.out.size (fun q e => (O6.out.lt e).1))
     have O7 := Lib.hid o7
     clear o7 gr7
     refine hK.out _ _ (CS.out.below_to L7.out) (fun hHeld => ?_)
     clear hK K
     refine tk 15 (some 3) ?_ ?hy hHeld ?_
     case hy => (intro w' hS; clear hS; go_simp <;> with_reducible rfl)
     simp only [Act.put, List.setIfInBounds_toArray]
     refine wpAnyH_done (by kernel_rfl) ?_ _
     go_wp2
     go_roundw
     case rel => exact ⟨i + 1, by omega, by go_num, ⟨by rw [HT.out]; exact O7.out, L7.out⟩⟩
     case measure => simp [intOf]; omega
   · obtain rfl : i = n := by omega
     have HE := Lib.hid (show xs.take i = xs from List.take_of_length_le (by rw [HR.out.1]; omega))
     go_wp2
     go_ret
     exact ⟨_, rfl, by have := HX.out.1; rw [HE.out] at this; exact this, HX.out.2⟩
end Go.Proofs.Ytkomnnijnggbpaa
