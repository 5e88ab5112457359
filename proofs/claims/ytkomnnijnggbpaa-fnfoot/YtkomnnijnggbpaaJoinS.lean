/- The model's Join. -/
import Derived.Test.YtkomnnijnggbpaaZ0
import Derived.Test.YtkomnnijnggbpaaCellsOkS
import Derived.Test.YtkomnnijnggbpaaZ2
import Derived.Test.YtkomnnijnggbpaaCellBefore
namespace Go.Proofs.Ytkomnnijnggbpaa
open Go.RowKit
set_option linter.unusedVariables false

theorem op_pushM {B : Nat} {w : World} {v : Value} {xs : List Cel} (ys : List Cel) {ad : Addr} {c : Nat} {o : Oper} {act : Act} {K : Act → World → Prop} {Q : Exit → Act → World → Prop} (s x : Operand)
   (hop : o.op = .call { callee := .builtin .append, args := #[s, x], argTypes := #[24, 24] })
   (hs : act.eval s = v) {m : Nat} (hx : act.eval x = .slice (some ad) m c) (hm : ys.length = m) (hb : ∀ j u, (ys.flatMap celCells)[j]? = some u → w.cell? (ad.add j) = some u) (h : OwnC B w v xs) (hB : B ≤ w.heap.size) (hl : xs.length + ys.length < 4194304)
   (hk : ∀ v' w', OwnC B w' v' (xs ++ ys) → w.grownBy w' v.ownBlock → K (act.put o.dst v') w') : o.wp Try.prog act w K Q := by
 subst hm
 obtain ⟨ti, hti, hz0, hz1, hz2⟩ := info_parts infoCel
 refine wp_append_own _ s x 24 hop B 36 ti (.agg #[.string ⟨#[]⟩, .string ⟨#[]⟩, .int .i64 0, .bool false, .string ⟨#[]⟩]) 5 64 Try.underlying24 hti hz0 hz1 hz2 rfl (by decide) v xs.length (xs.flatMap celCells) hs h
   ad ys.length c (ys.flatMap celCells) hx (celCells_len ys) hb (celCells_one ys) (by unfold maxLen; omega) (by omega) hB ?_
 intro v' w' hown hg _
 refine hk v' w' ?_ hg
 unfold OwnC
 rw [List.length_append, List.flatMap_append]
 exact hown
theorem own_form {B : Nat} {W : World} {v : Value} {ys : List Cel} (h : OwnC B W v ys) : ∃ ad cap, v = .slice ad ys.length cap := by
 rcases h.2 with ⟨h0, hn⟩ | ⟨g, cap, cur, h1, _⟩
 · exact ⟨none, 0, by rw [h0, hn]⟩
 · exact ⟨_, _, h1⟩
theorem new_five (W : World) (R C : ByteArray) (t : Int) (G : Bool) (V : ByteArray) : ∀ j u, (celCells ⟨R, C, t, G, V⟩)[j]? = some u → (W.alloc (.cells #[.string R, .string C, .int .i64 t, .bool G, .string V] 36)).cell? ((⟨W.heap.size, 0, none⟩ : Addr).add j) = some u := by
 intro j u hj
 have e : (⟨W.heap.size, 0, none⟩ : Addr).add j = ⟨W.heap.size, j, none⟩ := by
   unfold Addr.add; split
   · subst_vars; rfl
   · simp
 rw [e]
 simp only [World.cell?, alloc_at]
 simpa [celCells] using hj
theorem drop_cel {xs : List Cel} {i : Nat} {x : Cel} (h : xs[i]? = some x) : xs.drop i = x :: xs.drop (i + 1) := by
 obtain ⟨hi, rfl⟩ := List.getElem?_eq_some_iff.1 h
 rw [List.drop_eq_getElem_cons hi]
theorem snoc_merge {zs M : List Cel} {x : Cel} {r : List Cel} (h : zs ++ x :: r = M) : (zs ++ [x]) ++ r = M := by rw [List.append_assoc]; exact h
def JoinOut (w : World) (l : List Cel) (e : Ending) (w' : World) : Prop := ∃ v, e = .returned v ∧ OwnC w.heap.size w' v l ∧ Below w.heap.size w w'

set_option maxHeartbeats 8000000 in
set_option maxRecDepth 100000 in
theorem specJoin (a : Option Addr) (n c : Nat) (xs : List Cel) (a' : Option Addr) (n' c' : Nat) (ys : List Cel) (hn : n ≤ 1048576) (hn' : n' ≤ 1048576) (hf : Fit xs) (hf' : Fit ys) (w : World) (h : CelRow w a n c xs) (h' : CelRow w a' n' c' ys) :
   Calls Try.prog 22 #[.slice a n c, .slice a' n' c'] w (JoinOut w (join xs ys)) := by
 have HX0 := Lib.hid h
 have HY0 := Lib.hid h'
 have HF := Lib.hid hf
 have HF' := Lib.hid hf'
 have hnc := h.2.1
 have hnc' := h'.2.1
 clear h h' hf hf'
 have D0 := Lib.hid (show OwnC w.heap.size (w.alloc (.cells #[] 36)) (.slice (some ⟨w.heap.size, 0, none⟩) 0 0) [] from World.ownsRow_made w #[] 0 (Nat.le_refl _) (by unfold maxLen; omega) (by simp))
 have B0 := Lib.hid (one_below w (.cells #[] 36))
 go_enter Try.func22, Try.ntmps22
 go_wp2_with fail
 refine (specCellsOk a n c xs hn HF.out _ (HX0.out.below B0.out)).mono ?_
 rintro e w1 ⟨rfl, b1⟩
 have D1 := Lib.hid (D0.out.below b1)
 have B1 := Lib.hid (B0.out.trans (b1.mono B0.out.size))
 clear b1
 cases hx : cellsOk xs with
 | false =>
   have HJ := Lib.hid (show join xs ys = [] from join_no (.inl hx))
   go_wp2
   go_ret
   exact ⟨_, rfl, by rw [HJ.out]; exact D1.out, B1.out⟩
 | true =>
   have HX := Lib.hid hx
   clear hx
   go_wp2_with fail
   refine (specCellsOk a' n' c' ys hn' HF'.out _ (HY0.out.below B1.out)).mono ?_
   rintro e w2 ⟨rfl, b2⟩
   have D2 := Lib.hid (D1.out.below b2)
   have B2 := Lib.hid (B1.out.trans (b2.mono B1.out.size))
   clear b2
   cases hy : cellsOk ys with
   | false =>
     have HJ := Lib.hid (show join xs ys = [] from join_no (.inr hy))
     go_wp2
     go_ret
     exact ⟨_, rfl, by rw [HJ.out]; exact D2.out, B2.out⟩
   | true =>
     have HJ := Lib.hid (join_yes HX.out hy)
     clear hy
     go_wp2_with fail
     go_loopw [5, 6, 7] (fun vv ii kk wr => ∃ (i k : Nat) (zs : List Cel), i ≤ n ∧ k ≤ n' ∧ ii = .int .i64 i ∧ kk = .int .i64 k ∧ zs.length ≤ i + k ∧ Hid (OwnC w.heap.size wr vv zs ∧ Below w.heap.size w wr ∧ zs ++ mergeC (xs.drop i) (ys.drop k) = mergeC xs ys)) (fun _ ii kk _ => (n - (intOf ii).toNat) + (n' - (intOf kk).toNat))
     case atStart => exact ⟨0, 0, [], by omega, by omega, rfl, rfl, by simp, ⟨D2.out, B2.out, by simp⟩⟩
     case round =>
       obtain ⟨i, k, zs, hi, hk, rfl, rfl, hzl, HZ⟩ := hrel
       obtain ⟨ad, cp, hv⟩ := own_form HZ.out.1
       subst hv
       have OX := Lib.hid HZ.out.1
       have BX := Lib.hid HZ.out.2.1
       have HM := Lib.hid HZ.out.2.2
       clear HZ
       by_cases hin : i < n
       · obtain ⟨⟨R, C, t, G, V⟩, hxi⟩ : ∃ x, xs[i]? = some x := ⟨_, List.getElem?_eq_getElem (by rw [HX0.out.1]; exact hin)⟩
         obtain ⟨g, hag, k5⟩ := HX0.out.2.2 i _ hxi
         subst hag
         obtain ⟨hR, hC, hV⟩ := HF.out.at hxi
         have hdx := Lib.hid (drop_cel hxi)
         have K5 := Lib.hid (k5.below BX.out)
         have i1 : (i : Int) < (n : Int) := by omega
         have i2 : (0 : Int) ≤ (i : Int) := by omega
         have i3 : ((i : Int) == (n : Int)) = false := by simp; omega
         clear hxi k5
         by_cases hkn : k < n'
         · obtain ⟨⟨R', C', t', G', V'⟩, hyk⟩ : ∃ y, ys[k]? = some y := ⟨_, List.getElem?_eq_getElem (by rw [HY0.out.1]; exact hkn)⟩
           obtain ⟨g', hag, k5'⟩ := HY0.out.2.2 k _ hyk
           subst hag
           obtain ⟨hR', hC', hV'⟩ := HF'.out.at hyk
           have hdy := Lib.hid (drop_cel hyk)
           have M1 := Lib.hid (And.intro K5.out (k5'.below BX.out))
           have k1 : (k : Int) < (n' : Int) := by omega
           have k2 : (0 : Int) ≤ (k : Int) := by omega
           have k3 : ((k : Int) == (n' : Int)) = false := by simp; omega
           clear hyk k5'
           obtain ⟨b, hb⟩ : ∃ b, celBefore ⟨R, C, t, G, V⟩ ⟨R', C', t', G', V'⟩ = b := ⟨_, rfl⟩
           have HB := Lib.hid hb
           clear hb
           go_wp2_with fail
           refine wp_region_held_drew (S := fun w' => Cel5 w' g i ⟨R, C, t, G, V⟩ ∧ Cel5 w' g' k ⟨R', C', t', G', V'⟩) (by kernel_rfl) M1.out (fun hHeld => ?_)
           refine tk 0 (some 40) ?_ ?hy hHeld ?_
           case hy => (intro w' hS; clear hS; go_simp <;> with_reducible rfl)
           simp only [Act.put, sA, sB, sC]
           refine tk 1 (some 41) ?_ ?hy hHeld ?_
           case hy => (intro w' hS; clear hS; go_simp <;> with_reducible rfl)
           simp only [Act.put, sA, sB, sC]
           refine tk 2 (some 42) ?_ ?hy hHeld ?_
           case hy => (intro w' hS; clear hS; go_simp <;> with_reducible rfl)
           simp only [Act.put, sA, sB, sC]
           refine tk 3 (some 43) ?_ ?hy hHeld ?_
           case hy => (intro w' hS; clear hS; go_simp <;> with_reducible rfl)
           simp only [Act.put, sA, sB, sC]
           refine tk 4 (some 44) ?_ ?hy hHeld ?_
           case hy => (intro w' hS; clear hS; go_simp <;> with_reducible rfl)
           simp only [Act.put, sA, sB, sC]
           refine tk 5 (some 45) ?_ ?hy hHeld ?_
           case hy => (intro w' hS; clear hS; go_simp <;> with_reducible rfl)
           simp only [Act.put, sA, sB, sC]
           refine tk 6 (some 46) ?_ ?hy hHeld ?_
           case hy => (intro w' hS; clear hS; go_simp <;> with_reducible rfl)
           simp only [Act.put, sA, sB, sC]
           refine tk 7 (some 47) ?_ ?hy hHeld ?_
           case hy => (intro w' hS; clear hS; go_simp <;> with_reducible rfl)
           simp only [Act.put, sA, sB, sC]
           refine tk 8 (some 48) ?_ ?hy hHeld ?_
           case hy => (intro w' hS; clear hS; go_simp <;> with_reducible rfl)
           simp only [Act.put, sA, sB, sC]
           refine tk 9 (some 49) ?_ ?hy hHeld ?_
           case hy => (intro w' hS; clear hS; go_simp <;> with_reducible rfl)
           simp only [Act.put, sA, sB, sC]
           refine tk 10 (some 50) ?_ ?hy hHeld ?_
           case hy => (intro w' hS; clear hS; go_simp <;> with_reducible rfl)
           simp only [Act.put, sA, sB, sC]
           refine tk 11 (some 51) ?_ ?hy hHeld ?_
           case hy => (intro w' hS; clear hS; go_simp <;> with_reducible rfl)
           simp only [Act.put, sA, sB, sC]
           refine tk 12 (some 52) ?_ ?hy hHeld ?_
           case hy => (intro w' hS; clear hS; go_simp <;> with_reducible rfl)
           simp only [Act.put, sA, sB, sC]
           refine tk 13 (some 53) ?_ ?hy hHeld ?_
           case hy => (intro w' hS; unfold Cel5 at hS; obtain ⟨⟨s0, s1, s2, s3, s4⟩, ⟨s5, s6, s7, s8, s9⟩⟩ := hS; go_simp <;> with_reducible rfl)
           simp only [Act.put, sA, sB, sC]
           refine tk 14 (some 54) ?_ ?hy hHeld ?_
           case hy => (intro w' hS; clear hS; go_simp <;> with_reducible rfl)
           simp only [Act.put, sA, sB, sC]
           refine tk 15 (some 55) ?_ ?hy hHeld ?_
           case hy => (intro w' hS; clear hS; go_simp <;> with_reducible rfl)
           simp only [Act.put, sA, sB, sC]
           refine tk 16 (some 56) ?_ ?hy hHeld ?_
           case hy => (intro w' hS; clear hS; go_simp <;> with_reducible rfl)
           simp only [Act.put, sA, sB, sC]
           refine tk 17 (some 57) ?_ ?hy hHeld ?_
           case hy => (intro w' hS; unfold Cel5 at hS; obtain ⟨⟨s0, s1, s2, s3, s4⟩, ⟨s5, s6, s7, s8, s9⟩⟩ := hS; go_simp <;> with_reducible rfl)
           simp only [Act.put, sA, sB, sC]
           refine wpAnyH_ready (rs := [18]) (by kernel_rfl) (by simp) ?_
           refine AllReadyH.cons rfl (fun K hK => ?_) AllReadyH.nil
           go_simp
           refine (specCellBefore R C t G V R' C' t' G' V' hR hC hR' hC' _).mono ?_
           rw [HB.out]
           rintro e w2 ⟨rfl, hb2⟩
           have M2 := Lib.hid (And.intro (Cel5.below (w := wr.drewN 1) M1.out.1 hb2) (Cel5.below (w := wr.drewN 1) M1.out.2 hb2))
           have O2 := Lib.hid ((OX.out.below (below_draws 1)).below hb2)
           have B2 := Lib.hid ((BX.out.trans (below_draws 1)).trans (hb2.mono (by have := BX.out.size; simpa using this)))
           clear hb2
           go_wp2_with fail
           refine hK.out _ _ M2.out (fun hHeld => ?_)
           clear hK K
           refine tk 19 (some 59) ?_ ?hy hHeld ?_
           case hy => (intro w' hS; clear hS; go_simp <;> with_reducible rfl)
           simp only [Act.put, sA, sB, sC]
           refine tk 20 (some 60) ?_ ?hy hHeld ?_
           case hy => (intro w' hS; clear hS; go_simp <;> with_reducible rfl)
           simp only [Act.put, sA, sB, sC]
           refine tk 21 (some 39) ?_ ?hy hHeld ?_
           case hy => (intro w' hS; clear hS; go_simp <;> with_reducible rfl)
           simp only [Act.put, sA, sB, sC]
           refine wpAnyH_done (by kernel_rfl) ?_ _
           cases b
           · obtain ⟨b2, hb2⟩ : ∃ b, celBefore ⟨R', C', t', G', V'⟩ ⟨R, C, t, G, V⟩ = b := ⟨_, rfl⟩
             have HB2 := Lib.hid hb2
             clear hb2
             go_wp2_with fail
             refine wp_region_held_drew (S := fun w' => Cel5 w' g i ⟨R, C, t, G, V⟩ ∧ Cel5 w' g' k ⟨R', C', t', G', V'⟩) (by kernel_rfl) M2.out (fun hHeld => ?_)
             refine tk 0 (some 71) ?_ ?hy hHeld ?_
             case hy => (intro w' hS; clear hS; go_simp <;> with_reducible rfl)
             simp only [Act.put, sA, sB, sC]
             refine tk 1 (some 72) ?_ ?hy hHeld ?_
             case hy => (intro w' hS; clear hS; go_simp <;> with_reducible rfl)
             simp only [Act.put, sA, sB, sC]
             refine tk 2 (some 73) ?_ ?hy hHeld ?_
             case hy => (intro w' hS; clear hS; go_simp <;> with_reducible rfl)
             simp only [Act.put, sA, sB, sC]
             refine tk 3 (some 74) ?_ ?hy hHeld ?_
             case hy => (intro w' hS; clear hS; go_simp <;> with_reducible rfl)
             simp only [Act.put, sA, sB, sC]
             refine tk 4 (some 75) ?_ ?hy hHeld ?_
             case hy => (intro w' hS; clear hS; go_simp <;> with_reducible rfl)
             simp only [Act.put, sA, sB, sC]
             refine tk 5 (some 76) ?_ ?hy hHeld ?_
             case hy => (intro w' hS; clear hS; go_simp <;> with_reducible rfl)
             simp only [Act.put, sA, sB, sC]
             refine tk 6 (some 77) ?_ ?hy hHeld ?_
             case hy => (intro w' hS; clear hS; go_simp <;> with_reducible rfl)
             simp only [Act.put, sA, sB, sC]
             refine tk 7 (some 78) ?_ ?hy hHeld ?_
             case hy => (intro w' hS; clear hS; go_simp <;> with_reducible rfl)
             simp only [Act.put, sA, sB, sC]
             refine tk 8 (some 79) ?_ ?hy hHeld ?_
             case hy => (intro w' hS; unfold Cel5 at hS; obtain ⟨⟨s0, s1, s2, s3, s4⟩, ⟨s5, s6, s7, s8, s9⟩⟩ := hS; go_simp <;> with_reducible rfl)
             simp only [Act.put, sA, sB, sC]
             refine tk 9 (some 80) ?_ ?hy hHeld ?_
             case hy => (intro w' hS; clear hS; go_simp <;> with_reducible rfl)
             simp only [Act.put, sA, sB, sC]
             refine tk 10 (some 81) ?_ ?hy hHeld ?_
             case hy => (intro w' hS; clear hS; go_simp <;> with_reducible rfl)
             simp only [Act.put, sA, sB, sC]
             refine tk 11 (some 82) ?_ ?hy hHeld ?_
             case hy => (intro w' hS; clear hS; go_simp <;> with_reducible rfl)
             simp only [Act.put, sA, sB, sC]
             refine tk 12 (some 83) ?_ ?hy hHeld ?_
             case hy => (intro w' hS; unfold Cel5 at hS; obtain ⟨⟨s0, s1, s2, s3, s4⟩, ⟨s5, s6, s7, s8, s9⟩⟩ := hS; go_simp <;> with_reducible rfl)
             simp only [Act.put, sA, sB, sC]
             refine wpAnyH_ready (rs := [13]) (by kernel_rfl) (by simp) ?_
             refine AllReadyH.cons rfl (fun K hK => ?_) AllReadyH.nil
             go_simp
             refine (specCellBefore R' C' t' G' V' R C t G V hR' hC' hR hC _).mono ?_
             rw [HB2.out]
             rintro e w5 ⟨rfl, hb5⟩
             have M5 := Lib.hid (And.intro (Cel5.below (w := w2.drewN 1) M2.out.1 hb5) (Cel5.below (w := w2.drewN 1) M2.out.2 hb5))
             have O5 := Lib.hid ((O2.out.below (below_draws 1)).below hb5)
             have B5 := Lib.hid ((B2.out.trans (below_draws 1)).trans (hb5.mono (by have := B2.out.size; simpa using this)))
             clear hb5
             go_wp2_with fail
             refine hK.out _ _ M5.out (fun hHeld => ?_)
             clear hK K
             refine tk 14 (some 85) ?_ ?hy hHeld ?_
             case hy => (intro w' hS; clear hS; go_simp <;> with_reducible rfl)
             simp only [Act.put, sA, sB, sC]
             refine tk 15 (some 70) ?_ ?hy hHeld ?_
             case hy => (intro w' hS; clear hS; go_simp <;> with_reducible rfl)
             simp only [Act.put, sA, sB, sC]
             refine wpAnyH_done (by kernel_rfl) ?_ _
             have h5x := M5.out.1
             unfold Cel5 at h5x
             obtain ⟨c0, c1, c2, c3, c4⟩ := h5x
             have h5y := M5.out.2
             unfold Cel5 at h5y
             obtain ⟨d0, d1, d2, d3, d4⟩ := h5y
             cases b2
             · have HM2 := Lib.hid (show (zs ++ [⟨R, C, t, G, V⟩]) ++ mergeC (xs.drop (i + 1)) (ys.drop (k + 1)) = mergeC xs ys from snoc_merge (by rw [← merge_both _ _ HB.out HB2.out, ← hdx.out, ← hdy.out]; exact HM.out))
               have N6 := Lib.hid (new_five w5 R C t G V)
               have O6 := Lib.hid (O5.out.new (.cells #[.string R, .string C, .int .i64 t, .bool G, .string V] 36))
               have B6 := Lib.hid (B5.out.trans ((one_below w5 (.cells #[.string R, .string C, .int .i64 t, .bool G, .string V] 36)).mono B5.out.size))
               go_wp2_with (at_builtin; refine wpList_plain rfl (fun K hK => ?_); refine op_pushM [⟨R, C, t, G, V⟩] _ _ rfl rfl rfl rfl N6.out O6.out B6.out.size (by simp; omega) ?_; intro v7 w7 o7 gr7; refine hK _ _ ?_; clear hK K; have L7 := Lib.hid (B6.out.grown gr7 B6.out.size (fun q e => (O6.out.lt e).1)); have O7 := Lib.hid o7; clear o7 gr7)
               go_roundw
               case rel => exact ⟨i + 1, k + 1, zs ++ [⟨R, C, t, G, V⟩], by omega, by omega, by go_num, by go_num, by simp; omega, ⟨O7.out, L7.out, HM2.out⟩⟩
               case measure => simp [intOf]; omega
             · have HM2 := Lib.hid (show (zs ++ [⟨R', C', t', G', V'⟩]) ++ mergeC (xs.drop i) (ys.drop (k + 1)) = mergeC xs ys from snoc_merge (by rw [hdx.out, ← merge_second _ _ HB.out HB2.out, ← hdx.out, ← hdy.out]; exact HM.out))
               have N6 := Lib.hid (new_five w5 R' C' t' G' V')
               have O6 := Lib.hid (O5.out.new (.cells #[.string R', .string C', .int .i64 t', .bool G', .string V'] 36))
               have B6 := Lib.hid (B5.out.trans ((one_below w5 (.cells #[.string R', .string C', .int .i64 t', .bool G', .string V'] 36)).mono B5.out.size))
               go_wp2_with (at_builtin; refine wpList_plain rfl (fun K hK => ?_); refine op_pushM [⟨R', C', t', G', V'⟩] _ _ rfl rfl rfl rfl N6.out O6.out B6.out.size (by simp; omega) ?_; intro v7 w7 o7 gr7; refine hK _ _ ?_; clear hK K; have L7 := Lib.hid (B6.out.grown gr7 B6.out.size (fun q e => (O6.out.lt e).1)); have O7 := Lib.hid o7; clear o7 gr7)
               go_roundw
               case rel => exact ⟨i, k + 1, zs ++ [⟨R', C', t', G', V'⟩], by omega, by omega, rfl, by go_num, by simp; omega, ⟨O7.out, L7.out, HM2.out⟩⟩
               case measure => simp [intOf]; omega
           · have HM2 := Lib.hid (show (zs ++ [⟨R, C, t, G, V⟩]) ++ mergeC (xs.drop (i + 1)) (ys.drop k) = mergeC xs ys from snoc_merge (by rw [hdy.out, ← merge_first _ _ HB.out, ← hdx.out, ← hdy.out]; exact HM.out))
             have h5x := M2.out.1
             unfold Cel5 at h5x
             obtain ⟨c0, c1, c2, c3, c4⟩ := h5x
             have N6 := Lib.hid (new_five w2 R C t G V)
             have O6 := Lib.hid (O2.out.new (.cells #[.string R, .string C, .int .i64 t, .bool G, .string V] 36))
             have B6 := Lib.hid (B2.out.trans ((one_below w2 (.cells #[.string R, .string C, .int .i64 t, .bool G, .string V] 36)).mono B2.out.size))
             go_wp2_with (at_builtin; refine wpList_plain rfl (fun K hK => ?_); refine op_pushM [⟨R, C, t, G, V⟩] _ _ rfl rfl rfl rfl N6.out O6.out B6.out.size (by simp; omega) ?_; intro v7 w7 o7 gr7; refine hK _ _ ?_; clear hK K; have L7 := Lib.hid (B6.out.grown gr7 B6.out.size (fun q e => (O6.out.lt e).1)); have O7 := Lib.hid o7; clear o7 gr7)
             go_roundw
             case rel => exact ⟨i + 1, k, zs ++ [⟨R, C, t, G, V⟩], by omega, by omega, by go_num, rfl, by simp; omega, ⟨O7.out, L7.out, HM2.out⟩⟩
             case measure => simp [intOf]; omega
         · obtain rfl : k = n' := by omega
           have k3 : ((k : Int) == (k : Int)) = true := by simp
           have HM2 := Lib.hid (show (zs ++ [⟨R, C, t, G, V⟩]) ++ mergeC (xs.drop (i + 1)) (ys.drop k) = mergeC xs ys from snoc_merge (by
             have hd : ys.drop k = [] := List.drop_eq_nil_of_le (by rw [HY0.out.1]; omega)
             have hm := HM.out
             rw [hd, merge_end, hdx.out] at hm
             rw [hd, merge_end]
             exact hm))
           go_wp2_with fail
           refine wp_region_held_drew (S := fun _ => True) (by kernel_rfl) trivial (fun hHeld => ?_)
           refine tk 0 (some 40) ?_ ?hy hHeld ?_
           case hy => (intro w' hS; clear hS; go_simp <;> with_reducible rfl)
           simp only [Act.put, sA, sB, sC]
           refine tk 1 (some 41) ?_ ?hy hHeld ?_
           case hy => (intro w' hS; clear hS; go_simp <;> with_reducible rfl)
           simp only [Act.put, sA, sB, sC]
           refine tk 2 (some 42) ?_ ?hy hHeld ?_
           case hy => (intro w' hS; clear hS; go_simp <;> with_reducible rfl)
           simp only [Act.put, sA, sB, sC]
           refine tk 3 (some 43) ?_ ?hy hHeld ?_
           case hy => (intro w' hS; clear hS; go_simp <;> with_reducible rfl)
           simp only [Act.put, sA, sB, sC]
           refine tk 4 (some 44) ?_ ?hy hHeld ?_
           case hy => (intro w' hS; clear hS; go_simp <;> with_reducible rfl)
           simp only [Act.put, sA, sB, sC]
           refine sk 5 (some 45) hHeld ?_
           simp only [Act.put, sA, sB, sC]
           refine sk 6 (some 46) hHeld ?_
           simp only [Act.put, sA, sB, sC]
           refine sk 7 (some 47) hHeld ?_
           simp only [Act.put, sA, sB, sC]
           refine sk 8 (some 48) hHeld ?_
           simp only [Act.put, sA, sB, sC]
           refine sk 9 (some 49) hHeld ?_
           simp only [Act.put, sA, sB, sC]
           refine sk 10 (some 50) hHeld ?_
           simp only [Act.put, sA, sB, sC]
           refine sk 11 (some 51) hHeld ?_
           simp only [Act.put, sA, sB, sC]
           refine sk 12 (some 52) hHeld ?_
           simp only [Act.put, sA, sB, sC]
           refine sk 13 (some 53) hHeld ?_
           simp only [Act.put, sA, sB, sC]
           refine sk 14 (some 54) hHeld ?_
           simp only [Act.put, sA, sB, sC]
           refine sk 15 (some 55) hHeld ?_
           simp only [Act.put, sA, sB, sC]
           refine sk 16 (some 56) hHeld ?_
           simp only [Act.put, sA, sB, sC]
           refine sk 17 (some 57) hHeld ?_
           simp only [Act.put, sA, sB, sC]
           refine sk 18 (some 58) hHeld ?_
           simp only [Act.put, sA, sB, sC]
           refine sk 19 (some 59) hHeld ?_
           simp only [Act.put, sA, sB, sC]
           refine tk 20 (some 60) ?_ ?hy hHeld ?_
           case hy => (intro w' hS; clear hS; go_simp <;> with_reducible rfl)
           simp only [Act.put, sA, sB, sC]
           refine tk 21 (some 39) ?_ ?hy hHeld ?_
           case hy => (intro w' hS; clear hS; go_simp <;> with_reducible rfl)
           simp only [Act.put, sA, sB, sC]
           refine wpAnyH_done (by kernel_rfl) ?_ _
           obtain ⟨W, hW⟩ : ∃ W, wr.drew = W := ⟨_, rfl⟩
           have OW := Lib.hid (show OwnC w.heap.size W (.slice ad zs.length cp) zs by rw [← hW]; exact OX.out.below (below_draws 1))
           have BW := Lib.hid (show Below w.heap.size w W by rw [← hW]; exact BX.out.trans (below_draws 1))
           have h5 : Cel5 W g i ⟨R, C, t, G, V⟩ := by rw [← hW]; exact K5.out.below (below_draws 1)
           rw [hW]
           clear hW
           unfold Cel5 at h5
           obtain ⟨c0, c1, c2, c3, c4⟩ := h5
           have N6 := Lib.hid (new_five W R C t G V)
           have O6 := Lib.hid (OW.out.new (.cells #[.string R, .string C, .int .i64 t, .bool G, .string V] 36))
           have B6 := Lib.hid (BW.out.trans ((one_below W (.cells #[.string R, .string C, .int .i64 t, .bool G, .string V] 36)).mono BW.out.size))
           go_wp2_with (at_builtin; refine wpList_plain rfl (fun K hK => ?_); refine op_pushM [⟨R, C, t, G, V⟩] _ _ rfl rfl rfl rfl N6.out O6.out B6.out.size (by simp; omega) ?_; intro v7 w7 o7 gr7; refine hK _ _ ?_; clear hK K; have L7 := Lib.hid (B6.out.grown gr7 B6.out.size (fun q e => (O6.out.lt e).1)); have O7 := Lib.hid o7; clear o7 gr7)
           go_roundw
           case rel => exact ⟨i + 1, k, zs ++ [⟨R, C, t, G, V⟩], by omega, by omega, by go_num, rfl, by simp; omega, ⟨O7.out, L7.out, HM2.out⟩⟩
           case measure => simp [intOf]; omega
       · obtain rfl : i = n := by omega
         have i3 : ((i : Int) == (i : Int)) = true := by simp
         have i4 : ¬ (i : Int) < (i : Int) := by omega
         have hd : xs.drop i = [] := List.drop_eq_nil_of_le (by rw [HX0.out.1]; omega)
         have HD := Lib.hid hd
         clear hd
         by_cases hkn : k < n'
         · obtain ⟨⟨R', C', t', G', V'⟩, hyk⟩ : ∃ y, ys[k]? = some y := ⟨_, List.getElem?_eq_getElem (by rw [HY0.out.1]; exact hkn)⟩
           obtain ⟨g', hag, k5'⟩ := HY0.out.2.2 k _ hyk
           subst hag
           obtain ⟨hR', hC', hV'⟩ := HF'.out.at hyk
           have hdy := Lib.hid (drop_cel hyk)
           have K5 := Lib.hid (k5'.below BX.out)
           have k1 : (k : Int) < (n' : Int) := by omega
           have k2 : (0 : Int) ≤ (k : Int) := by omega
           have k3 : ((k : Int) == (n' : Int)) = false := by simp; omega
           clear hyk k5'
           have HM2 := Lib.hid (show (zs ++ [⟨R', C', t', G', V'⟩]) ++ mergeC (xs.drop i) (ys.drop (k + 1)) = mergeC xs ys from snoc_merge (by
             have hm := HM.out
             rw [HD.out, merge_nil, hdy.out] at hm
             rw [HD.out, merge_nil]
             exact hm))
           go_wp2_with fail
           refine wp_region_held_drew (S := fun _ => True) (by kernel_rfl) trivial (fun hHeld => ?_)
           refine tk 0 (some 40) ?_ ?hy hHeld ?_
           case hy => (intro w' hS; clear hS; go_simp <;> with_reducible rfl)
           simp only [Act.put, sA, sB, sC]
           refine tk 1 (some 41) ?_ ?hy hHeld ?_
           case hy => (intro w' hS; clear hS; go_simp <;> with_reducible rfl)
           simp only [Act.put, sA, sB, sC]
           refine tk 2 (some 42) ?_ ?hy hHeld ?_
           case hy => (intro w' hS; clear hS; go_simp <;> with_reducible rfl)
           simp only [Act.put, sA, sB, sC]
           refine tk 3 (some 43) ?_ ?hy hHeld ?_
           case hy => (intro w' hS; clear hS; go_simp <;> with_reducible rfl)
           simp only [Act.put, sA, sB, sC]
           refine tk 4 (some 44) ?_ ?hy hHeld ?_
           case hy => (intro w' hS; clear hS; go_simp <;> with_reducible rfl)
           simp only [Act.put, sA, sB, sC]
           refine tk 5 (some 45) ?_ ?hy hHeld ?_
           case hy => (intro w' hS; clear hS; go_simp <;> with_reducible rfl)
           simp only [Act.put, sA, sB, sC]
           refine tk 6 (some 46) ?_ ?hy hHeld ?_
           case hy => (intro w' hS; clear hS; go_simp <;> with_reducible rfl)
           simp only [Act.put, sA, sB, sC]
           refine tk 7 (some 47) ?_ ?hy hHeld ?_
           case hy => (intro w' hS; clear hS; go_simp <;> with_reducible rfl)
           simp only [Act.put, sA, sB, sC]
           refine tk 8 (some 48) ?_ ?hy hHeld ?_
           case hy => (intro w' hS; clear hS; go_simp <;> with_reducible rfl)
           simp only [Act.put, sA, sB, sC]
           refine tk 9 (some 49) ?_ ?hy hHeld ?_
           case hy => (intro w' hS; clear hS; go_simp <;> with_reducible rfl)
           simp only [Act.put, sA, sB, sC]
           refine sk 10 (some 50) hHeld ?_
           simp only [Act.put, sA, sB, sC]
           refine sk 11 (some 51) hHeld ?_
           simp only [Act.put, sA, sB, sC]
           refine sk 12 (some 52) hHeld ?_
           simp only [Act.put, sA, sB, sC]
           refine sk 13 (some 53) hHeld ?_
           simp only [Act.put, sA, sB, sC]
           refine sk 14 (some 54) hHeld ?_
           simp only [Act.put, sA, sB, sC]
           refine sk 15 (some 55) hHeld ?_
           simp only [Act.put, sA, sB, sC]
           refine sk 16 (some 56) hHeld ?_
           simp only [Act.put, sA, sB, sC]
           refine sk 17 (some 57) hHeld ?_
           simp only [Act.put, sA, sB, sC]
           refine sk 18 (some 58) hHeld ?_
           simp only [Act.put, sA, sB, sC]
           refine tk 19 (some 59) ?_ ?hy hHeld ?_
           case hy => (intro w' hS; clear hS; go_simp <;> with_reducible rfl)
           simp only [Act.put, sA, sB, sC]
           refine tk 20 (some 60) ?_ ?hy hHeld ?_
           case hy => (intro w' hS; clear hS; go_simp <;> with_reducible rfl)
           simp only [Act.put, sA, sB, sC]
           refine tk 21 (some 39) ?_ ?hy hHeld ?_
           case hy => (intro w' hS; clear hS; go_simp <;> with_reducible rfl)
           simp only [Act.put, sA, sB, sC]
           refine wpAnyH_done (by kernel_rfl) ?_ _
           go_wp2_with fail
           refine wp_region_held_drew (S := fun _ => True) (by kernel_rfl) trivial (fun hHeld => ?_)
           refine tk 0 (some 71) ?_ ?hy hHeld ?_
           case hy => (intro w' hS; clear hS; go_simp <;> with_reducible rfl)
           simp only [Act.put, sA, sB, sC]
           refine tk 1 (some 72) ?_ ?hy hHeld ?_
           case hy => (intro w' hS; clear hS; go_simp <;> with_reducible rfl)
           simp only [Act.put, sA, sB, sC]
           refine tk 2 (some 73) ?_ ?hy hHeld ?_
           case hy => (intro w' hS; clear hS; go_simp <;> with_reducible rfl)
           simp only [Act.put, sA, sB, sC]
           refine tk 3 (some 74) ?_ ?hy hHeld ?_
           case hy => (intro w' hS; clear hS; go_simp <;> with_reducible rfl)
           simp only [Act.put, sA, sB, sC]
           refine tk 4 (some 75) ?_ ?hy hHeld ?_
           case hy => (intro w' hS; clear hS; go_simp <;> with_reducible rfl)
           simp only [Act.put, sA, sB, sC]
           refine sk 5 (some 76) hHeld ?_
           simp only [Act.put, sA, sB, sC]
           refine sk 6 (some 77) hHeld ?_
           simp only [Act.put, sA, sB, sC]
           refine sk 7 (some 78) hHeld ?_
           simp only [Act.put, sA, sB, sC]
           refine sk 8 (some 79) hHeld ?_
           simp only [Act.put, sA, sB, sC]
           refine sk 9 (some 80) hHeld ?_
           simp only [Act.put, sA, sB, sC]
           refine sk 10 (some 81) hHeld ?_
           simp only [Act.put, sA, sB, sC]
           refine sk 11 (some 82) hHeld ?_
           simp only [Act.put, sA, sB, sC]
           refine sk 12 (some 83) hHeld ?_
           simp only [Act.put, sA, sB, sC]
           refine sk 13 (some 84) hHeld ?_
           simp only [Act.put, sA, sB, sC]
           refine tk 14 (some 85) ?_ ?hy hHeld ?_
           case hy => (intro w' hS; clear hS; go_simp <;> with_reducible rfl)
           simp only [Act.put, sA, sB, sC]
           refine tk 15 (some 70) ?_ ?hy hHeld ?_
           case hy => (intro w' hS; clear hS; go_simp <;> with_reducible rfl)
           simp only [Act.put, sA, sB, sC]
           refine wpAnyH_done (by kernel_rfl) ?_ _
           obtain ⟨W, hW⟩ : ∃ W, wr.drew.drew = W := ⟨_, rfl⟩
           have OW := Lib.hid (show OwnC w.heap.size W (.slice ad zs.length cp) zs by rw [← hW]; exact (OX.out.below (below_draws 1)).below (below_draws 1))
           have BW := Lib.hid (show Below w.heap.size w W by rw [← hW]; exact (BX.out.trans (below_draws 1)).trans (below_draws 1))
           have h5 : Cel5 W g' k ⟨R', C', t', G', V'⟩ := by rw [← hW]; exact (K5.out.below (below_draws 1)).below (below_draws 1)
           rw [hW]
           clear hW
           unfold Cel5 at h5
           obtain ⟨c0, c1, c2, c3, c4⟩ := h5
           have N6 := Lib.hid (new_five W R' C' t' G' V')
           have O6 := Lib.hid (OW.out.new (.cells #[.string R', .string C', .int .i64 t', .bool G', .string V'] 36))
           have B6 := Lib.hid (BW.out.trans ((one_below W (.cells #[.string R', .string C', .int .i64 t', .bool G', .string V'] 36)).mono BW.out.size))
           go_wp2_with (at_builtin; refine wpList_plain rfl (fun K hK => ?_); refine op_pushM [⟨R', C', t', G', V'⟩] _ _ rfl rfl rfl rfl N6.out O6.out B6.out.size (by simp; omega) ?_; intro v7 w7 o7 gr7; refine hK _ _ ?_; clear hK K; have L7 := Lib.hid (B6.out.grown gr7 B6.out.size (fun q e => (O6.out.lt e).1)); have O7 := Lib.hid o7; clear o7 gr7)
           go_roundw
           case rel => exact ⟨i, k + 1, zs ++ [⟨R', C', t', G', V'⟩], by omega, by omega, rfl, by go_num, by simp; omega, ⟨O7.out, L7.out, HM2.out⟩⟩
           case measure => simp [intOf]; omega
         · obtain rfl : k = n' := by omega
           have hk4 : ¬ (k : Int) < (k : Int) := by omega
           have hz : zs = mergeC xs ys := by
             have hm := HM.out
             rw [HD.out, merge_nil, List.drop_eq_nil_of_le (by rw [HY0.out.1]; omega), List.append_nil] at hm
             exact hm
           subst hz
           go_wp2
           go_ret
           exact ⟨_, rfl, by rw [HJ.out]; exact OX.out, BX.out⟩
end Go.Proofs.Ytkomnnijnggbpaa
