/- The model's TableGet and TableScan. -/
import Derived.Test.YtkomnnijnggbpaaGreatDoorGetTabS
import Derived.Test.YtkomnnijnggbpaaGreatDoorBetween
import Derived.Test.YtkomnnijnggbpaaGreatDoorZ8
namespace Go.Proofs.YtkomnnijnggbpaaGreatDoor
open Go.RowKit
set_option linter.unusedVariables false

set_option maxHeartbeats 2000000 in
set_option maxRecDepth 100000 in
theorem specTableGet (s R C : ByteArray) (t : Int) (hs : s.size ≤ 1048576) (xs : List Cel) (c : Conf) (k : Nat) (hT : Tab s.data.toList xs c k) (w : World) :
   Calls Tryz.prog 28 #[.string s, .string R, .string C, .int .i64 t] w (NewOut w (newest xs R.data.toList C.data.toList t)) := by
 have HT := Lib.hid hT
 clear hT
 have O0 := Lib.hid (out1_new w)
 go_enter Tryz.func28, Tryz.ntmps28
 go_wp2_with fail
 refine (specGetTable s hs _).mono ?_
 rintro e w1 ⟨v, xs', c', k', rfl, hT', o1, b1⟩
 obtain ⟨rfl, rfl, rfl⟩ := tab_one HT.out hT'
 obtain ⟨ad, cp, hv, _, hlc⟩ := own_parts o1
 subst hv
 obtain ⟨ev, sz, pk⟩ := c
 have hx60 := (tab_few HT.out).1
 have O1 := Lib.hid (o1.new (.cells #[.int .i64 ev, .int .i64 sz, .bool pk] 26))
 have X1 := Lib.hid ((O0.out.later b1).later (one_below w1 (.cells #[.int .i64 ev, .int .i64 sz, .bool pk] 26)))
 unfold confV
 clear o1 b1 hT'
 obtain ⟨r, hr⟩ : ∃ r, newest xs R.data.toList C.data.toList t = r := ⟨_, rfl⟩
 have HR := Lib.hid hr
 rw [hr]
 clear hr
 go_wp2_with fail
 refine (specNewest ad xs.length cp xs R C t (by omega) (tab_fit HT.out) _ O1.out.row).mono ?_
 rw [HR.out]
 intro e w2 h2
 obtain ⟨R1, C1, T1, G1, V1, hrr, rfl, b2⟩ := h2.form
 have X2 := Lib.hid (X1.out.later b2)
 have HRR := Lib.hid hrr
 obtain ⟨y5, z0, z1, z2, z3, z4⟩ := blk5 X2.out.out
 unfold One5 at y5
 obtain ⟨y0, y1, y2, y3, y4⟩ := y5
 clear b2 h2 hrr
 go_wp2_with fail
 refine bodyPost_ret (v := .tuple #[.agg #[.string R1, .string C1, .int .i64 T1, .bool G1, .string V1], .bool r.isSome]) (res_cell_bool Tryz.results28 _ _ w.heap.size _ _ _ _ rfl rfl (set5 X2.out.out _ _ _ _ _) Tryz.underlying41 rfl (by rw [sizeCel]; rfl)) rfl ?_
 rw [HR.out]
 exact new_form HRR.out (set5_below X2.out.below (Nat.le_refl _) _ _ _ _ _)

theorem fresh_cells (w : World) (x : Cel) : ∀ j u, ([x].flatMap celCells)[j]? = some u → (w.alloc (.cells #[.string x.row, .string x.col, .int .i64 x.time, .bool x.gone, .string x.value] 41)).cell? ((⟨w.heap.size, 0, none⟩ : Addr).add j) = some u := by
 intro j u hj
 have hb := alloc_at w (.cells #[.string x.row, .string x.col, .int .i64 x.time, .bool x.gone, .string x.value] 41)
 have e : (⟨w.heap.size, 0, none⟩ : Addr).add j = ⟨w.heap.size, j, none⟩ := by
   unfold Addr.add; split
   · subst_vars; rfl
   · simp
 rw [e]
 simp only [World.cell?, hb]
 simpa [celCells] using hj
set_option maxHeartbeats 2000000 in
set_option maxRecDepth 100000 in
theorem specTableScan (s lo hi : ByteArray) (hs : s.size ≤ 1048576) (hlo : lo.size ≤ maxLen) (hhi : hi.size ≤ maxLen) (xs : List Cel) (c : Conf) (k : Nat) (hT : Tab s.data.toList xs c k) (w : World) :
   Calls Tryz.prog 35 #[.string s, .string lo, .string hi] w fun e w' => ∃ v, e = .returned v ∧ OwnC w.heap.size w' v (xs.filter (between lo.data.toList hi.data.toList)) ∧ Below w.heap.size w w' := by
 have HT := Lib.hid hT
 clear hT
 have O0 := Lib.hid (show OwnC w.heap.size (w.alloc (.cells #[] 41)) (.slice (some ⟨w.heap.size, 0, none⟩) 0 0) [] from World.ownsRow_made w #[] 0 (Nat.le_refl _) (by unfold maxLen; omega) (by simp))
 have B0 := Lib.hid (one_below w (.cells #[] 41))
 go_enter Tryz.func35, Tryz.ntmps35
 go_wp2_with fail
 refine (specGetTable s hs _).mono ?_
 rintro e w1 ⟨v, xs', c', k', rfl, hT', o1, b1⟩
 obtain ⟨rfl, rfl, rfl⟩ := tab_one HT.out hT'
 obtain ⟨ad, cp, hv, _, hlc⟩ := own_parts o1
 subst hv
 obtain ⟨ev, sz, pk⟩ := c
 have hx60 := (tab_few HT.out).1
 have R1 := Lib.hid (o1.new (.cells #[.int .i64 ev, .int .i64 sz, .bool pk] 26)).row
 have b1' := b1.alloc b1.size (.cells #[.int .i64 ev, .int .i64 sz, .bool pk] 26)
 have B1 := Lib.hid (B0.out.trans (b1'.mono B0.out.size))
 have O1 := Lib.hid (O0.out.below b1')
 unfold confV
 clear o1 b1 b1' hT'
 obtain ⟨w2, hw2⟩ : ∃ W, w1.alloc (.cells #[.int .i64 ev, .int .i64 sz, .bool pk] 26) = W := ⟨_, rfl⟩
 rw [hw2] at R1 B1 O1
 obtain ⟨n, hn⟩ : ∃ n, xs.length = n := ⟨_, rfl⟩
 rw [hn] at hx60 hlc R1 ⊢
 have HN := Lib.hid hn
 have hw2' := Lib.hid hw2
 clear hn
 go_wp2_with fail
 clear hw2
 go_loopw [7, 11] (fun vv ii wr => ∃ i : Nat, i ≤ n ∧ ii = .int .i64 i ∧ Hid (Below w2.heap.size w2 wr) ∧ ((vv = .slice (some ⟨w.heap.size, 0, none⟩) 0 0 ∧ Hid ((xs.take i).filter (between lo.data.toList hi.data.toList) = [])) ∨ (Hid (OwnC w2.heap.size wr vv ((xs.take i).filter (between lo.data.toList hi.data.toList)))))) (fun _ ii _ => n - (intOf ii).toNat)
 case atStart => exact ⟨0, Nat.zero_le _, rfl, Below.refl _ _, .inl ⟨rfl, rfl⟩⟩
 case round =>
   obtain ⟨i, hin, rfl, HB, hst⟩ := hrel
   by_cases hlt : i < n
   · obtain ⟨⟨R, C, T, G, V⟩, hy⟩ : ∃ y, xs[i]? = some y := ⟨_, List.getElem?_eq_getElem (by rw [HN.out]; exact hlt)⟩
     obtain ⟨g, hag, k5⟩ := R1.out.2.2 i _ hy
     subst hag
     have hRs : R.size ≤ maxLen := ((tab_fit HT.out).at hy).1
     have HC := Lib.hid k5
     have K5 := Lib.hid (k5.below HB.out)
     have HTK := Lib.hid (show (xs.take (i + 1)).filter (between lo.data.toList hi.data.toList) = (xs.take i).filter (between lo.data.toList hi.data.toList) ++ (if between lo.data.toList hi.data.toList ⟨R, C, T, G, V⟩ = true then [⟨R, C, T, G, V⟩] else []) by
       rw [take_next hy, List.filter_append]
       congr 1
       by_cases hb : between lo.data.toList hi.data.toList ⟨R, C, T, G, V⟩ = true
       · rw [List.filter_cons_of_pos hb, if_pos hb]; rfl
       · rw [List.filter_cons_of_neg hb, if_neg hb]; rfl)
     obtain ⟨b1, hb1⟩ : ∃ b, ahead R.data.toList lo.data.toList = b := ⟨_, rfl⟩
     obtain ⟨b2, hb2⟩ : ∃ b, ahead R.data.toList hi.data.toList = b := ⟨_, rfl⟩
     have HB1 := Lib.hid hb1
     have HB2 := Lib.hid hb2
     have HBT := Lib.hid (show between lo.data.toList hi.data.toList ⟨R, C, T, G, V⟩ = (!b1 && b2) by unfold between; rw [hb1, hb2])
     have i1 : (i : Int) < (n : Int) := by omega
     have i0 : (0 : Int) ≤ (i : Int) := by omega
     clear hb1 hb2 hy k5
     have k5 := K5.out
     unfold Cel5 at k5
     obtain ⟨c0, c1, c2, c3, c4⟩ := k5
     rcases hst with ⟨rfl, HE⟩ | HO
     · obtain ⟨ti, hti, hz0, hz1, hz2⟩ := info_parts infoCel
       cases b1
       · go_wp2_with fail
         refine (specBefore R lo _ hRs hlo).mono ?_
         rw [HB1.out]
         rintro e w3 ⟨rfl, n3, rfl⟩
         go_wp2_with fail
         refine (specBefore R hi _ hRs hhi).mono ?_
         rw [HB2.out]
         rintro e w4 ⟨rfl, n4, rfl⟩
         have DD := Lib.hid (show Below wr.heap.size wr ((wr.drewN n3).drewN n4) from (below_draws n3).trans (below_draws n4))
         have B4 := Lib.hid (HB.out.trans (DD.out.mono HB.out.size))
         cases b2
         · have DD := Lib.hid (show Below wr.heap.size wr (wr.drewN (n3 + n4)) from below_draws _)
           have B4 := Lib.hid (HB.out.trans (DD.out.mono HB.out.size))
           have HNF := Lib.hid (show (xs.take (i + 1)).filter (between lo.data.toList hi.data.toList) = [] by rw [HTK.out, HBT.out]; rw [HE.out]; simp)
           go_wp2
           go_roundw
           case rel => exact ⟨i + 1, by omega, by go_num, B4.out, .inl ⟨rfl, HNF.out⟩⟩
           case measure => simp [intOf]; omega
         · have HNF := Lib.hid (show (xs.take (i + 1)).filter (between lo.data.toList hi.data.toList) = [⟨R, C, T, G, V⟩] by rw [HTK.out, HBT.out]; rw [HE.out]; simp)
           obtain ⟨W4, hW4⟩ : ∃ W, (wr.drewN n3).drewN n4 = W := ⟨_, rfl⟩
           have K4 := Lib.hid (K5.out.below DD.out)
           rw [hW4] at DD B4 K4 ⊢
           clear hW4 c0 c1 c2 c3 c4
           have k6 := K4.out
           unfold Cel5 at k6
           obtain ⟨c0, c1, c2, c3, c4⟩ := k6
           have NC := Lib.hid (fresh_cells W4 ⟨R, C, T, G, V⟩)
           have B5 := Lib.hid (B4.out.alloc B4.out.size (.cells #[.string R, .string C, .int .i64 T, .bool G, .string V] 41))
           go_wp2_with (at_builtin; refine wpList_append_grows _ rfl _ _ 24 rfl 41 ti (.agg #[.string ⟨#[]⟩, .string ⟨#[]⟩, .int .i64 0, .bool false, .string ⟨#[]⟩]) 5 64 Tryz.underlying24 hti hz0 hz1 hz2 rfl (by decide) (some ⟨w.heap.size, 0, none⟩) 0 0 [] rfl (fun h => by cases h) rfl (fun _ _ _ _ h => by cases h) ⟨W4.heap.size, 0, none⟩ 1 1 ([(⟨R, C, T, G, V⟩ : Cel)].flatMap celCells) rfl (celCells_len [(⟨R, C, T, G, V⟩ : Cel)]) NC.out (celCells_one _) (by decide) (by unfold maxLen; omega) (by decide) ?_; intro v7 w7 o7 gr7; have O7 := Lib.hid (show OwnC w2.heap.size w7 v7 [(⟨R, C, T, G, V⟩ : Cel)] from own_base (B := (W4.alloc (.cells #[.string R, .string C, .int .i64 T, .bool G, .string V] 41)).heap.size) o7 B5.out.size); have L7 := Lib.hid (B5.out.grown gr7 B5.out.size (fun q e => by cases e)); clear o7 gr7)
           go_roundw
           case rel => exact ⟨i + 1, by omega, by go_num, L7.out, .inr (by show OwnC _ _ _ _; rw [HNF.out]; exact O7.out)⟩
           case measure => simp [intOf]; omega
       · have HNF := Lib.hid (show (xs.take (i + 1)).filter (between lo.data.toList hi.data.toList) = [] by rw [HTK.out, HBT.out]; rw [HE.out]; simp)
         go_wp2_with fail
         refine (specBefore R lo _ hRs hlo).mono ?_
         rw [HB1.out]
         rintro e w3 ⟨rfl, n3, rfl⟩
         have DD := Lib.hid (show Below wr.heap.size wr (wr.drewN n3) from below_draws n3)
         have B4 := Lib.hid (HB.out.trans (DD.out.mono HB.out.size))
         go_wp2
         go_roundw
         case rel => exact ⟨i + 1, by omega, by go_num, B4.out, .inl ⟨rfl, HNF.out⟩⟩
         case measure => simp [intOf]; omega
     · obtain ⟨ad2, cp2, hv2, _, hlc2⟩ := own_parts HO.out
       subst hv2
       have hfl : ((xs.take i).filter (between lo.data.toList hi.data.toList)).length + [(⟨R, C, T, G, V⟩ : Cel)].length < 1000 := by
         have h1 := List.length_filter_le (between lo.data.toList hi.data.toList) (xs.take i)
         have h2 : (xs.take i).length ≤ i := by rw [List.length_take]; exact Nat.min_le_left _ _
         simp only [List.length_cons, List.length_nil]
         omega
       cases b1
       · go_wp2_with fail
         refine (specBefore R lo _ hRs hlo).mono ?_
         rw [HB1.out]
         rintro e w3 ⟨rfl, n3, rfl⟩
         go_wp2_with fail
         refine (specBefore R hi _ hRs hhi).mono ?_
         rw [HB2.out]
         rintro e w4 ⟨rfl, n4, rfl⟩
         have DD := Lib.hid (show Below wr.heap.size wr ((wr.drewN n3).drewN n4) from (below_draws n3).trans (below_draws n4))
         have B4 := Lib.hid (HB.out.trans (DD.out.mono HB.out.size))
         cases b2
         · have DD := Lib.hid (show Below wr.heap.size wr (wr.drewN (n3 + n4)) from below_draws _)
           have B4 := Lib.hid (HB.out.trans (DD.out.mono HB.out.size))
           have HNF := Lib.hid (show (xs.take (i + 1)).filter (between lo.data.toList hi.data.toList) = (xs.take i).filter (between lo.data.toList hi.data.toList) by rw [HTK.out, HBT.out]; simp)
           go_wp2
           go_roundw
           case rel => exact ⟨i + 1, by omega, by go_num, B4.out, .inr (by show OwnC _ _ _ _; rw [HNF.out]; exact HO.out.below DD.out)⟩
           case measure => simp [intOf]; omega
         · have HNF := Lib.hid (show (xs.take (i + 1)).filter (between lo.data.toList hi.data.toList) = (xs.take i).filter (between lo.data.toList hi.data.toList) ++ [⟨R, C, T, G, V⟩] by rw [HTK.out, HBT.out]; simp)
           obtain ⟨W4, hW4⟩ : ∃ W, (wr.drewN n3).drewN n4 = W := ⟨_, rfl⟩
           have K4 := Lib.hid (K5.out.below DD.out)
           rw [hW4] at DD B4 K4 ⊢
           clear hW4 c0 c1 c2 c3 c4
           have k6 := K4.out
           unfold Cel5 at k6
           obtain ⟨c0, c1, c2, c3, c4⟩ := k6
           have NC := Lib.hid (fresh_cells W4 ⟨R, C, T, G, V⟩)
           have B5 := Lib.hid (B4.out.alloc B4.out.size (.cells #[.string R, .string C, .int .i64 T, .bool G, .string V] 41))
           have O5 := Lib.hid ((HO.out.below DD.out).new (.cells #[.string R, .string C, .int .i64 T, .bool G, .string V] 41))
           go_wp2_with (at_builtin; refine wpList_plain rfl (fun K hK => ?_); refine op_pushC [(⟨R, C, T, G, V⟩ : Cel)] _ _ rfl rfl rfl rfl NC.out O5.out B5.out.size hfl ?_; intro v7 w7 o7 gr7; refine hK _ _ ?_; clear hK K; have L7 := Lib.hid (B5.out.grown gr7 B5.out.size (fun q e => (O5.out.lt e).1)); have O7 := Lib.hid o7; clear o7 gr7)
           go_roundw
           case rel => exact ⟨i + 1, by omega, by go_num, L7.out, .inr (by show OwnC _ _ _ _; rw [HNF.out]; exact O7.out)⟩
           case measure => simp [intOf]; omega
       · have HNF := Lib.hid (show (xs.take (i + 1)).filter (between lo.data.toList hi.data.toList) = (xs.take i).filter (between lo.data.toList hi.data.toList) by rw [HTK.out, HBT.out]; simp)
         go_wp2_with fail
         refine (specBefore R lo _ hRs hlo).mono ?_
         rw [HB1.out]
         rintro e w3 ⟨rfl, n3, rfl⟩
         have DD := Lib.hid (show Below wr.heap.size wr (wr.drewN n3) from below_draws n3)
         have B4 := Lib.hid (HB.out.trans (DD.out.mono HB.out.size))
         go_wp2
         go_roundw
         case rel => exact ⟨i + 1, by omega, by go_num, B4.out, .inr (by show OwnC _ _ _ _; rw [HNF.out]; exact HO.out.below DD.out)⟩
         case measure => simp [intOf]; omega
   · obtain rfl : i = n := by omega
     have HE := Lib.hid (show xs.take i = xs from List.take_of_length_le (by rw [HN.out]; omega))
     rcases hst with ⟨rfl, HF⟩ | HO
     · have hnil : xs.filter (between lo.data.toList hi.data.toList) = [] := by have := HF.out; rwa [HE.out] at this
       have HNL := Lib.hid hnil
       go_wp2
       go_ret
       exact ⟨_, rfl, by rw [HNL.out]; exact O1.out.below HB.out, B1.out.trans (HB.out.mono B1.out.size)⟩
     · go_wp2
       go_ret
       exact ⟨_, rfl, by have := own_base HO.out B1.out.size; rwa [HE.out] at this, B1.out.trans (HB.out.mono B1.out.size)⟩
end Go.Proofs.YtkomnnijnggbpaaGreatDoor
