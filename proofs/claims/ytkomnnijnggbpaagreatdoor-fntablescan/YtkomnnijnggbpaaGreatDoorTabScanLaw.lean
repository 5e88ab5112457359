/- The walk of the law FnTableScan: rows between two are told, and no others, in order. -/
import Derived.Test.YtkomnnijnggbpaaGreatDoorDelFun
import Derived.Test.YtkomnnijnggbpaaGreatDoorGetScanS
import Derived.Test.YtkomnnijnggbpaaGreatDoorSameCels
import Derived.Test.YtkomnnijnggbpaaGreatDoorTabMore
import Derived.Test.YtkomnnijnggbpaaGreatDoorDrawTabs
import Derived.Test.YtkomnnijnggbpaaGreatDoorCellsOkI
import Derived.Test.YtkomnnijnggbpaaGreatDoorBig
namespace Go.Proofs.YtkomnnijnggbpaaGreatDoor
open Go.RowKit
set_option linter.unusedVariables false

theorem wpList_on {P : Program} {ops : Array Oper} {Q : Exit → Act → World → Prop} {a : Act} {w : World} {rest : List Oper} {o : Oper} (hw : Region.wanted o (yielded ops a.tmps) = true)
   (h : ∀ K : Act → World → Prop, (∀ a w, wpList P ops Q rest a w → K a w) → o.wp P a w K Q) : wpList P ops Q (o :: rest) a w :=
 wpList_step fun K hK => by rw [if_pos hw]; exact h K hK
theorem op_pushO {B B2 : Nat} {w : World} {v : Value} {xs : List Cel} (ys : List Cel) {ad : Option Addr} {n c : Nat} {o : Oper} {act : Act} {K : Act → World → Prop} {Q : Exit → Act → World → Prop} (s x : Operand)
   (hop : o.op = .call { callee := .builtin .append, args := #[s, x], argTypes := #[24, 24] })
   (hs : act.eval s = v) (hx : act.eval x = .slice ad n c) (hy : OwnC B2 w (.slice ad n c) ys) (h : OwnC B w v xs) (hB : B ≤ w.heap.size) (hl : xs.length + ys.length < 1000)
   (hk : ∀ v' w', OwnC B w' v' (xs ++ ys) → w.grownBy w' v.ownBlock → K (act.put o.dst v') w') : o.wp Tryz.prog act w K Q := by
 cases ad with
 | none =>
   obtain ⟨ad', cp', hv', hn', _⟩ := own_parts hy
   cases hv'
   obtain ⟨rfl, rfl⟩ := hn' rfl
   obtain ⟨a2, c2, rfl, _, hc2⟩ := own_parts h
   exact op_pushN s x hop hs hx hc2 (hk _ _ (by rw [List.append_nil]; exact h) (World.grownBy.refl _ _))
 | some ad =>
   have hlen : ys.length = n := by
     obtain ⟨a2, c2, hv2⟩ := own_slice hy
     cases hv2
     rfl
   exact op_pushC ys s x hop hs hx hlen (own_cells hy) h hB hl hk
set_option maxHeartbeats 4000000 in
set_option maxRecDepth 100000 in
theorem fnTableScan_walk (a0 : Option Addr) (len0 cap0 : Nat) (z0 : List Int) (w : World) (w0 : IsRow .u8 w a0 len0 cap0 z0) (hL : ErrLaid w) :
   Calls Tryz.prog 7 #[.slice a0 len0 cap0] w fun e w' => e = .returned (.bool true) ∧ Below w.heap.size w w' := by
 have HR := Lib.hid (bytes_of_row w0 w.heap.size (Nat.le_refl _))
 have HERR := Lib.hid hL
 have hl0 := hL.lt
 clear w0 hL
 by_cases hbig : len0 ≤ 1048576
 · go_enter Tryz.func7, Tryz.ntmps7
   go_wp2_with fail
   refine (big_no a0 len0 cap0 _ hbig).mono ?_
   rintro e w1 ⟨rfl, rfl⟩
   go_wp2_with fail
   refine (drawTableScan_at a0 len0 cap0 z0 _ HR.out).mono ?_
   rintro e w1 ⟨s, lo, hi, rfl, hs, hlo, hhi, b1⟩
   have B1 := Lib.hid b1
   obtain ⟨xs, cf, k, hT⟩ := tab_some s.data.toList
   have HT := Lib.hid hT
   have hx60 := (tab_few hT).1
   have HOK := Lib.hid (tab_few hT).2
   have HF := Lib.hid (tab_fit hT)
   have hlom : lo.size ≤ maxLen := by unfold maxLen; omega
   have hhim : hi.size ≤ maxLen := by unfold maxLen; omega
   obtain ⟨r, hr⟩ : ∃ r, xs.filter (between lo.data.toList hi.data.toList) = r := ⟨_, rfl⟩
   have HRR := Lib.hid hr
   obtain ⟨L, hLL⟩ : ∃ r, xs.filter (between (⟨#[]⟩ : ByteArray).data.toList lo.data.toList) = r := ⟨_, rfl⟩
   obtain ⟨M, hMM⟩ : ∃ r, xs.filter (between lo.data.toList (⟨#[127]⟩ : ByteArray).data.toList) = r := ⟨_, rfl⟩
   have HLL := Lib.hid hLL
   have HMM := Lib.hid hMM
   have HLM := Lib.hid (show L ++ M = xs by rw [← hLL, ← hMM]; exact scan_parts HOK.out lo.data.toList)
   have HRO := Lib.hid (show cellsOk r = true by rw [← hr]; exact scan_ok HOK.out _)
   have hlen : r.length ≤ 60 := by rw [← hr]; exact Nat.le_trans (List.length_filter_le _ _) hx60
   have hlL : L.length ≤ 60 := by rw [← hLL]; exact Nat.le_trans (List.length_filter_le _ _) hx60
   have hlM : M.length ≤ 60 := by rw [← hMM]; exact Nat.le_trans (List.length_filter_le _ _) hx60
   clear b1 hT hr hLL hMM
   go_wp2_with fail
   refine (implTableScan s lo hi (by omega) xs cf k HT.out _ (HERR.out.below B1.out hl0)).mono ?_
   rw [HRR.out]
   rintro e w2 ⟨v2, rfl, o2, b2⟩
   obtain ⟨ad2, cap2, rfl⟩ := own_slice o2
   obtain ⟨n, hn⟩ : ∃ n, r.length = n := ⟨_, rfl⟩
   have HN := Lib.hid hn
   rw [hn] at hlen
   have R2 := Lib.hid o2.row
   have B2 := Lib.hid (B1.out.trans (b2.mono B1.out.size))
   clear o2 b2 hn
   rw [HN.out] at R2 ⊢
   go_wp2_with fail
   refine (specTableScan s lo hi (by omega) hlom hhim xs cf k HT.out _).mono ?_
   rw [HRR.out]
   rintro e w3 ⟨v3, rfl, o3, b3⟩
   obtain ⟨ad3, cap3, rfl⟩ := own_slice o3
   have R3 := Lib.hid (R2.out.below b3)
   have O3 := Lib.hid o3.row
   have B3 := Lib.hid (B2.out.trans (b3.mono B2.out.size))
   clear o3 b3
   rw [HN.out] at O3 ⊢
   go_wp2_with fail
   refine (sameCells_same ad2 ad3 n cap2 cap3 r (by omega) _ R3.out O3.out).mono ?_
   rintro e w4 ⟨rfl, b4⟩
   have R4 := Lib.hid (R3.out.below b4)
   have B4 := Lib.hid (B3.out.trans (b4.mono B3.out.size))
   clear b4
   go_wp2_with fail
   refine (implCellsOk ad2 n cap2 r (by omega) (fit_ok HRO.out) _ R4.out).mono ?_
   rw [HRO.out]
   rintro e w5 ⟨rfl, b5⟩
   have B5 := Lib.hid (B4.out.trans (b5.mono B4.out.size))
   clear b5
   go_wp2_with fail
   refine (specGetTable s (by omega) _).mono ?_
   rintro e w6 ⟨v6, xs', cf', k', rfl, hT', o6, b6⟩
   obtain ⟨rfl, rfl, rfl⟩ := tab_one HT.out hT'
   obtain ⟨ad6, cap6, rfl⟩ := own_slice o6
   obtain ⟨ev, sz, pk⟩ := cf
   unfold confV
   obtain ⟨m, hm⟩ : ∃ n, xs.length = n := ⟨_, rfl⟩
   have HM := Lib.hid hm
   have K6 := Lib.hid (b6.trans ((one_below w6 (.cells #[.int .i64 ev, .int .i64 sz, .bool pk] 26)).mono b6.size))
   have O6 := Lib.hid (o6.below (one_below w6 (.cells #[.int .i64 ev, .int .i64 sz, .bool pk] 26))).row
   have B6 := Lib.hid (B5.out.trans (K6.out.mono B5.out.size))
   clear hT' o6 b6 K6
   rw [HM.out] at O6 ⊢
   rw [hm] at hx60
   have hmc := O6.out.2.1
   clear hm
   obtain ⟨w7, hw7⟩ : ∃ X, w6.alloc (.cells #[.int .i64 ev, .int .i64 sz, .bool pk] 26) = X := ⟨_, rfl⟩
   obtain ⟨g7, hg7⟩ : ∃ g, w6.heap.size = g := ⟨_, rfl⟩
   rw [hw7] at O6 B6
   go_wp2_with fail
   clear hw7 hg7
   go_loopw [10, 11] (fun mm ii wr => ∃ i q : Nat, i ≤ m ∧ ii = .int .i64 i ∧ mm = .int .i64 q ∧ q ≤ i ∧ Hid (((xs.take i).filter (between lo.data.toList hi.data.toList)).length = q) ∧ Hid (Below w7.heap.size w7 wr)) (fun _ ii _ => m - (intOf ii).toNat)
   case atStart => exact ⟨0, 0, Nat.zero_le _, rfl, rfl, Nat.le_refl _, rfl, Below.refl _ _⟩
   case round =>
     obtain ⟨i, q, hi1, rfl, rfl, hqi, HQ, HB⟩ := hrel
     by_cases hlt : i < m
     · obtain ⟨⟨R, C, T, G, V⟩, hy⟩ : ∃ y, xs[i]? = some y := ⟨_, List.getElem?_eq_getElem (by rw [HM.out]; exact hlt)⟩
       obtain ⟨g, hag, k5⟩ := O6.out.2.2 i _ hy
       subst hag
       have hRs : R.size ≤ maxLen := (HF.out.at hy).1
       have HTK := Lib.hid (show ((xs.take (i + 1)).filter (between lo.data.toList hi.data.toList)).length = q + (if between lo.data.toList hi.data.toList ⟨R, C, T, G, V⟩ = true then 1 else 0) by
         rw [take_next hy, List.filter_append, List.length_append, HQ.out]
         congr 1
         by_cases hb : between lo.data.toList hi.data.toList ⟨R, C, T, G, V⟩ = true
         · rw [List.filter_cons_of_pos hb, if_pos hb]; rfl
         · rw [List.filter_cons_of_neg hb, if_neg hb]; rfl)
       obtain ⟨b1, hb1⟩ : ∃ b, ahead R.data.toList lo.data.toList = b := ⟨_, rfl⟩
       obtain ⟨b2, hb2⟩ : ∃ b, ahead R.data.toList hi.data.toList = b := ⟨_, rfl⟩
       have HB1 := Lib.hid hb1
       have HB2 := Lib.hid hb2
       have HBT := Lib.hid (show between lo.data.toList hi.data.toList ⟨R, C, T, G, V⟩ = (!b1 && b2) by unfold between; rw [hb1, hb2])
       have i1 : (i : Int) < (m : Int) := by omega
       have i0 : (0 : Int) ≤ (i : Int) := by omega
       have k5' := k5.below HB.out
       unfold Cel5 at k5'
       obtain ⟨c0, c1, c2, c3, c4⟩ := k5'
       clear hb1 hb2 hy k5
       cases b1
       · go_wp2_with fail
         refine (specBefore R lo _ hRs hlom).mono ?_
         rw [HB1.out]
         rintro e w8 ⟨rfl, n8, rfl⟩
         go_wp2_with fail
         refine (specBefore R hi _ hRs hhim).mono ?_
         rw [HB2.out]
         rintro e w9 ⟨rfl, n9, rfl⟩
         have DD := Lib.hid (HB.out.trans ((show Below wr.heap.size wr (wr.drewN (n8 + n9)) from below_draws _).mono HB.out.size))
         cases b2
         · have HNF := Lib.hid (show ((xs.take (i + 1)).filter (between lo.data.toList hi.data.toList)).length = q by rw [HTK.out, HBT.out]; simp)
           go_wp2
           go_roundw
           case rel => exact ⟨i + 1, q, by omega, by go_num, rfl, by omega, HNF.out, DD.out⟩
           case measure => simp [intOf]; omega
         · have HNF := Lib.hid (show ((xs.take (i + 1)).filter (between lo.data.toList hi.data.toList)).length = q + 1 by rw [HTK.out, HBT.out]; simp)
           go_wp2
           go_roundw
           case rel => exact ⟨i + 1, q + 1, by omega, by go_num, by go_num, by omega, HNF.out, DD.out⟩
           case measure => simp [intOf]; omega
       · have HNF := Lib.hid (show ((xs.take (i + 1)).filter (between lo.data.toList hi.data.toList)).length = q by rw [HTK.out, HBT.out]; simp)
         go_wp2_with fail
         refine (specBefore R lo _ hRs hlom).mono ?_
         rw [HB1.out]
         rintro e w8 ⟨rfl, n8, rfl⟩
         have DD := Lib.hid (HB.out.trans ((show Below wr.heap.size wr (wr.drewN n8) from below_draws _).mono HB.out.size))
         go_wp2
         go_roundw
         case rel => exact ⟨i + 1, q, by omega, by go_num, rfl, by omega, HNF.out, DD.out⟩
         case measure => simp [intOf]; omega
     · obtain rfl : i = m := by omega
       have h3 : ¬ (i : Int) < (i : Int) := by omega
       obtain rfl : q = n := by
         have h1 := HQ.out
         rw [List.take_of_length_le (by rw [HM.out]; exact Nat.le_refl _), HRR.out, HN.out] at h1
         exact h1.symm
       have B7 := Lib.hid (B6.out.trans (HB.out.mono B6.out.size))
       have R7 := Lib.hid (O6.out.below HB.out)
       clear hqi HQ
       go_wp2_with fail
       refine (implTableScan s ⟨#[]⟩ lo (by omega) xs _ k HT.out _ (HERR.out.below B7.out hl0)).mono ?_
       rw [HLL.out]
       rintro e w10 ⟨v10, rfl, o10, b10⟩
       obtain ⟨ad10, cap10, rfl⟩ := own_slice o10
       have O10 := Lib.hid o10
       have R10 := Lib.hid (R7.out.below b10)
       have B10 := Lib.hid (B7.out.trans (b10.mono B7.out.size))
       clear o10 b10
       go_wp2_with fail
       refine (implTableScan s lo ⟨#[127]⟩ (by omega) xs _ k HT.out _ (HERR.out.below B10.out hl0)).mono ?_
       rw [HMM.out]
       rintro e w11 ⟨v11, rfl, o11, b11⟩
       obtain ⟨ad11, cap11, rfl⟩ := own_slice o11
       have O10 := Lib.hid (O10.out.below b11)
       have O11 := Lib.hid o11
       have R11 := Lib.hid (R10.out.below b11)
       have B11 := Lib.hid (B10.out.trans (b11.mono B10.out.size))
       clear o11 b11
       have E1 := Lib.hid (show OwnC w11.heap.size (w11.alloc (.cells #[] 41)) (.slice (some ⟨w11.heap.size, 0, none⟩) 0 0) [] from World.ownsRow_made w11 #[] 0 (Nat.le_refl _) (by unfold maxLen; omega) (by simp))
       have P1 := Lib.hid (one_below w11 (.cells #[] 41))
       have S1 := Lib.hid (O10.out.below P1.out)
       go_wp2_with (at_builtin; refine wpList_on (by rfl) (fun K hK => ?_); first
         | (refine op_pushO M _ _ rfl rfl rfl S2.out E2.out (Nat.le_trans P1.out.size gsz.out) (by simp only [List.nil_append]; omega) ?_
            intro v8 w8 o8 gr8
            refine hK _ _ ?_
            clear hK K
            have P3 := Lib.hid (P2.out.grown gr8 P2.out.size (fun q e => (E2.out.lt e).1))
            have E3 := Lib.hid o8
            clear o8 gr8)
         | (refine op_pushO L _ _ rfl rfl rfl S1.out E1.out P1.out.size (by simp only [List.length_nil]; omega) ?_
            intro v7 w7' o7 gr7
            refine hK _ _ ?_
            clear hK K
            have P2 := Lib.hid (P1.out.grown gr7 P1.out.size (fun q e => (E1.out.lt e).1))
            have gsz := Lib.hid gr7.size
            have E2 := Lib.hid o7
            have S2 := Lib.hid (O11.out.below P2.out)
            clear o7 gr7))
       have E4 := E3.out
       rw [List.nil_append, HLM.out] at E4
       obtain ⟨ad8, cap8, rfl⟩ := own_slice E4
       have E5 := Lib.hid E4.row
       have R8 := Lib.hid (R11.out.below P3.out)
       have B8 := Lib.hid (B11.out.trans (P3.out.mono B11.out.size))
       clear E4
       rw [HM.out] at E5 ⊢
       refine (sameCells_same ad8 ad6 i cap8 cap6 xs (by omega) _ E5.out R8.out).mono ?_
       rintro e w12 ⟨rfl, b12⟩
       have B12 := Lib.hid (B8.out.trans (b12.mono B8.out.size))
       clear b12
       go_wp2
       go_ret
       exact ⟨rfl, B12.out⟩
 · go_enter Tryz.func7, Tryz.ntmps7
   go_wp2_with fail
   refine (big_yes a0 len0 cap0 _ (by omega)).mono ?_
   rintro e w1 ⟨rfl, rfl⟩
   go_wp2
   go_ret
   exact ⟨rfl, Below.refl _ _⟩
end Go.Proofs.YtkomnnijnggbpaaGreatDoor
