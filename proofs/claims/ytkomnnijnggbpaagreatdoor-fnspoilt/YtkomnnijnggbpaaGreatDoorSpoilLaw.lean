/- The walk of the law FnSpoilt: a table of which a byte was changed is refused. -/
import Derived.Test.YtkomnnijnggbpaaGreatDoorGetTabI
import Derived.Test.YtkomnnijnggbpaaGreatDoorMayTabS
import Derived.Test.YtkomnnijnggbpaaGreatDoorTabSmall
import Derived.Test.YtkomnnijnggbpaaGreatDoorZ2
import Derived.Test.YtkomnnijnggbpaaGreatDoorZ6
import Derived.Test.YtkomnnijnggbpaaGreatDoorCellsN
import Derived.Test.YtkomnnijnggbpaaGreatDoorTurned
namespace Go.Proofs.YtkomnnijnggbpaaGreatDoor
open Go.RowKit
set_option linter.unusedVariables false

theorem spoilt_code {xs ys : List Cel} {c d : Conf} {n k : Nat} {v : UInt8} (hx : tabOk xs c) (hv : (tableB xs c).getD n 0 ≠ v) (h : Tab ((tableB xs c).set n v) ys d k) (hk : k = 0) : (tableB xs c).length ≤ n + 38 := by
 rcases h with ⟨_, h1, h2⟩ | ⟨_, _, h1, _⟩
 · rcases Nat.lt_or_ge (n + 38) (tableB xs c).length with h3 | h3
   · exact absurd h2 (spoilt hx h1 n v h3 hv)
   · exact h3
 · rw [hk] at h1
   split at h1 <;> cases h1
theorem first_code {xs ys : List Cel} {c d : Conf} {k : Nat} (hx : tabOk xs c) (h : Tab ((tableB xs c).drop 1) ys d k) : k ≠ 0 := by
 rcases h with ⟨_, h1, h2⟩ | ⟨_, _, h1, _⟩
 · exact absurd h2 (no_first hx h1)
 · rw [h1]
   split <;> omega

theorem buf_later {w0 w w' : World} {g : Nat} {xs : List UInt8} (t : Buf w0 w g xs) (hb : Below w.heap.size w w') : Buf w0 w' g xs := by
 obtain ⟨cs, n, h, r⟩ := t.block
 exact ⟨⟨cs, n, (hb.block g (Array.getElem?_eq_some_iff.1 h).1).trans h, r⟩, t.own, t.below.trans (hb.mono t.below.size)⟩
set_option maxHeartbeats 4000000 in
set_option maxRecDepth 100000 in
theorem fnSpoilt_walk (a0 : Option Addr) (len0 cap0 : Nat) (z0 : List Int) (w : World) (w0 : IsRow .u8 w a0 len0 cap0 z0) (hL : ErrLaid w) :
   Calls Tryz.prog 5 #[.slice a0 len0 cap0] w fun e w' => e = .returned (.bool true) ∧ Below w.heap.size w w' := by
 have HR := Lib.hid (bytes_of_row w0 w.heap.size (Nat.le_refl _))
 have HERR := Lib.hid hL
 have hl0 := hL.lt
 clear w0 hL
 by_cases hbig : len0 ≤ 1048576
 · go_enter Tryz.func5, Tryz.ntmps5
   go_wp2_with fail
   refine (big_no a0 len0 cap0 _ hbig).mono ?_
   rintro e w1 ⟨rfl, rfl⟩
   go_wp2_with fail
   refine (at_some a0 len0 cap0 z0 0 _ _ HR.out hbig (by omega)).mono ?_
   rintro e w2 ⟨x0, hx0, rfl, rfl⟩
   obtain ⟨N, hN⟩ : ∃ N : Nat, 1 + x0 % 12 = N := ⟨_, rfl⟩
   have hN1 : N ≤ 12 := by omega
   have hNi : (1 : Int) + (x0 : Int) % 12 = (N : Int) := by omega
   clear hN
   go_wp2_with fail
   try rw [hNi]
   refine (cells_at_of 4 N (by omega) (by omega) a0 len0 cap0 z0 _ HR.out hbig).mono ?_
   rintro e w1 ⟨v, xs, rfl, o1, hok, hxl, b1⟩
   obtain ⟨ad, cp, rfl⟩ := own_form o1
   obtain ⟨n, hn⟩ : ∃ n, xs.length = n := ⟨_, rfl⟩
   have HL := Lib.hid hn
   have hT := tab_small (c := ⟨(confE len0 z0 : Int), (confZ len0 z0 : Int), confP len0 z0⟩) hok (conf_ok' len0 z0) (by omega)
   rw [hn] at hxl ⊢
   have R1 := Lib.hid (show CelRow w1 ad n cp xs by have := o1.row; rwa [hn] at this)
   have B1 := Lib.hid b1
   have HF := Lib.hid (fit_ok hok)
   have HR1 := Lib.hid (below_bytes HR.out b1)
   obtain ⟨S, hS, hSl⟩ := text_of (tableB xs ⟨(confE len0 z0 : Int), (confZ len0 z0 : Int), confP len0 z0⟩)
   have hS1 := table_short hT
   have hS2 := table_len xs ⟨(confE len0 z0 : Int), (confZ len0 z0 : Int), confP len0 z0⟩
   have hS3 : S.size ≤ 130000 := by omega
   have hS4 : 38 ≤ S.size := by omega
   have HTT := Lib.hid hT
   have HS := Lib.hid hS
   have HP := Lib.hid (show putTable xs ⟨(confE len0 z0 : Int), (confZ len0 z0 : Int), confP len0 z0⟩ = S.data.toList by rw [putTable, if_pos hT, hS])
   clear o1 hok b1 hn hNi hT hS hSl hS1 hS2
   go_wp2_with fail
   refine (aConfig_at a0 len0 cap0 z0 _ HR1.out hbig).mono ?_
   rintro e w2 ⟨rfl, b2⟩
   have R2 := Lib.hid (R1.out.below b2)
   have B2 := Lib.hid (B1.out.trans (b2.mono B1.out.size))
   have HR2 := Lib.hid (below_bytes HR1.out b2)
   clear b2
   go_wp2_with fail
   refine (implPutTable ad n cp xs (confE len0 z0) (confZ len0 z0) (confP len0 z0) (by omega) HF.out _ R2.out.o).mono ?_
   intro e w3 h3
   obtain ⟨S', hS', hz', rfl, b3⟩ := h3.text
   clear hz'
   rw [HP.out] at hS'
   obtain rfl : S' = S := bytes_ext hS'
   have R3 := Lib.hid (R2.out.below b3)
   have B3 := Lib.hid (B2.out.trans (b3.mono B2.out.size))
   have HR3 := Lib.hid (below_bytes HR2.out b3)
   clear h3 hS' b3
   go_wp2_with fail
   refine (aConfig_at a0 len0 cap0 z0 _ HR3.out hbig).mono ?_
   rintro e w4 ⟨rfl, b4⟩
   have R4 := Lib.hid (R3.out.below b4)
   have B4 := Lib.hid (B3.out.trans (b4.mono B3.out.size))
   have HR4 := Lib.hid (below_bytes HR3.out b4)
   clear b4
   go_wp2_with fail
   refine (specPutTable ad n cp xs (confE len0 z0) (confZ len0 z0) (confP len0 z0) (by omega) HF.out _ R4.out.o).mono ?_
   intro e w5 h5
   obtain ⟨S2, hS', hz', rfl, b5⟩ := h5.text
   clear hz'
   rw [HP.out] at hS'
   obtain rfl : S2 = S' := bytes_ext hS'
   have B5 := Lib.hid (B4.out.trans (b5.mono B4.out.size))
   have HR5 := Lib.hid (below_bytes HR4.out b5)
   clear h5 hS' b5
   obtain ⟨cap, W, hcv, hbuf, hcap⟩ := buf_new w5 S2
   have HBF := Lib.hid hbuf
   have RW := Lib.hid (below_bytes HR5.out hbuf.below)
   clear hbuf
   go_wp2_with fail
   refine (at_some a0 len0 cap0 z0 40 _ _ RW.out hbig (by omega)).mono ?_
   rintro e w9 ⟨x4, h4, rfl, rfl⟩
   go_wp2_with fail
   refine (at_some a0 len0 cap0 z0 41 _ _ RW.out hbig (by omega)).mono ?_
   rintro e w9 ⟨x5, h5, rfl, rfl⟩
   clear hcv
   have hd0 : ((S2.size : Int) == 0) = false := beq_eq_false_iff_ne.2 (by omega)
   obtain ⟨m, hm, hm9⟩ : ∃ m : Nat, (((x4 : Int) * 256 + (x5 : Int)) % (S2.size : Int)) = (m : Int) ∧ m < S2.size := ⟨(x4 * 256 + x5) % S2.size, by simp, Nat.mod_lt _ (by omega)⟩
   have HM := Lib.hid hm
   clear hm
   go_upto_region 9 with fail
   rw [HM.out]
   obtain ⟨v, hv, hv2, hcall⟩ := at_one a0 len0 cap0 z0 42 _ RW.out hbig (by omega)
   have hZL : S2.data.toList.length = S2.size := by simp
   have hcell := HBF.out.cell m (by omega)
   have hfro := HBF.out.frozen m (by omega)
   unfold u8v at hcell
   obtain ⟨c, hc⟩ : ∃ c, S2.data.toList.getD m 0 = c := ⟨_, rfl⟩
   rw [hc] at hcell
   have HC := Lib.hid hc
   have HCALL := Lib.hid hcall
   have i1 : (m : Int) < (S2.size : Int) := by omega
   clear hc hcall hd0
   refine wp_region_still_tail 13 (by kernel_rfl) (by kernel_rfl) ?_
   simp only [List.take_succ_cons, List.take_zero, List.drop_succ_cons, List.drop_zero]
   iterate 7 still_step
   still_call (HCALL.out _ (fun _ => rfl) rfl)
   iterate 5 still_step
   refine wpStill_nil ?_
   change wpList _ _ _ _ _ W.drew
   have HB2 := Lib.hid (show Buf w5 (W.setCell ⟨w5.heap.size, m, none⟩ (.int .u8 (bits .xor .u8 (c.toNat : Int) (1 + (v : Int) % 255)))).drew w5.heap.size (S2.data.toList.set m (turned c v)) from (HBF.out.set m (turned c v) (turned_val c v)).drewN 1)
   have hcv2 : (convert 22 9 (.slice (some ⟨w5.heap.size, 0, none⟩) S2.size cap)).run Tryz.prog (W.setCell ⟨w5.heap.size, m, none⟩ (.int .u8 (bits .xor .u8 (c.toNat : Int) (1 + (v : Int) % 255)))).drew = .ok (.string ⟨(S2.data.toList.set m (turned c v)).toArray⟩) (W.setCell ⟨w5.heap.size, m, none⟩ (.int .u8 (bits .xor .u8 (c.toNat : Int) (1 + (v : Int) % 255)))).drew :=
     HB2.out.str (by rw [List.length_set]; exact hZL)
   have HBZ := Lib.hid (B5.out.trans (HB2.out.below.mono B5.out.size))
   obtain ⟨U, hU⟩ : ∃ U : ByteArray, (⟨(S2.data.toList.set m (turned c v)).toArray⟩ : ByteArray) = U := ⟨_, rfl⟩
   have hUs : U.size ≤ 1048576 := by rw [← hU, text_size, List.length_set, hZL]; omega
   have HUD := Lib.hid (show U.data.toList = S2.data.toList.set m (turned c v) by rw [← hU])
   rw [hU] at hcv2
   obtain ⟨ys, d, k, hTU⟩ := tab_some U.data.toList
   have HTU := Lib.hid hTU
   have HK0 := Lib.hid (show k = 0 → S2.size ≤ m + 38 from fun hk => by
     have h1 := hTU
     rw [HUD.out, HS.out] at h1
     have h2 := spoilt_code HTT.out (by rw [← HS.out, HC.out]; exact turned_ne c v) h1 hk
     rwa [← HS.out, hZL] at h2)
   have hk2 := tab_code hTU
   have hkk : ((k : Int) == (k : Int)) = true := by simp
   clear hU hTU hZL
   obtain ⟨W9, hW9⟩ : ∃ X, (W.setCell ⟨w5.heap.size, m, none⟩ (.int .u8 (bits .xor .u8 (c.toNat : Int) (1 + (v : Int) % 255)))).drew = X := ⟨_, rfl⟩
   rw [hW9] at hcv2 HBZ HB2
   go_wp2_with fail
   refine (implGetTable U hUs _ (HERR.out.below HBZ.out hl0)).mono ?_
   rintro e w10 ⟨v1, ys', d', k', rfl, hT', o10, b10⟩
   obtain ⟨rfl, rfl, rfl⟩ := tab_one HTU.out hT'
   obtain ⟨ad1, cap1, rfl⟩ := own_form o10
   obtain ⟨ev, sz, pk⟩ := d
   unfold confV
   have K10 := Lib.hid (one_below w10 (.cells #[.int .i64 ev, .int .i64 sz, .bool pk] 26))
   have B10 := Lib.hid ((HBZ.out.trans (b10.mono HBZ.out.size)).trans (K10.out.mono (Nat.le_trans HBZ.out.size b10.size)))
   have HB10 := Lib.hid (buf_later HB2.out (b10.trans (K10.out.mono b10.size)))
   have hcv3 := HB10.out.str (c := cap) (n := S2.size) (by rw [List.length_set]; simp)
   rw [← HUD.out, as_text (A := U) rfl] at hcv3
   clear hT' o10 b10 hcv2 K10
   obtain ⟨wa, hwa⟩ : ∃ X, w10.alloc (.cells #[.int .i64 ev, .int .i64 sz, .bool pk] 26) = X := ⟨_, rfl⟩
   obtain ⟨ga, hga⟩ : ∃ g, w10.heap.size = g := ⟨_, rfl⟩
   rw [hwa] at B10 HB10 hcv3
   go_wp2_with fail
   clear hwa hga
   refine (specGetTable U hUs _).mono ?_
   rintro e w11 ⟨v2, ys', d', k', rfl, hT', o11, b11⟩
   obtain ⟨rfl, rfl, rfl⟩ := tab_one HTU.out hT'
   obtain ⟨ad2, cap2, rfl⟩ := own_form o11
   unfold confV
   have K11 := Lib.hid (one_below w11 (.cells #[.int .i64 ev, .int .i64 sz, .bool pk] 26))
   have B11 := Lib.hid ((B10.out.trans (b11.mono B10.out.size)).trans (K11.out.mono (Nat.le_trans B10.out.size b11.size)))
   clear hT' o11 b11 hcv3 K11
   obtain ⟨V, hV⟩ : ∃ V, S2.extract 1 S2.size = V := ⟨_, rfl⟩
   have hVs : V.size ≤ 1048576 := by rw [← hV, ByteArray.size_extract]; omega
   have HVD := Lib.hid (show V.data.toList = S2.data.toList.drop 1 by
     rw [← hV]
     exact drop_of_extract S2 1)
   have j1 : (1 : Int) ≤ (S2.size : Int) := by omega
   obtain ⟨zs3, d3, k3, hT3⟩ := tab_some V.data.toList
   have HT3 := Lib.hid hT3
   have hk3 := tab_code hT3
   have hk30 : k3 ≠ 0 := by
     have h1 := hT3
     rw [HVD.out, HS.out] at h1
     exact first_code HTT.out h1
   have hk3i : ¬ (k3 : Int) = 0 := by omega
   clear hT3
   obtain ⟨wb, hwb⟩ : ∃ X, w11.alloc (.cells #[.int .i64 ev, .int .i64 sz, .bool pk] 26) = X := ⟨_, rfl⟩
   rw [hwb] at B11
   go_wp2_with fail
   clear hwb
   try rw [hV]
   refine (implGetTable V hVs _ (HERR.out.below B11.out hl0)).mono ?_
   rintro e w12 ⟨v3, ys', d', k', rfl, hT', o12, b12⟩
   obtain ⟨rfl, rfl, rfl⟩ := tab_one HT3.out hT'
   obtain ⟨ad3, cap3, rfl⟩ := own_form o12
   obtain ⟨ev3, sz3, pk3⟩ := d3
   unfold confV
   have K12 := Lib.hid (one_below w12 (.cells #[.int .i64 ev3, .int .i64 sz3, .bool pk3] 26))
   have B12 := Lib.hid ((B11.out.trans (b12.mono B11.out.size)).trans (K12.out.mono (Nat.le_trans B11.out.size b12.size)))
   clear hT' o12 b12 K12
   by_cases hk0 : k = 0
   · subst hk0
     have hm38 := HK0.out rfl
     have hmi : (S2.size : Int) - 38 ≤ (m : Int) := by omega
     go_wp2
     go_ret
     exact ⟨ret_bool (bne_iff_ne.2 hk3i), B12.out⟩
   · have hk0i : ¬ (k : Int) = 0 := by omega
     go_wp2
     go_ret
     exact ⟨ret_bool (bne_iff_ne.2 hk3i), B12.out⟩
 · go_enter Tryz.func5, Tryz.ntmps5
   go_wp2_with fail
   refine (big_yes a0 len0 cap0 _ (by omega)).mono ?_
   rintro e w1 ⟨rfl, rfl⟩
   go_wp2
   go_ret
   exact ⟨rfl, Below.refl _ _⟩
end Go.Proofs.YtkomnnijnggbpaaGreatDoor
