/- The walk of the law FnConfigs: however a table is put, the same is found in it. -/
import Derived.Test.YtkomnnijnggbpaaGreatDoorScanGetI
import Derived.Test.YtkomnnijnggbpaaGreatDoorDelFun
import Derived.Test.YtkomnnijnggbpaaGreatDoorSameCels
import Derived.Test.YtkomnnijnggbpaaGreatDoorCellsN
import Derived.Test.YtkomnnijnggbpaaGreatDoorZ6
import Derived.Test.YtkomnnijnggbpaaGreatDoorZ10
import Derived.Test.YtkomnnijnggbpaaGreatDoorTabMore
import Derived.Test.YtkomnnijnggbpaaGreatDoorTabLaws
import Derived.Test.YtkomnnijnggbpaaGreatDoorBig
namespace Go.Proofs.YtkomnnijnggbpaaGreatDoor
open Go.RowKit
set_option linter.unusedVariables false

set_option maxHeartbeats 4000000 in
set_option maxRecDepth 100000 in
theorem fnConfigs_walk (a0 : Option Addr) (len0 cap0 : Nat) (z0 : List Int) (w : World) (w0 : IsRow .u8 w a0 len0 cap0 z0) (hL : ErrLaid w) :
   Calls Tryz.prog 8 #[.slice a0 len0 cap0] w fun e w' => e = .returned (.bool true) ∧ Below w.heap.size w w' := by
 have HR := Lib.hid (bytes_of_row w0 w.heap.size (Nat.le_refl _))
 have HERR := Lib.hid hL
 have hl0 := hL.lt
 clear w0 hL
 by_cases hbig : len0 ≤ 1048576
 · go_enter Tryz.func8, Tryz.ntmps8
   go_wp2_with fail
   refine (big_no a0 len0 cap0 _ hbig).mono ?_
   rintro e w1 ⟨rfl, rfl⟩
   go_wp2_with fail
   refine (at_some a0 len0 cap0 z0 0 _ _ HR.out hbig (by omega)).mono ?_
   rintro e w2 ⟨x0, hx0, rfl, rfl⟩
   obtain ⟨N, hN⟩ : ∃ N : Nat, x0 % 12 = N := ⟨_, rfl⟩
   have hN1 : N ≤ 11 := by omega
   have hNi : (x0 : Int) % 12 = (N : Int) := by omega
   clear hN
   go_wp2_with fail
   try rw [hNi]
   refine (cells_at_of 4 N (by omega) (by omega) a0 len0 cap0 z0 _ HR.out hbig).mono ?_
   rintro e w1 ⟨v, xs, rfl, o1, hok, hxl, b1⟩
   obtain ⟨ad, cp, rfl⟩ := own_form o1
   obtain ⟨n, hn⟩ : ∃ n, xs.length = n := ⟨_, rfl⟩
   have HL := Lib.hid hn
   have HT1 := Lib.hid (tab_small (c := ⟨(confE len0 z0 : Int), (confZ len0 z0 : Int), confP len0 z0⟩) hok (conf_ok' len0 z0) (by omega))
   have HSM := Lib.hid (fun (c : Conf) (hc : confOk c = true) => tab_small (c := c) hok hc (by omega))
   rw [hn] at hxl ⊢
   have R1 := Lib.hid (show CelRow w1 ad n cp xs by have := o1.row; rwa [hn] at this)
   have B1 := Lib.hid b1
   have HF := Lib.hid (fit_ok hok)
   have HR1 := Lib.hid (below_bytes HR.out b1)
   clear o1 hok b1 hn hNi
   go_wp2_with fail
   refine (aConfig_at a0 len0 cap0 z0 _ HR1.out hbig).mono ?_
   rintro e w2 ⟨rfl, b2⟩
   obtain ⟨E1, hE1⟩ : ∃ x, confE len0 z0 = x := ⟨_, rfl⟩
   obtain ⟨Z1, hZ1⟩ : ∃ x, confZ len0 z0 = x := ⟨_, rfl⟩
   obtain ⟨P1, hP1⟩ : ∃ x, confP len0 z0 = x := ⟨_, rfl⟩
   rw [hE1, hZ1, hP1] at HT1 ⊢
   clear hE1 hZ1 hP1
   have K2 := Lib.hid (b2.trans ((one_below w2 (.cells #[.int .i64 E1, .int .i64 Z1, .bool P1] 26)).mono b2.size))
   have X2 := Lib.hid (alloc_at w2 (.cells #[.int .i64 E1, .int .i64 Z1, .bool P1] 26))
   have R2 := Lib.hid (R1.out.below K2.out)
   have B2 := Lib.hid (B1.out.trans (K2.out.mono B1.out.size))
   have HR2 := Lib.hid (below_bytes HR1.out K2.out)
   clear b2 K2
   obtain ⟨wa, hwa⟩ : ∃ X, w2.alloc (.cells #[.int .i64 E1, .int .i64 Z1, .bool P1] 26) = X := ⟨_, rfl⟩
   obtain ⟨ga, hga⟩ : ∃ g, w2.heap.size = g := ⟨_, rfl⟩
   rw [hwa, hga] at X2
   rw [hwa] at R2 B2 HR2
   go_wp2_with fail
   clear hwa hga
   refine (at_some a0 len0 cap0 z0 50 _ _ HR2.out hbig (by omega)).mono ?_
   rintro e w3 ⟨y0, hy0, rfl, rfl⟩
   obtain ⟨E2, hE2⟩ : ∃ N : Nat, 1 + y0 % 16 = N := ⟨_, rfl⟩
   have hE2b : 1 ≤ E2 ∧ E2 ≤ 16 := by omega
   have hE2i : (1 : Int) + (y0 : Int) % 16 = (E2 : Int) := by omega
   clear hE2
   go_wp2_with fail
   refine (at_some a0 len0 cap0 z0 51 _ _ HR2.out hbig (by omega)).mono ?_
   rintro e w3 ⟨y1, hy1, rfl, rfl⟩
   obtain ⟨Z2, hZ2⟩ : ∃ N : Nat, 1 + y1 % 50 = N := ⟨_, rfl⟩
   have hZ2b : 1 ≤ Z2 ∧ Z2 ≤ 50 := by omega
   have hZ2i : (1 : Int) + (y1 : Int) % 50 = (Z2 : Int) := by omega
   clear hZ2
   go_wp2_with fail
   refine (at_some a0 len0 cap0 z0 52 _ _ HR2.out hbig (by omega)).mono ?_
   rintro e w3 ⟨y2, hy2, rfl, rfl⟩
   obtain ⟨P2, hP2⟩ : ∃ b, (((y2 : Int) % 2) == 0) = b := ⟨_, rfl⟩
   have HT2 := Lib.hid (HSM.out ⟨(E2 : Int), (Z2 : Int), P2⟩ (by unfold confOk; simp; omega))
   have X3 := Lib.hid (keeps_block X2.out (one_below wa (.cells #[.int .i64 E2, .int .i64 Z2, .bool P2] 26)))
   have Y3 := Lib.hid (alloc_at wa (.cells #[.int .i64 E2, .int .i64 Z2, .bool P2] 26))
   have R3 := Lib.hid (R2.out.below (one_below wa (.cells #[.int .i64 E2, .int .i64 Z2, .bool P2] 26)))
   have B3 := Lib.hid (B2.out.trans ((one_below wa (.cells #[.int .i64 E2, .int .i64 Z2, .bool P2] 26)).mono B2.out.size))
   have HR3 := Lib.hid (below_bytes HR2.out (one_below wa (.cells #[.int .i64 E2, .int .i64 Z2, .bool P2] 26)))
   obtain ⟨wb, hwb⟩ : ∃ X, wa.alloc (.cells #[.int .i64 E2, .int .i64 Z2, .bool P2] 26) = X := ⟨_, rfl⟩
   obtain ⟨gb, hgb⟩ : ∃ g, wa.heap.size = g := ⟨_, rfl⟩
   rw [hwb, hgb] at Y3
   rw [hwb] at X3 R3 B3 HR3
   obtain ⟨S, hS, hSl⟩ := text_of (tableB xs ⟨(E1 : Int), (Z1 : Int), P1⟩)
   obtain ⟨T, hT, hTl⟩ := text_of (tableB xs ⟨(E2 : Int), (Z2 : Int), P2⟩)
   have hS1 := table_short HT1.out
   have hT1 := table_short HT2.out
   have hSs : S.size ≤ 130000 := by omega
   have hTs : T.size ≤ 130000 := by omega
   have HPS := Lib.hid (show putTable xs ⟨(E1 : Int), (Z1 : Int), P1⟩ = S.data.toList by rw [put_yes7 HT1.out, hS])
   have HPT := Lib.hid (show putTable xs ⟨(E2 : Int), (Z2 : Int), P2⟩ = T.data.toList by rw [put_yes7 HT2.out, hT])
   have HTS := Lib.hid (show Tab S.data.toList xs ⟨(E1 : Int), (Z1 : Int), P1⟩ 0 by rw [hS]; exact tab_back HT1.out)
   have HTT := Lib.hid (show Tab T.data.toList xs ⟨(E2 : Int), (Z2 : Int), P2⟩ 0 by rw [hT]; exact tab_back HT2.out)
   clear hS hT hSl hTl hS1 hT1
   have X3d := Lib.hid (keeps_block X3.out (below_draws 1))
   have Y3d := Lib.hid (keeps_block Y3.out (below_draws 1))
   have R3d := Lib.hid (R3.out.below (below_draws (B := wb.heap.size) 1))
   have B3d := Lib.hid (B3.out.trans (below_draws (B := w.heap.size) 1))
   have HR3d := Lib.hid (below_bytes HR3.out (below_draws (B := wb.heap.size) 1))
   go_wp2_with fail
   clear hwb hgb hE2i hZ2i hP2
   refine wp_region_held_drew (S := fun W => W.heap[ga]? = some (.cells #[.int .i64 E1, .int .i64 Z1, .bool P1] 26 (0, 0)) ∧ W.heap[gb]? = some (.cells #[.int .i64 E2, .int .i64 Z2, .bool P2] 26 (0, 0))) (by kernel_rfl) ⟨X3.out, Y3.out⟩ (fun hHeld => ?_)
   refine tk 0 (some 35) ?_ ?hy hHeld ?_
   case hy => (intro w' hS; clear hS; go_simp <;> with_reducible rfl)
   simp only [Act.put, sA, sB, sC]
   refine tk 1 (some 36) ?_ ?hy hHeld ?_
   case hy => (intro w' hS; obtain ⟨c0, c1, c2⟩ := conf_cells hS.1; clear hS; go_simp <;> with_reducible rfl)
   simp only [Act.put, sA, sB, sC]
   refine tk 3 (some 38) ?_ ?hy hHeld ?_
   case hy => (intro w' hS; clear hS; go_simp <;> with_reducible rfl)
   simp only [Act.put, sA, sB, sC]
   refine tk 4 (some 39) ?_ ?hy hHeld ?_
   case hy => (intro w' hS; obtain ⟨c0, c1, c2⟩ := conf_cells hS.2; clear hS; go_simp <;> with_reducible rfl)
   simp only [Act.put, sA, sB, sC]
   refine wpAnyH_ready (rs := [2]) (by kernel_rfl) (by simp) ?_
   refine AllReadyH.cons rfl (fun K hK => ?_) AllReadyH.nil
   go_simp
   refine (implPutTable ad n cp xs E1 Z1 P1 (by omega) HF.out _ R3d.out.o).mono ?_
   intro e w4 h4
   obtain ⟨S', hS', hz', rfl, b4⟩ := h4.text
   rw [HPS.out] at hS'
   obtain rfl : S' = S := bytes_ext hS'
   have X4 := Lib.hid (keeps_block X3d.out b4)
   have Y4 := Lib.hid (keeps_block Y3d.out b4)
   have R4 := Lib.hid (R3d.out.below b4)
   have B4 := Lib.hid (B3d.out.trans (b4.mono B3d.out.size))
   have HR4 := Lib.hid (below_bytes HR3d.out b4)
   clear h4 hS' hz' b4
   go_wp2_with fail
   refine hK.out _ _ ⟨X4.out, Y4.out⟩ (fun hHeld => ?_)
   clear hK K
   refine wpAnyH_ready (rs := [5]) (by kernel_rfl) (by simp) ?_
   refine AllReadyH.cons rfl (fun K hK => ?_) AllReadyH.nil
   go_simp
   refine (implPutTable ad n cp xs E2 Z2 P2 (by omega) HF.out _ R4.out.o).mono ?_
   intro e w5 h5
   obtain ⟨T', hT', hz', rfl, b5⟩ := h5.text
   rw [HPT.out] at hT'
   obtain rfl : T' = T := bytes_ext hT'
   have X5 := Lib.hid (keeps_block X4.out b5)
   have Y5 := Lib.hid (keeps_block Y4.out b5)
   have R5 := Lib.hid (R4.out.below b5)
   have B5 := Lib.hid (B4.out.trans (b5.mono B4.out.size))
   have HR5 := Lib.hid (below_bytes HR4.out b5)
   clear h5 hT' hz' b5
   go_wp2_with fail
   refine hK.out _ _ ⟨X5.out, Y5.out⟩ (fun hHeld => ?_)
   clear hK K
   refine tk 6 (some 6) ?_ ?hy hHeld ?_
   case hy => (intro w' hS; clear hS; go_simp <;> with_reducible rfl)
   simp only [Act.put, sA, sB, sC]
   refine tk 7 (some 7) ?_ ?hy hHeld ?_
   case hy => (intro w' hS; clear hS; go_simp <;> with_reducible rfl)
   simp only [Act.put, sA, sB, sC]
   refine wpAnyH_done (by kernel_rfl) ?_ _
   go_wp2_with fail
   refine (aCell_any 3 (by omega) a0 len0 cap0 z0 _ HR5.out hbig).mono ?_
   rintro e w6 ⟨R, C, t, G, V, hok6, hR40, hC40, hV40, rfl, b6⟩
   have K6 := Lib.hid (b6.trans ((one_below w6 (.cells #[.string R, .string C, .int .i64 t, .bool G, .string V] 41)).mono b6.size))
   have Q6 := Lib.hid (one5_new w6 (.string R) (.string C) (.int .i64 t) (.bool G) (.string V) 41)
   have X6 := Lib.hid (keeps_block X5.out K6.out)
   have Y6 := Lib.hid (keeps_block Y5.out K6.out)
   have R6 := Lib.hid (R5.out.below K6.out)
   have B6 := Lib.hid (B5.out.trans (K6.out.mono B5.out.size))
   clear b6 K6 hok6
   obtain ⟨wc, hwc⟩ : ∃ X, w6.alloc (.cells #[.string R, .string C, .int .i64 t, .bool G, .string V] 41) = X := ⟨_, rfl⟩
   obtain ⟨gc, hgc⟩ : ∃ g, w6.heap.size = g := ⟨_, rfl⟩
   rw [hwc, hgc] at Q6
   rw [hwc] at X6 Y6 R6 B6
   have Q6o := Q6.out
   unfold One5 at Q6o
   obtain ⟨f0, f1, f2, f3, f4⟩ := Q6o
   obtain ⟨r, hr⟩ : ∃ r, newest xs R.data.toList C.data.toList t = r := ⟨_, rfl⟩
   have HN := Lib.hid hr
   clear hr
   go_wp2_with fail
   clear hwc hgc f0 f1 f2 f3 f4
   refine (implTableGet S' R C t (by omega) xs _ 0 HTS.out _ (HERR.out.below B6.out hl0)).mono ?_
   rw [HN.out]
   intro e w7 h7
   obtain ⟨Rx, Cx, Tx, Gx, Vx, hrr, rfl, b7⟩ := h7.form
   have HRR := Lib.hid hrr
   obtain ⟨ok, hok⟩ : ∃ b, r.isSome = b := ⟨_, rfl⟩
   rw [hok]
   have HOK := Lib.hid hok
   have K7 := Lib.hid (b7.trans ((one_below w7 (.cells #[.string Rx, .string Cx, .int .i64 Tx, .bool Gx, .string Vx] 41)).mono b7.size))
   have U7 := Lib.hid (one5_new w7 (.string Rx) (.string Cx) (.int .i64 Tx) (.bool Gx) (.string Vx) 41)
   have Q7 := Lib.hid (Q6.out.below K7.out)
   have X7 := Lib.hid (keeps_block X6.out K7.out)
   have Y7 := Lib.hid (keeps_block Y6.out K7.out)
   have R7 := Lib.hid (R6.out.below K7.out)
   have B7 := Lib.hid (B6.out.trans (K7.out.mono B6.out.size))
   clear h7 hrr hok b7 K7
   obtain ⟨wd, hwd⟩ : ∃ X, w7.alloc (.cells #[.string Rx, .string Cx, .int .i64 Tx, .bool Gx, .string Vx] 41) = X := ⟨_, rfl⟩
   obtain ⟨gd, hgd⟩ : ∃ g, w7.heap.size = g := ⟨_, rfl⟩
   rw [hwd, hgd] at U7
   rw [hwd] at Q7 X7 Y7 R7 B7
   have Q7o := Q7.out
   unfold One5 at Q7o
   obtain ⟨f0, f1, f2, f3, f4⟩ := Q7o
   go_wp2_with fail
   clear hwd hgd f0 f1 f2 f3 f4
   refine (implTableGet T' R C t (by omega) xs _ 0 HTT.out _ (HERR.out.below B7.out hl0)).mono ?_
   rw [HN.out]
   intro e w8 h8
   obtain ⟨R', C', T', G', V', hrr', rfl, b8⟩ := h8.form
   rw [HRR.out] at hrr'
   cases hrr'
   rw [HOK.out]
   have K8 := Lib.hid (b8.trans ((one_below w8 (.cells #[.string Rx, .string Cx, .int .i64 Tx, .bool Gx, .string Vx] 41)).mono b8.size))
   have V8 := Lib.hid (one5_new w8 (.string Rx) (.string Cx) (.int .i64 Tx) (.bool Gx) (.string Vx) 41)
   have U8 := Lib.hid (U7.out.below K8.out)
   have X8 := Lib.hid (keeps_block X7.out K8.out)
   have Y8 := Lib.hid (keeps_block Y7.out K8.out)
   have R8 := Lib.hid (R7.out.below K8.out)
   have B8 := Lib.hid (B7.out.trans (K8.out.mono B7.out.size))
   clear h8 b8 K8
   obtain ⟨we, hwe⟩ : ∃ X, w8.alloc (.cells #[.string Rx, .string Cx, .int .i64 Tx, .bool Gx, .string Vx] 41) = X := ⟨_, rfl⟩
   obtain ⟨ge, hge⟩ : ∃ g, w8.heap.size = g := ⟨_, rfl⟩
   rw [hwe, hge] at V8
   rw [hwe] at U8 X8 Y8 R8 B8
   obtain ⟨c0, c1, c2⟩ := conf_cells X8.out
   go_wp2_with fail
   clear hwe hge c0 c1 c2
   refine (specPutTable ad n cp xs E1 Z1 P1 (by omega) HF.out _ R8.out.o).mono ?_
   intro e w9 h9
   obtain ⟨S9, hS9, hz9, rfl, b9⟩ := h9.text
   rw [HPS.out] at hS9
   obtain rfl : S9 = S' := bytes_ext hS9
   have V9 := Lib.hid (V8.out.below b9)
   have U9 := Lib.hid (U8.out.below b9)
   have Y9 := Lib.hid (keeps_block Y8.out b9)
   have R9 := Lib.hid (R8.out.below b9)
   have B9 := Lib.hid (B8.out.trans (b9.mono B8.out.size))
   clear h9 hS9 hz9 b9
   obtain ⟨c0, c1, c2⟩ := conf_cells Y9.out
   go_wp2_with fail
   clear c0 c1 c2
   refine (specPutTable ad n cp xs E2 Z2 P2 (by omega) HF.out _ R9.out.o).mono ?_
   intro e w10 h10
   obtain ⟨T9, hT9, hz9, rfl, b10⟩ := h10.text
   rw [HPT.out] at hT9
   obtain rfl : T9 = T' := bytes_ext hT9
   have V10 := Lib.hid (V9.out.below b10)
   have U10 := Lib.hid (U9.out.below b10)
   have B10 := Lib.hid (B9.out.trans (b10.mono B9.out.size))
   clear h10 hT9 hz9 b10
   have V10o := V10.out
   unfold One5 at V10o
   obtain ⟨f0, f1, f2, f3, f4⟩ := V10o
   have U10o := U10.out
   unfold One5 at U10o
   obtain ⟨e0, e1, e2, e3, e4⟩ := U10o
   obtain ⟨L, hLL⟩ : ∃ l, xs.filter (between (⟨#[]⟩ : ByteArray).data.toList (⟨#[122, 122, 122]⟩ : ByteArray).data.toList) = l := ⟨_, rfl⟩
   have HLL := Lib.hid hLL
   obtain ⟨m, hm⟩ : ∃ m, L.length = m := ⟨_, rfl⟩
   have HM := Lib.hid hm
   have hm11 : m ≤ 11 := by
     rw [← hm, ← hLL]
     have h1 := List.length_filter_le (between (⟨#[]⟩ : ByteArray).data.toList (⟨#[122, 122, 122]⟩ : ByteArray).data.toList) xs
     have h2 := HL.out
     omega
   clear hLL hm
   go_wp2_with fail
   clear f0 f1 f2 f3 f4 e0 e1 e2 e3 e4
   refine (implTableScan S9 ⟨#[]⟩ ⟨#[122, 122, 122]⟩ (by omega) xs _ 0 HTS.out _ (HERR.out.below B10.out hl0)).mono ?_
   rw [HLL.out]
   rintro e w11 ⟨v11, rfl, o11, b11⟩
   obtain ⟨ad11, cap11, rfl⟩ := own_form o11
   have O11 := Lib.hid o11.row
   have B11 := Lib.hid (B10.out.trans (b11.mono B10.out.size))
   clear o11 b11
   rw [HM.out] at O11 ⊢
   go_wp2_with fail
   refine (implTableScan T9 ⟨#[]⟩ ⟨#[122, 122, 122]⟩ (by omega) xs _ 0 HTT.out _ (HERR.out.below B11.out hl0)).mono ?_
   rw [HLL.out]
   rintro e w12 ⟨v12, rfl, o12, b12⟩
   obtain ⟨ad12, cap12, rfl⟩ := own_form o12
   have O12 := Lib.hid o12.row
   have R12 := Lib.hid (O11.out.below b12)
   have B12 := Lib.hid (B11.out.trans (b12.mono B11.out.size))
   clear o12 b12
   rw [HM.out] at O12 ⊢
   go_wp2_with fail
   refine (sameCells_same ad11 ad12 m cap11 cap12 L (by omega) _ R12.out O12.out).mono ?_
   rintro e w13 ⟨rfl, b13⟩
   have B13 := Lib.hid (B12.out.trans (b13.mono B12.out.size))
   clear b13
   go_wp2
   go_ret
   exact ⟨rfl, B13.out⟩
 · go_enter Tryz.func8, Tryz.ntmps8
   go_wp2_with fail
   refine (big_yes a0 len0 cap0 _ (by omega)).mono ?_
   rintro e w1 ⟨rfl, rfl⟩
   go_wp2
   go_ret
   exact ⟨rfl, Below.refl _ _⟩
end Go.Proofs.YtkomnnijnggbpaaGreatDoor
