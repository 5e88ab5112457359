/- The walk of the law FnExactPutTable. -/
import Derived.Test.YtkomnnijnggbpaaTabPutI
import Derived.Test.YtkomnnijnggbpaaZ3
import Derived.Deep.CutRange
namespace Go.Proofs.Ytkomnnijnggbpaa
open Go.RowKit
set_option linter.unusedVariables false

theorem keepS {w w' : World} {b : Nat} {o : Obj} {a : Option Addr} {len cap : Nat} {xs : List Cel} (h : w.heap[b]? = some o ∧ CelsAt w a len cap xs) (hb : Below w.heap.size w w') : w'.heap[b]? = some o ∧ CelsAt w' a len cap xs :=
 ⟨(hb.block _ (Array.getElem?_eq_some_iff.1 h.1).1).trans h.1, h.2.below hb⟩
theorem confA_cells {w : World} {g T : Nat} {a b c : Value} (h : w.heap[g]? = some (.cells #[a, b, c] T (0, 0))) : w.cell? ⟨g, 0, none⟩ = some a ∧ w.cell? ⟨g, 1, none⟩ = some b ∧ w.cell? ⟨g, 2, none⟩ = some c :=
 ⟨by simp [World.cell?, h], by simp [World.cell?, h], by simp [World.cell?, h]⟩
set_option maxHeartbeats 4000000 in
set_option maxRecDepth 100000 in
theorem fnExactPutTable_walk (w : World) (a : Option Addr) (len cap : Nat) (xs : List Cel) (w0 : CelsIn w a len cap xs) (E Z : Int) (G : Bool) :
   Calls Try.prog 5 #[.slice a len cap, .agg #[.int .i64 E, .int .i64 Z, .bool G]] w fun e w' => e = .returned (.bool true) ∧ Below w.heap.size w w' := by
 have HA := cels_at w0
 have HF := Lib.hid HA.2.2.2.1
 have HL := Lib.hid HA.1
 have B0 := Lib.hid (one_below w (.cells #[.int .i64 E, .int .i64 Z, .bool G] 37))
 have S0 := Lib.hid (show (w.alloc (.cells #[.int .i64 E, .int .i64 Z, .bool G] 37)).heap[w.heap.size]? = some (.cells #[.int .i64 E, .int .i64 Z, .bool G] 37 (0, 0)) ∧ CelsAt (w.alloc (.cells #[.int .i64 E, .int .i64 Z, .bool G] 37)) a len cap xs from ⟨alloc_at w _, HA.below B0.out⟩)
 obtain ⟨TX, hTX, _⟩ := text_of (putTable xs ⟨E, Z, G⟩)
 have HTX := Lib.hid hTX.symm
 clear w0 HA hTX
 obtain ⟨wa, hwa⟩ : ∃ W, w.alloc (.cells #[.int .i64 E, .int .i64 Z, .bool G] 37) = W := ⟨_, rfl⟩
 rw [hwa] at B0 S0
 go_enter Try.func5, Try.ntmps5
 go_wp2_with fail
 try rw [hwa]
 clear hwa
 refine (szCellS_at a len cap xs _ S0.out.2).mono ?_
 rintro e w1 ⟨m, rfl, hm, hb1⟩
 have S1 := Lib.hid (keepS S0.out hb1)
 have B1 := Lib.hid (B0.out.trans (hb1.mono B0.out.size))
 clear hb1
 rcases hm with rfl | ⟨hm0, hfew⟩
 · go_wp2
   go_ret
   exact ⟨rfl, B1.out⟩
 · have hmn : ¬ (m < 0) := by omega
   go_upto_region 5 with fail
   go_cut [6] from 9 to 20 (fun v6 wx => v6 = .string TX ∧ (wx.heap[w.heap.size]? = some (.cells #[.int .i64 E, .int .i64 Z, .bool G] 37 (0, 0)) ∧ CelsAt wx a len cap xs) ∧ Below w.heap.size w wx)
   case first =>
     have S1d := Lib.hid (keepS S1.out (below_draws (B := w1.heap.size) 1))
     have B1d := Lib.hid (B1.out.trans (below_draws (B := w.heap.size) 1))
     refine wp_region_held_drew (S := fun w' => w'.heap[w.heap.size]? = some (.cells #[.int .i64 E, .int .i64 Z, .bool G] 37 (0, 0)) ∧ CelsAt w' a len cap xs) (by kernel_rfl) S1.out (fun hHeld => ?_)
     refine tk 0 (some 14) ?_ ?hy hHeld ?_
     case hy => (intro w' hS; clear hS; go_simp <;> with_reducible rfl)
     simp only [Act.put, sA, sB, sC]
     refine tk 2 (some 16) ?_ ?hy hHeld ?_
     case hy => (intro w' hS; obtain ⟨c0, c1, c2⟩ := confA_cells hS.1; clear hS; go_simp <;> with_reducible rfl)
     simp only [Act.put, sA, sB, sC]
     refine wpAnyH_ready (rs := [1]) (by kernel_rfl) (by simp) ?_
     refine AllReadyH.cons rfl (fun K hK => ?_) AllReadyH.nil
     go_simp
     refine (toCellS_at a len cap xs hfew _ S1d.out.2).mono ?_
     rintro e w2 ⟨gw2, rfl, hgw2, hcw2, hbw2⟩
     have Cw2 := Lib.hid (hcw2.row HL.out)
     have Sw2 := Lib.hid (keepS S1d.out hbw2)
     have Bw2 := Lib.hid (B1d.out.trans (hbw2.mono B1d.out.size))
     clear hcw2 hbw2
     go_wp2_with fail
     refine hK.out _ _ Sw2.out (fun hHeld => ?_)
     clear hK K
     refine wpAnyH_ready (rs := [3]) (by kernel_rfl) (by simp) ?_
     refine AllReadyH.cons rfl (fun K hK => ?_) AllReadyH.nil
     go_simp
     refine (toConfig_at E Z G _).mono ?_
     rintro e w3 ⟨rfl, hbw3⟩
     have Sw3 := Lib.hid (keepS Sw2.out hbw3)
     have Bw3 := Lib.hid (Bw2.out.trans (hbw3.mono Bw2.out.size))
     have Cw3 := Lib.hid (Cw2.out.below hbw3)
     clear hbw3
     go_wp2_with fail
     refine hK.out _ _ Sw3.out (fun hHeld => ?_)
     clear hK K
     refine wpAnyH_ready (rs := [4]) (by kernel_rfl) (by simp) ?_
     refine AllReadyH.cons rfl (fun K hK => ?_) AllReadyH.nil
     go_simp
     refine (specPutTable _ len len xs E Z G hfew HF.out _ Cw3.out.o).mono ?_
     intro e w9 h9
     obtain ⟨P9, hP9, hz9, rfl, hb9⟩ := h9.text
     rw [HTX.out] at hP9
     obtain rfl : P9 = TX := bytes_ext hP9
     have S9 := Lib.hid (keepS Sw3.out hb9)
     have B9 := Lib.hid (Bw3.out.trans (hb9.mono Bw3.out.size))
     clear h9 hP9 hz9 hb9
     go_wp2_with fail
     refine hK.out _ _ S9.out (fun hHeld => ?_)
     clear hK K
     refine tk 5 (some 6) ?_ ?hy hHeld ?_
     case hy => (intro w' hS; clear hS; go_simp <;> with_reducible rfl)
     simp only [Act.put, sA, sB, sC]
     refine wpAnyH_done (by kernel_rfl) ?_ _
     go_wp2_with fail
     go_meet
     case rel => exact ⟨rfl, S9.out, B9.out⟩
   case rest =>
     obtain ⟨rfl, s2, b2⟩ := hcut
     have S2 := Lib.hid s2
     have B2 := Lib.hid b2
     clear s2 b2
     go_wp2_with fail
     refine (toCellS_at a len cap xs hfew _ S2.out.2).mono ?_
     rintro e w3 ⟨g3, rfl, hg3, hc3, hb3⟩
     have C3 := Lib.hid (hc3.row HL.out)
     have S3 := Lib.hid (keepS S2.out hb3)
     have B3 := Lib.hid (B2.out.trans (hb3.mono B2.out.size))
     obtain ⟨c0, c1, c2⟩ := confA_cells S3.out.1
     clear hc3 hb3
     go_wp2_with fail
     refine (toConfig_at E Z G _).mono ?_
     rintro e w4 ⟨rfl, hb4⟩
     have C4 := Lib.hid (C3.out.below hb4)
     have S4 := Lib.hid (keepS S3.out hb4)
     have B4 := Lib.hid (B3.out.trans (hb4.mono B3.out.size))
     clear hb4 c0 c1 c2
     go_wp2_with fail
     refine (implPutTable _ len len xs E Z G hfew HF.out _ C4.out.o).mono ?_
     intro e w5 h5
     obtain ⟨P5, hP5, hz5, rfl, hb5⟩ := h5.text
     rw [HTX.out] at hP5
     obtain rfl : P5 = TX := bytes_ext hP5
     have C5 := Lib.hid (C4.out.below hb5)
     have S5 := Lib.hid (keepS S4.out hb5)
     have B5 := Lib.hid (B4.out.trans (hb5.mono B4.out.size))
     clear h5 hP5 hz5 hb5
     go_wp2_with fail
     refine (toCellS_at a len cap xs hfew _ S5.out.2).mono ?_
     rintro e w6 ⟨g6, rfl, hg6, hc6, hb6⟩
     have C6 := Lib.hid (C5.out.below hb6)
     have D6 := Lib.hid (hc6.row HL.out)
     have B6 := Lib.hid (B5.out.trans (hb6.mono B5.out.size))
     clear hc6 hb6
     go_wp2_with fail
     refine (eqCellS_same _ _ len len len xs hfew _ C6.out D6.out).mono ?_
     rintro e w8 ⟨rfl, hb8⟩
     have B8 := Lib.hid (B6.out.trans (hb8.mono B6.out.size))
     clear hb8
     go_wp2
     go_ret
     exact ⟨rfl, B8.out⟩
end Go.Proofs.Ytkomnnijnggbpaa
