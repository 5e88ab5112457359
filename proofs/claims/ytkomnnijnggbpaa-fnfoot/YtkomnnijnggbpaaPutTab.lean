/- The model's PutTable, at every argument. -/
import Derived.Test.YtkomnnijnggbpaaPutTabS
namespace Go.Proofs.Ytkomnnijnggbpaa
open Go.RowKit
set_option linter.unusedVariables false

theorem put_no {xs : List Cel} {c : Conf} (h : 60 < xs.length ∨ cellsOk xs = false ∨ confOk c = false) : putTable xs c = [] := by
 unfold putTable
 refine if_neg (fun ⟨h1, h2, h3, _⟩ => ?_)
 rcases h with h | h | h
 · omega
 · rw [h] at h2; cases h2
 · rw [h] at h3; cases h3
set_option maxHeartbeats 1000000 in
set_option maxRecDepth 100000 in
theorem specPutTable (a : Option Addr) (n c : Nat) (xs : List Cel) (e z : Int) (p : Bool) (hn : n ≤ 1048576) (hf : Fit xs) (w : World) (h : CelRowO w a n c xs) :
   Calls Try.prog 11 #[.slice a n c, .agg #[.int .i64 e, .int .i64 z, .bool p]] w (TextIs w (putTable xs ⟨e, z, p⟩)) := by
 have hxl := h.1
 have B0 := Lib.hid ((Below.refl w.heap.size w).alloc (Nat.le_refl _) (.cells #[.int .i64 e, .int .i64 z, .bool p] 28))
 by_cases h60 : n ≤ 60
 · obtain ⟨b, hb⟩ : ∃ b, cellsOk xs = b := ⟨_, rfl⟩
   cases b
   · have HP := Lib.hid (put_no (c := ⟨e, z, p⟩) (.inr (.inl hb)))
     have HB := Lib.hid hb
     have HR := Lib.hid (h.below B0.out)
     have HF := Lib.hid hf
     clear h hf hb hxl
     go_enter Try.func11, Try.ntmps11
     go_wp2_with fail
     refine (specCellsOkO a n c xs (by omega) HF.out _ HR.out).mono ?_
     rw [HB.out]
     rintro r w1 ⟨rfl, b1⟩
     have B1 := Lib.hid (B0.out.trans (b1.mono B0.out.size))
     clear b1
     go_wp2
     go_ret
     exact ⟨by rw [HP.out]; rfl, B1.out⟩
   · obtain ⟨b, hc⟩ : ∃ b, confOk ⟨e, z, p⟩ = b := ⟨_, rfl⟩
     cases b
     · have HP := Lib.hid (put_no (xs := xs) (.inr (.inr hc)))
       have HB := Lib.hid hb
       have HC := Lib.hid hc
       have HR := Lib.hid (h.below B0.out)
       have HF := Lib.hid hf
       clear h hf hb hc hxl
       have X0 := Lib.hid (show (w.alloc (.cells #[.int .i64 e, .int .i64 z, .bool p] 28)).cell? ⟨w.heap.size, 0, none⟩ = some (.int .i64 e) ∧ (w.alloc (.cells #[.int .i64 e, .int .i64 z, .bool p] 28)).cell? ⟨w.heap.size, 1, none⟩ = some (.int .i64 z) ∧ (w.alloc (.cells #[.int .i64 e, .int .i64 z, .bool p] 28)).cell? ⟨w.heap.size, 2, none⟩ = some (.bool p) from ⟨cell_made w _ _ 0, cell_made w _ _ 1, cell_made w _ _ 2⟩)
       go_enter Try.func11, Try.ntmps11
       go_wp2_with fail
       refine (specCellsOkO a n c xs (by omega) HF.out _ HR.out).mono ?_
       rw [HB.out]
       rintro r w1 ⟨rfl, b1⟩
       have B1 := Lib.hid (B0.out.trans (b1.mono B0.out.size))
       have x0 := (b1.cell (p := ⟨w.heap.size, 0, none⟩) (cell_lt X0.out.1)).trans X0.out.1
       have x1 := (b1.cell (p := ⟨w.heap.size, 1, none⟩) (cell_lt X0.out.2.1)).trans X0.out.2.1
       have x2 := (b1.cell (p := ⟨w.heap.size, 2, none⟩) (cell_lt X0.out.2.2)).trans X0.out.2.2
       clear b1
       go_wp2_with fail
       refine (specConfigOk e z p _).mono ?_
       rw [HC.out]
       rintro r w2 ⟨rfl, b2⟩
       have B2 := Lib.hid (B1.out.trans (b2.mono B1.out.size))
       clear b2
       go_wp2
       go_ret
       exact ⟨by rw [HP.out]; rfl, B2.out⟩
     · obtain ⟨h1, h2, h3, h4⟩ := conf_in hc
       obtain ⟨e, rfl⟩ := Int.eq_ofNat_of_zero_le (show 0 ≤ e from by have : 1 ≤ e := h1; omega)
       obtain ⟨z, rfl⟩ := Int.eq_ofNat_of_zero_le (show 0 ≤ z from by have : 1 ≤ z := h3; omega)
       have k1 : (1 : Int) ≤ (e : Int) := h1
       have k2 : (e : Int) ≤ 16 := h2
       have k3 : (1 : Int) ≤ (z : Int) := h3
       have k4 : (z : Int) ≤ 50 := h4
       exact specPutTable_in a n c xs e z p h60 hb (by omega) (by omega) (by omega) (by omega) w h
 · have HP := Lib.hid (put_no (c := ⟨e, z, p⟩) (.inl (show 60 < xs.length by rw [hxl]; omega)))
   have h60i : (60 : Int) < (n : Int) := by omega
   have hnc := h.2.1
   clear h hf hxl
   go_enter Try.func11, Try.ntmps11
   go_wp2
   go_ret
   exact ⟨by rw [HP.out]; rfl, B0.out⟩
end Go.Proofs.Ytkomnnijnggbpaa
