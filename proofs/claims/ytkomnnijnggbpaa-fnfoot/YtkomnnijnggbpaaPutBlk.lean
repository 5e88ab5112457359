/- The program's PutBlock, at every argument. -/
import Derived.Test.YtkomnnijnggbpaaPutBlockI
namespace Go.Proofs.Ytkomnnijnggbpaa
open Go.RowKit Go.Shelf
set_option linter.unusedVariables false

set_option maxRecDepth 100000 in
set_option maxHeartbeats 1000000 in
theorem implPutBlockO (a : Option Addr) (m c : Nat) (xs : List Cel) (every : Int) (hm : m ≤ 1048576) (hf : Fit xs) (w : World) (h : CelRowO w a m c xs) :
   Calls Try.prog 52 #[.slice a m c, .int .i64 every] w (TextIs w (putBlock xs every)) := by
 have hml := h.1
 have B0 := Lib.hid (one_below w (.cells #[.int .i64 every] 3))
 by_cases hev : every < 1 ∨ 16 < every
 · rw [putBlock_no (block_no3 hev)]
   clear h
   rcases hev with hev | hev
   · have g1 : every < 1 := hev
     go_enter Try.func52, Try.ntmps52
     go_wp2_with fail
     refine wp_scope_straight ?_
     go_wp2
     try rw [Exit.noGoto_ret]
     go_ret
     exact ⟨rfl, B0.out⟩
   · have g1 : ¬ every < 1 := by omega
     go_enter Try.func52, Try.ntmps52
     go_wp2_with fail
     refine wp_scope_straight ?_
     go_wp2
     try rw [Exit.noGoto_ret]
     go_ret
     exact ⟨rfl, B0.out⟩
 · by_cases h50 : m ≤ 50
   · cases hok : cellsOk xs
     · rw [putBlock_no (block_no2 hok)]
       have HB := Lib.hid hok
       have HR := Lib.hid h
       clear hok h
       have g1 : ¬ every < 1 := by omega
       have g2 : ¬ (16 : Int) < every := by omega
       have g3 : ¬ (50 : Int) < (m : Int) := by omega
       go_enter Try.func52, Try.ntmps52
       go_wp2_with fail
       refine wp_scope_straight ?_
       go_wp2_with fail
       refine (implCellsOkO a m c xs hm hf _ (HR.out.below B0.out)).mono ?_
       rw [HB.out]
       rintro e w1 ⟨rfl, hb1⟩
       have B1 := Lib.hid (B0.out.trans (hb1.mono (by simp)))
       clear hb1
       go_wp2
       try rw [Exit.noGoto_ret]
       go_ret
       exact ⟨rfl, B1.out⟩
     · obtain ⟨e, rfl⟩ := Int.eq_ofNat_of_zero_le (by omega : 0 ≤ every)
       rw [putBlock_yes (by omega) hok (by omega) (by omega)]
       exact callsIn_wide.1 (implPutBlock_in a m c xs e (by omega) (by omega) h50 hf hok w h)
   · rw [putBlock_no (block_no1 (by omega))]
     clear h
     have g1 : ¬ every < 1 := by omega
     have g2 : ¬ (16 : Int) < every := by omega
     have g3 : (50 : Int) < (m : Int) := by omega
     go_enter Try.func52, Try.ntmps52
     go_wp2_with fail
     refine wp_scope_straight ?_
     go_wp2
     try rw [Exit.noGoto_ret]
     go_ret
     exact ⟨rfl, B0.out⟩
end Go.Proofs.Ytkomnnijnggbpaa
