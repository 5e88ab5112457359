/- The walk of the law FnExactCellsOk. -/
import Derived.Test.YtejoiaijlaaekaaCellHelpS
import Derived.Test.YtejoiaijlaaekaaCellsOkI
import Derived.Test.YtejoiaijlaaekaaCellsOkS
namespace Go.Proofs.Ytejoiaijlaaekaa
open Go.RowKit
set_option linter.unusedVariables false

set_option maxHeartbeats 1000000 in
set_option maxRecDepth 100000 in
theorem fnExactCellsOk_walk (w : World) (a : Option Addr) (len cap : Nat) (xs : List Cel) (w0 : CelsIn w a len cap xs) :
    Calls Try.prog 11 #[.slice a len cap] w fun e w' => e = .returned (.bool true) ∧ Below w.heap.size w w' := by
  have HA := Lib.hid (cels_at w0)
  clear w0
  have HF := Lib.hid HA.out.2.2.2.1
  have HL := Lib.hid HA.out.1
  obtain ⟨b, hb⟩ : ∃ b, cellsOk xs = b := ⟨_, rfl⟩
  have HB := Lib.hid hb
  have hbb : (b != b) = false := by simp
  clear hb
  go_enter Try.func11, Try.ntmps11
  go_wp2_with fail
  refine (szCellS_at a len cap xs _ HA.out).mono ?_
  rintro e w1 ⟨m, rfl, hm, hb1⟩
  have A1 := Lib.hid (HA.out.below hb1)
  have B1 := Lib.hid hb1
  clear hb1
  rcases hm with rfl | ⟨hm0, hfew⟩
  · go_wp2
    go_ret
    exact ⟨rfl, B1.out⟩
  · have hmn : ¬ (m < 0) := by omega
    go_wp2_with fail
    refine (toCellS_at a len cap xs hfew _ A1.out).mono ?_
    rintro e w2 ⟨g, rfl, hg, hc2, hb2⟩
    have C2 := Lib.hid (hc2.row HL.out)
    have A2 := Lib.hid (A1.out.below hb2)
    have B2 := Lib.hid (B1.out.trans (hb2.mono B1.out.size))
    clear hc2 hb2
    go_wp2_with fail
    refine (specCellsOk _ len len xs hfew HF.out _ C2.out).mono ?_
    rw [HB.out]
    rintro e w3 ⟨rfl, hb3⟩
    have A3 := Lib.hid (A2.out.below hb3)
    have B3 := Lib.hid (B2.out.trans (hb3.mono B2.out.size))
    clear hb3
    go_wp2_with fail
    refine (toCellS_at a len cap xs hfew _ A3.out).mono ?_
    rintro e w4 ⟨g4, rfl, hg4, hc4, hb4⟩
    have C4 := Lib.hid (hc4.row HL.out)
    have A4 := Lib.hid (A3.out.below hb4)
    have B4 := Lib.hid (B3.out.trans (hb4.mono B3.out.size))
    clear hc4 hb4
    go_wp2_with fail
    refine (implCellsOk _ len len xs hfew HF.out _ C4.out).mono ?_
    rw [HB.out]
    rintro e w5 ⟨rfl, hb5⟩
    have C5 := Lib.hid (C4.out.below hb5)
    have A5 := Lib.hid (A4.out.below hb5)
    have B5 := Lib.hid (B4.out.trans (hb5.mono B4.out.size))
    clear hb5
    go_wp2_with fail
    refine (toCellS_at a len cap xs hfew _ A5.out).mono ?_
    rintro e w6 ⟨g6, rfl, hg6, hc6, hb6⟩
    have C6 := Lib.hid (C5.out.below hb6)
    have D6 := Lib.hid (hc6.row HL.out)
    have B6 := Lib.hid (B5.out.trans (hb6.mono B5.out.size))
    clear hc6 hb6
    go_wp2_with fail
    refine (eqCellS_same _ _ len len len xs hfew _ C6.out D6.out).mono ?_
    rintro e w7 ⟨rfl, hb7⟩
    have B7 := Lib.hid (B6.out.trans (hb7.mono B6.out.size))
    clear hb7
    go_wp2
    go_ret
    exact ⟨rfl, B7.out⟩
end Go.Proofs.Ytejoiaijlaaekaa
