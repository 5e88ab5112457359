/- The walk of the law FnExactPutBlock. -/
import Derived.Test.YtgonnibakkabjaaCellHelpS
import Derived.Test.YtgonnibakkabjaaPutBlk
namespace Go.Proofs.Ytgonnibakkabjaa
open Go.RowKit
set_option linter.unusedVariables false

set_option maxHeartbeats 1000000 in
set_option maxRecDepth 100000 in
theorem fnExactPutBlock_walk (w : World) (a : Option Addr) (len cap : Nat) (xs : List Cel) (w0 : CelsIn w a len cap xs) (a1 : Int) :
    Calls Try.prog 9 #[.slice a len cap, .int .i64 a1] w fun e w' => e = .returned (.bool true) ∧ Below w.heap.size w w' := by
  have HA := Lib.hid (cels_at w0)
  clear w0
  have HF := Lib.hid HA.out.2.2.2.1
  have HL := Lib.hid HA.out.1
  obtain ⟨A, hA, _⟩ := text_of (putBlock xs a1)
  have HT := Lib.hid (as_text hA)
  clear hA
  go_enter Try.func9, Try.ntmps9
  go_wp2_with fail
  refine (szCellS_at a len cap xs _ HA.out).mono ?_
  rintro e w1 ⟨m, rfl, hm, hb1⟩
  have A1 := Lib.hid (HA.out.below hb1)
  have B1 := Lib.hid hb1
  clear hb1
  rcases hm with rfl | ⟨hm0, hfew⟩
  · go_wp2
    go_ret
    exact ⟨rfl, B1.out⟩
  · have hmn : ¬ (m < 0) := by omega
    go_wp2_with fail
    refine (toCellS_at a len cap xs hfew _ A1.out).mono ?_
    rintro e w2 ⟨g, rfl, hg, hc2, hb2⟩
    have C2 := Lib.hid (hc2.row HL.out)
    have A2 := Lib.hid (A1.out.below hb2)
    have B2 := Lib.hid (B1.out.trans (hb2.mono B1.out.size))
    clear hc2 hb2
    go_wp2_with fail
    refine (specPutBlock _ len len xs a1 hfew HF.out _ C2.out).mono ?_
    rintro e w3 ⟨rfl, hb3⟩
    rw [HT.out]
    have A3 := Lib.hid (A2.out.below hb3)
    have B3 := Lib.hid (B2.out.trans (hb3.mono B2.out.size))
    clear hb3
    go_wp2_with fail
    refine (toCellS_at a len cap xs hfew _ A3.out).mono ?_
    rintro e w4 ⟨g4, rfl, hg4, hc4, hb4⟩
    have C4 := Lib.hid (hc4.row HL.out)
    have A4 := Lib.hid (A3.out.below hb4)
    have B4 := Lib.hid (B3.out.trans (hb4.mono B3.out.size))
    clear hc4 hb4
    go_wp2_with fail
    refine (implPutBlock _ len len xs a1 hfew HF.out _ C4.out).mono ?_
    rintro e w5 ⟨rfl, hb5⟩
    rw [HT.out]
    have C5 := Lib.hid (C4.out.below hb5)
    have A5 := Lib.hid (A4.out.below hb5)
    have B5 := Lib.hid (B4.out.trans (hb5.mono B4.out.size))
    clear hb5
    have hsame := same_beq A
    go_wp2_with fail
    refine (toCellS_at a len cap xs hfew _ A5.out).mono ?_
    rintro e w7 ⟨g7, rfl, hg7, hc7, hb7⟩
    have C7 := Lib.hid (C5.out.below hb7)
    have D7 := Lib.hid (hc7.row HL.out)
    have B7 := Lib.hid (B5.out.trans (hb7.mono B5.out.size))
    clear hc7 hb7
    go_wp2_with fail
    refine (eqCellS_same _ _ len len len xs hfew _ C7.out D7.out).mono ?_
    rintro e w8 ⟨rfl, hb8⟩
    have B8 := Lib.hid (B7.out.trans (hb8.mono B7.out.size))
    clear hb8
    go_wp2
    go_ret
    exact ⟨rfl, B8.out⟩
end Go.Proofs.Ytgonnibakkabjaa
