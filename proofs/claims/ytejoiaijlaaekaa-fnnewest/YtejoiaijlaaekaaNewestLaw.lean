/- The walk of the law FnExactNewest. -/
import Derived.Test.YtejoiaijlaaekaaCellHelpS
import Derived.Test.YtejoiaijlaaekaaNewestS
namespace Go.Proofs.Ytejoiaijlaaekaa
open Go.RowKit
set_option linter.unusedVariables false

theorem NewOut.form {w w' : World} {r : Option Cel} {e : Ending} (h : NewOut w r e w') : ∃ (R C : ByteArray) (T : Int) (G : Bool) (V : ByteArray), r.getD zeroC = ⟨R, C, T, G, V⟩ ∧ e = .returned (.tuple #[.agg #[.string R, .string C, .int .i64 T, .bool G, .string V], .bool r.isSome]) ∧ Below w.heap.size w w' := by
  cases r with
  | none => exact ⟨_, _, _, _, _, rfl, h.1, h.2⟩
  | some x => exact ⟨x.row, x.col, x.time, x.gone, x.value, rfl, h.1, h.2⟩

set_option maxHeartbeats 1000000 in
set_option maxRecDepth 100000 in
theorem fnExactNewest_walk (w : World) (a : Option Addr) (len cap : Nat) (xs : List Cel) (w0 : CelsIn w a len cap xs) (a1 a2 : ByteArray) (a3 : Int) :
    Calls Try.prog 12 #[.slice a len cap, .string a1, .string a2, .int .i64 a3] w fun e w' => e = .returned (.bool true) ∧ Below w.heap.size w w' := by
  by_cases q1 : a1.size ≤ 1048576
  · by_cases q2 : a2.size ≤ 1048576
    · have HA := Lib.hid (cels_at w0)
      clear w0
      have HF := Lib.hid HA.out.2.2.2.1
      have HL := Lib.hid HA.out.1
      obtain ⟨r, hr⟩ : ∃ r, newest xs a1.data.toList a2.data.toList a3 = r := ⟨_, rfl⟩
      have HN := Lib.hid hr
      clear hr
      go_enter Try.func12, Try.ntmps12
      go_wp2_with fail
      refine (szCellS_at a len cap xs _ HA.out).mono ?_
      rintro e w1 ⟨m, rfl, hm, hb1⟩
      have A1 := Lib.hid (HA.out.below hb1)
      have B1 := Lib.hid hb1
      clear hb1
      rcases hm with rfl | ⟨hm0, hfew⟩
      · go_wp2
        go_ret
        exact ⟨rfl, B1.out⟩
      · have hmn : ¬ (m < 0) := by omega
        go_wp2_with fail
        refine (toCellS_at a len cap xs hfew _ A1.out).mono ?_
        rintro e w2 ⟨g, rfl, hg, hc2, hb2⟩
        have C2 := Lib.hid (hc2.row HL.out)
        have A2 := Lib.hid (A1.out.below hb2)
        have B2 := Lib.hid (B1.out.trans (hb2.mono B1.out.size))
        clear hc2 hb2
        go_wp2_with fail
        refine (specNewest _ len len xs a1 a2 a3 hfew HF.out _ C2.out).mono ?_
        rw [HN.out]
        intro e w3 h3
        obtain ⟨R, C, T, G, V, hrr, rfl, hb3⟩ := h3.form
        have HRR := Lib.hid hrr
        obtain ⟨b, hb⟩ : ∃ b, r.isSome = b := ⟨_, rfl⟩
        rw [hb]
        have HBB := Lib.hid hb
        have hbb : (b != b) = false := by simp
        have K3 := Lib.hid (one_below w3 (.cells #[.string R, .string C, .int .i64 T, .bool G, .string V] 30))
        have A3 := Lib.hid ((A2.out.below hb3).below K3.out)
        have B3 := Lib.hid ((B2.out.trans (hb3.mono B2.out.size)).trans (K3.out.mono (Nat.le_trans B2.out.size hb3.size)))
        have X3 := Lib.hid (one5_new w3 (.string R) (.string C) (.int .i64 T) (.bool G) (.string V) 30)
        clear h3 hrr hb hb3 K3
        go_wp2_with fail
        refine (toCellS_at a len cap xs hfew _ A3.out).mono ?_
        rintro e w4 ⟨g4, rfl, hg4, hc4, hb4⟩
        have C4 := Lib.hid (hc4.row HL.out)
        have A4 := Lib.hid (A3.out.below hb4)
        have B4 := Lib.hid (B3.out.trans (hb4.mono B3.out.size))
        have X4 := Lib.hid (X3.out.below hb4)
        clear hc4 hb4
        go_wp2_with fail
        refine (implNewest _ len len xs a1 a2 a3 hfew HF.out _ C4.out).mono ?_
        rw [HN.out]
        intro e w5 h5
        obtain ⟨R', C', T', G', V', hrr', rfl, hb5⟩ := h5.form
        rw [HRR.out] at hrr'
        cases hrr'
        rw [HBB.out]
        have K5 := Lib.hid (one_below w5 (.cells #[.string R, .string C, .int .i64 T, .bool G, .string V] 30))
        have C5 := Lib.hid ((C4.out.below hb5).below K5.out)
        have A5 := Lib.hid ((A4.out.below hb5).below K5.out)
        have B5 := Lib.hid ((B4.out.trans (hb5.mono B4.out.size)).trans (K5.out.mono (Nat.le_trans B4.out.size hb5.size)))
        have X5 := Lib.hid ((X4.out.below hb5).below K5.out)
        have Y5 := Lib.hid (one5_new w5 (.string R) (.string C) (.int .i64 T) (.bool G) (.string V) 30)
        clear h5 hb5 K5
        have X5o := X5.out
        unfold One5 at X5o
        obtain ⟨f0, f1, f2, f3, f4⟩ := X5o
        go_wp2_with fail
        refine (eqCell_same R C T G V _).mono ?_
        rintro e w6 ⟨rfl, hb6⟩
        have C6 := Lib.hid (C5.out.below hb6)
        have A6 := Lib.hid (A5.out.below hb6)
        have B6 := Lib.hid (B5.out.trans (hb6.mono B5.out.size))
        clear hb6 f0 f1 f2 f3 f4
        go_wp2_with fail
        refine (toCellS_at a len cap xs hfew _ A6.out).mono ?_
        rintro e w7 ⟨g7, rfl, hg7, hc7, hb7⟩
        have C7 := Lib.hid (C6.out.below hb7)
        have D7 := Lib.hid (hc7.row HL.out)
        have B7 := Lib.hid (B6.out.trans (hb7.mono B6.out.size))
        clear hc7 hb7
        go_wp2_with fail
        refine (eqCellS_same _ _ len len len xs hfew _ C7.out D7.out).mono ?_
        rintro e w8 ⟨rfl, hb8⟩
        have B8 := Lib.hid (B7.out.trans (hb8.mono B7.out.size))
        clear hb8
        go_wp2
        go_ret
        exact ⟨rfl, B8.out⟩
    · go_enter Try.func12, Try.ntmps12
      go_wp2
      go_ret
      exact ⟨rfl, Below.refl _ _⟩
  · go_enter Try.func12, Try.ntmps12
    go_wp2
    go_ret
    exact ⟨rfl, Below.refl _ _⟩
end Go.Proofs.Ytejoiaijlaaekaa
