/- The walks of the laws FnExactTableGet and FnExactTableScan. -/
import Derived.Test.YtkomnnijnggbpaaGreatDoorDelFun
import Derived.Test.YtkomnnijnggbpaaGreatDoorGetScanS
import Derived.Test.YtkomnnijnggbpaaGreatDoorCellEq
import Derived.Test.YtkomnnijnggbpaaGreatDoorZ8
import Derived.Test.YtkomnnijnggbpaaGreatDoorZ5
namespace Go.Proofs.YtkomnnijnggbpaaGreatDoor
open Go.RowKit
set_option linter.unusedVariables false

set_option maxHeartbeats 2000000 in
set_option maxRecDepth 100000 in
theorem fnExactTableScan_walk (w : World) (a0 a1 a2 : ByteArray) (hL : ErrLaid w) :
   Calls Tryz.prog 12 #[.string a0, .string a1, .string a2] w fun e w' => e = .returned (.bool true) ∧ Below w.heap.size w w' := by
 have HL := Lib.hid hL
 have hl0 := hL.lt
 clear hL
 by_cases q0 : a0.size ≤ 1048576
 · by_cases q1 : a1.size ≤ 1048576
   · by_cases q2 : a2.size ≤ 1048576
     · obtain ⟨xs, cf, k, hT⟩ := tab_some a0.data.toList
       have HT := Lib.hid hT
       obtain ⟨r, hr⟩ : ∃ r, xs.filter (between a1.data.toList a2.data.toList) = r := ⟨_, rfl⟩
       have HRR := Lib.hid hr
       have hlen : r.length ≤ 60 := by
         rw [← hr]
         exact Nat.le_trans (List.length_filter_le _ _) (tab_few hT).1
       clear hT hr
       go_enter Tryz.func12, Tryz.ntmps12
       go_wp2_with fail
       refine (specTableScan a0 a1 a2 q0 (by unfold maxLen; omega) (by unfold maxLen; omega) xs cf k HT.out _).mono ?_
       rw [HRR.out]
       rintro e w1 ⟨v0, rfl, ho1, hb1⟩
       obtain ⟨ad0, cap0, rfl⟩ := own_slice ho1
       obtain ⟨n, hn⟩ : ∃ n, r.length = n := ⟨_, rfl⟩
       have Y1 := Lib.hid ho1
       have B1 := Lib.hid hb1
       clear ho1 hb1
       rw [hn]
       go_wp2_with fail
       refine (implTableScan a0 a1 a2 q0 xs cf k HT.out _ (HL.out.below B1.out hl0)).mono ?_
       rw [HRR.out]
       rintro e w2 ⟨v1, rfl, ho2, hb2⟩
       obtain ⟨ad1, cap1, rfl⟩ := own_slice ho2
       rw [hn]
       have A2 := Lib.hid (Y1.out.below hb2)
       have R2 := Lib.hid ho2
       have B2 := Lib.hid hb2
       clear ho2 hb2
       have HN := Lib.hid hn
       rw [hn] at hlen
       clear hn
       go_wp2_with fail
       refine (eqCellS_same ad1 ad0 n cap1 cap0 r (by omega) _ (by have := R2.out.row; rwa [HN.out] at this) (by have := A2.out.row; rwa [HN.out] at this)).mono ?_
       rintro e w3 ⟨rfl, hb3⟩
       have R3 := Lib.hid (R2.out.below hb3)
       have B3 := Lib.hid (B2.out.trans (hb3.mono B2.out.size))
       clear hb3
       go_wp2_with fail
       refine (markCellS_at (.slice ad1 n cap1) 1 w1.heap.size r _ (by have := R3.out; unfold OwnC at this; rw [HN.out] at this ⊢; exact this) (by omega) (by rw [HN.out]; omega) B3.out.size).mono ?_
       rw [HN.out]
       rintro e w4 ⟨rfl, r4, b4⟩
       have Y4 := Lib.hid (And.intro r4 (B3.out.trans b4))
       clear r4 b4
       go_wp2_with fail
       refine (heldCellS_at (.slice ad1 n cap1) 1 _ n _ Y4.out.1 (by omega) (by omega)).mono ?_
       rintro e w5 ⟨rfl, b5⟩
       have Y5 := Lib.hid (And.intro (row5_below Y4.out.1 b5) (Y4.out.2.trans (b5.mono Y4.out.2.size)))
       clear b5
       go_wp2_with fail
       refine (implTableScan a0 a1 a2 q0 xs cf k HT.out _ (HL.out.below (B1.out.trans (Y5.out.2.mono B1.out.size)) hl0)).mono ?_
       rw [HRR.out]
       rintro e w6 ⟨v2, rfl, ho6, hb6⟩
       obtain ⟨ad2, cap2, rfl⟩ := own_slice ho6
       have Y6 := Lib.hid (And.intro (row5_below Y5.out.1 hb6) (Y5.out.2.trans (hb6.mono Y5.out.2.size)))
       have A6 := Lib.hid (Y1.out.below Y6.out.2)
       have R6 := Lib.hid ho6
       clear ho6 hb6
       rw [HN.out]
       go_wp2_with fail
       refine (eqCellS_same ad2 ad0 n cap2 cap0 r (by omega) _ (by have := R6.out.row; rwa [HN.out] at this) (by have := A6.out.row; rwa [HN.out] at this)).mono ?_
       rintro e w7 ⟨rfl, b7⟩
       have Y7 := Lib.hid (And.intro (row5_below Y6.out.1 b7) (Y6.out.2.trans (b7.mono Y6.out.2.size)))
       clear b7
       go_wp2_with fail
       refine (heldCellS_at (.slice ad1 n cap1) 1 _ n _ Y7.out.1 (by omega) (by omega)).mono ?_
       rintro e w8 ⟨rfl, b8⟩
       have Y8 := Lib.hid (B1.out.trans ((Y7.out.2.trans (b8.mono Y7.out.2.size)).mono B1.out.size))
       clear b8
       go_wp2
       go_ret
       exact ⟨rfl, Y8.out⟩
     · go_enter Tryz.func12, Tryz.ntmps12
       go_wp2
       go_ret
       exact ⟨rfl, Below.refl _ _⟩
   · go_enter Tryz.func12, Tryz.ntmps12
     go_wp2
     go_ret
     exact ⟨rfl, Below.refl _ _⟩
 · go_enter Tryz.func12, Tryz.ntmps12
   go_wp2
   go_ret
   exact ⟨rfl, Below.refl _ _⟩
set_option maxHeartbeats 2000000 in
set_option maxRecDepth 100000 in
theorem fnExactTableGet_walk (w : World) (a0 a1 a2 : ByteArray) (a3 : Int) (hL : ErrLaid w) :
   Calls Tryz.prog 10 #[.string a0, .string a1, .string a2, .int .i64 a3] w fun e w' => e = .returned (.bool true) ∧ Below w.heap.size w w' := by
 have HL := Lib.hid hL
 have hl0 := hL.lt
 clear hL
 by_cases q0 : a0.size ≤ 1048576
 · by_cases q1 : a1.size ≤ 1048576
   · by_cases q2 : a2.size ≤ 1048576
     · obtain ⟨xs, cf, k, hT⟩ := tab_some a0.data.toList
       have HT := Lib.hid hT
       obtain ⟨r, hr⟩ : ∃ r, newest xs a1.data.toList a2.data.toList a3 = r := ⟨_, rfl⟩
       have HN := Lib.hid hr
       clear hT hr
       go_enter Tryz.func10, Tryz.ntmps10
       go_wp2_with fail
       refine (specTableGet a0 a1 a2 a3 q0 xs cf k HT.out _).mono ?_
       rw [HN.out]
       intro e w3 h3
       obtain ⟨R, C, T, G, V, hrr, rfl, hb3⟩ := h3.form
       have HRR := Lib.hid hrr
       obtain ⟨b, hb⟩ : ∃ b, r.isSome = b := ⟨_, rfl⟩
       rw [hb]
       have HBB := Lib.hid hb
       have hbb : (b != b) = false := by simp
       have K3 := Lib.hid (one_below w3 (.cells #[.string R, .string C, .int .i64 T, .bool G, .string V] 41))
       have B3 := Lib.hid (hb3.trans (K3.out.mono hb3.size))
       have X3 := Lib.hid (one5_new w3 (.string R) (.string C) (.int .i64 T) (.bool G) (.string V) 41)
       clear h3 hrr hb hb3 K3
       go_wp2_with fail
       refine (implTableGet a0 a1 a2 a3 q0 xs cf k HT.out _ (HL.out.below B3.out hl0)).mono ?_
       rw [HN.out]
       intro e w5 h5
       obtain ⟨R', C', T', G', V', hrr', rfl, hb5⟩ := h5.form
       rw [HRR.out] at hrr'
       cases hrr'
       rw [HBB.out]
       have K5 := Lib.hid (one_below w5 (.cells #[.string R, .string C, .int .i64 T, .bool G, .string V] 41))
       have B5 := Lib.hid ((B3.out.trans (hb5.mono B3.out.size)).trans (K5.out.mono (Nat.le_trans B3.out.size hb5.size)))
       have X5 := Lib.hid ((X3.out.below hb5).below K5.out)
       have Y5 := Lib.hid (one5_new w5 (.string R) (.string C) (.int .i64 T) (.bool G) (.string V) 41)
       clear h5 hb5 K5
       have X5o := X5.out
       unfold One5 at X5o
       obtain ⟨f0, f1, f2, f3, f4⟩ := X5o
       have Y5o := Y5.out
       unfold One5 at Y5o
       obtain ⟨g0, g1, g2, g3, g4⟩ := Y5o
       go_wp2_with fail
       refine (eqCell_same R C T G V _).mono ?_
       rintro e w6 ⟨rfl, hb6⟩
       have B6 := Lib.hid (B5.out.trans (hb6.mono B5.out.size))
       clear hb6 f0 f1 f2 f3 f4 g0 g1 g2 g3 g4
       go_wp2
       go_ret
       exact ⟨rfl, B6.out⟩
     · go_enter Tryz.func10, Tryz.ntmps10
       go_wp2
       go_ret
       exact ⟨rfl, Below.refl _ _⟩
   · go_enter Tryz.func10, Tryz.ntmps10
     go_wp2
     go_ret
     exact ⟨rfl, Below.refl _ _⟩
 · go_enter Tryz.func10, Tryz.ntmps10
   go_wp2
   go_ret
   exact ⟨rfl, Below.refl _ _⟩
end Go.Proofs.YtkomnnijnggbpaaGreatDoor
