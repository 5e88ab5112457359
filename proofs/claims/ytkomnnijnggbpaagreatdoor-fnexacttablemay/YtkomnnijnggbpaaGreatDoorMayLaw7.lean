/- The walk of the law FnExactTableMay. -/
import Derived.Test.YtkomnnijnggbpaaGreatDoorScanGetI
namespace Go.Proofs.YtkomnnijnggbpaaGreatDoor
open Go.RowKit
set_option linter.unusedVariables false

set_option maxHeartbeats 1000000 in
theorem fnExactTableMay_walk (w : World) (a0 a1 a2 : ByteArray) (hL : ErrLaid w) :
   Calls Tryz.prog 11 #[.string a0, .string a1, .string a2] w fun e w' => e = .returned (.bool true) ∧ Below w.heap.size w w' := by
 have HL := Lib.hid hL
 have hl0 := hL.lt
 clear hL
 by_cases q0 : a0.size ≤ 1048576
 · by_cases q1 : a1.size ≤ 1048576
   · by_cases q2 : a2.size ≤ 1048576
     · obtain ⟨xs, cf, k, hT⟩ := tab_some a0.data.toList
       have HT := Lib.hid hT
       obtain ⟨b, hb⟩ : ∃ b, tabMay xs k a1.data.toList a2.data.toList = b := ⟨_, rfl⟩
       have HB := Lib.hid hb
       have hbb : (b != b) = false := by simp
       clear hT hb
       go_enter Tryz.func11, Tryz.ntmps11
       go_wp2_with fail
       refine (specTableMay a0 a1 a2 q0 q1 q2 xs cf k HT.out _).mono ?_
       rw [HB.out]
       rintro e w1 ⟨rfl, b1⟩
       have B1 := Lib.hid b1
       clear b1
       go_wp2_with fail
       refine (implTableMay a0 a1 a2 q0 q1 q2 xs cf k HT.out _ (HL.out.below B1.out hl0)).mono ?_
       rw [HB.out]
       rintro e w2 ⟨rfl, b2⟩
       have B2 := Lib.hid (B1.out.trans (b2.mono B1.out.size))
       clear b2
       go_wp2
       go_ret
       exact ⟨rfl, B2.out⟩
     · go_enter Tryz.func11, Tryz.ntmps11
       go_wp2
       go_ret
       exact ⟨rfl, Below.refl _ _⟩
   · go_enter Tryz.func11, Tryz.ntmps11
     go_wp2
     go_ret
     exact ⟨rfl, Below.refl _ _⟩
 · go_enter Tryz.func11, Tryz.ntmps11
   go_wp2
   go_ret
   exact ⟨rfl, Below.refl _ _⟩
end Go.Proofs.YtkomnnijnggbpaaGreatDoor
