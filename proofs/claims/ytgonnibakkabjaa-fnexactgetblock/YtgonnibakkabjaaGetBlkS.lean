/- The model's GetBlock, at every argument. -/
import Derived.Test.YtgonnibakkabjaaGetBlockS
namespace Go.Proofs.Ytgonnibakkabjaa
open Go.RowKit
set_option linter.unusedVariables false

set_option maxRecDepth 100000 in
set_option maxHeartbeats 1000000 in
theorem specGetBlock (s : ByteArray) (every : Int) (hs : s.size ≤ 1048576) (w : World) :
    Calls Try.prog 20 #[.string s, .int .i64 every] w (GotOut w s.data.toList every) := by
  have hll : s.data.toList.length = s.size := by simp
  obtain ⟨z, hz⟩ : ∃ z, getFix s.data.toList ((s.data.toList.length : Int) - 2) 2 = z := ⟨_, rfl⟩
  have hzb := getFix_bd2 s.data.toList ((s.data.toList.length : Int) - 2)
  rw [hz] at hzb
  obtain ⟨z1, z2⟩ := hzb
  by_cases hno : z < 0 ∨ (s.size : Int) - 2 * (z + 1) < 0
  · have HG := Lib.hid (show Got s.data.toList every [] false from got_no (by rw [hz, hll]; exact hno))
    rw [hll] at hz
    have HZ := Lib.hid hz
    have O0 := Lib.hid (show OwnC w.heap.size (w.alloc (.cells #[] 38)) (.slice (some ⟨w.heap.size, 0, none⟩) 0 0) [] from World.ownsRow_made w #[] 0 (Nat.le_refl _) (by unfold maxLen; omega) (by simp))
    have B0 := Lib.hid (one_below w (.cells #[] 38))
    clear hz hll
    by_cases h0 : z < 0
    · obtain rfl : z = -1 := by omega
      clear hno z1 z2 h0
      go_enter Try.func20, Try.ntmps20
      go_wp2_with fail
      refine (specGetFix s ((s.size : Int) - 2) 2 _ (by unfold maxLen; omega) (by omega)).mono ?_
      rw [HZ.out]
      rintro e w1 ⟨rfl, hb1⟩
      have O1 := Lib.hid (O0.out.below hb1)
      have B1 := Lib.hid (B0.out.trans (hb1.mono B0.out.size))
      clear hb1
      go_wp2
      go_ret2
      exact ⟨_, [], false, rfl, HG.out, O1.out, B1.out⟩
    · obtain ⟨q, rfl⟩ := Int.eq_ofNat_of_zero_le (by omega : 0 ≤ z)
      have g1 : ¬ (q : Int) < 0 := by omega
      have g2 : (s.size : Int) - 2 - 2 * (q : Int) < 0 := by omega
      clear hno h0
      go_enter Try.func20, Try.ntmps20
      go_wp2_with fail
      refine (specGetFix s ((s.size : Int) - 2) 2 _ (by unfold maxLen; omega) (by omega)).mono ?_
      rw [HZ.out]
      rintro e w1 ⟨rfl, hb1⟩
      have O1 := Lib.hid (O0.out.below hb1)
      have B1 := Lib.hid (B0.out.trans (hb1.mono B0.out.size))
      clear hb1
      go_wp2
      go_ret2
      exact ⟨_, [], false, rfl, HG.out, O1.out, B1.out⟩
  · obtain ⟨q, rfl⟩ := Int.eq_ofNat_of_zero_le (by omega : 0 ≤ z)
    exact specGetBlock_in s every hs q (s.size - 2 * (q + 1)) hz (by omega) w
end Go.Proofs.Ytgonnibakkabjaa
