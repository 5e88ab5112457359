/- The program's GetBlock, at every argument. -/
import Derived.Test.YtgonnibakkabjaaGetBlockI
namespace Go.Proofs.Ytgonnibakkabjaa
open Go.RowKit Go.Shelf
set_option linter.unusedVariables false

theorem getFix_bd2 (l : List UInt8) (a : Int) : -1 ≤ getFix l a 2 ∧ getFix l a 2 ≤ 65535 := by
  unfold getFix
  split
  · have h1 := fixVal_lt ((l.drop a.toNat).take (2 : Int).toNat)
    have h2 : ((l.drop a.toNat).take (2 : Int).toNat).length ≤ 2 := List.length_take_le _ _
    have h3 : 2 ^ (8 * ((l.drop a.toNat).take (2 : Int).toNat).length) ≤ 2 ^ 16 := Nat.pow_le_pow_right (by omega) (by omega)
    omega
  · omega

set_option maxRecDepth 100000 in
set_option maxHeartbeats 1000000 in
theorem implGetBlock (s : ByteArray) (every : Int) (hs : s.size ≤ 1048576) (w : World) :
    Calls Try.prog 16 #[.string s, .int .i64 every] w (GotOut w s.data.toList every) := by
  have hll : s.data.toList.length = s.size := by simp
  obtain ⟨z, hz⟩ : ∃ z, getFix s.data.toList ((s.data.toList.length : Int) - 2) 2 = z := ⟨_, rfl⟩
  have hzb := getFix_bd2 s.data.toList ((s.data.toList.length : Int) - 2)
  rw [hz] at hzb
  obtain ⟨z1, z2⟩ := hzb
  by_cases hno : z < 0 ∨ (s.size : Int) - 2 * (z + 1) < 0
  · have HG := Lib.hid (show Got s.data.toList every [] false from got_no (by rw [hz, hll]; exact hno))
    rw [hll] at hz
    have HZ := Lib.hid hz
    have B0 := Lib.hid (two_below0 w (.cells #[.slice none 0 0] 24) (.cells #[.bool false] 4))
    have TN := Lib.hid (two_new w)
    clear hz hll
    by_cases h0 : z < 0
    · obtain rfl : z = -1 := by omega
      clear hno z1 z2 h0
      go_enter Try.func16, Try.ntmps16
      go_wp2_with fail
      refine (implGetFix s ((s.size : Int) - 2) 2 _ (by unfold maxLen; omega)).mono ?_
      rw [HZ.out]
      rintro e w1 ⟨rfl, hb1⟩
      have k4 := (hb1.block _ (Array.getElem?_eq_some_iff.1 TN.out.1).1).trans TN.out.1
      have k5 := (hb1.block _ (Array.getElem?_eq_some_iff.1 TN.out.2).1).trans TN.out.2
      have B1 := Lib.hid (B0.out.trans (hb1.mono B0.out.size))
      have K4 := Lib.hid k4
      have K5 := Lib.hid k5
      obtain ⟨y0, y1⟩ := blk1 k4
      obtain ⟨x0, x1⟩ := blk1 k5
      clear hb1 k4 k5
      go_wp2
      refine bodyPost_ret (v := .tuple #[.slice none 0 0, .bool false]) (res_two Try.results16 _ _ w.heap.size (w.heap.size + 1) rfl rfl (load_list (fr := (0, 0)) ?_) (load_bool (fr := (0, 0)) ?_)) rfl ⟨_, [], false, rfl, HG.out, own_nil _ _, (B1.out.setCell (Nat.le_refl _) _).setCell (show w.heap.size ≤ w.heap.size + 1 by omega) _⟩
      · rw [Below.heap_setCell _ _ _ _ (show w.heap.size ≠ w.heap.size + 1 by omega), set_block _ K4.out]
        rfl
      · rw [set_block (w := w1.setCell ⟨w.heap.size, 0, none⟩ (.slice none 0 0)) _ ((Below.heap_setCell _ _ _ _ (show w.heap.size + 1 ≠ w.heap.size by omega)).trans K5.out)]
        rfl
    · obtain ⟨q, rfl⟩ := Int.eq_ofNat_of_zero_le (by omega : 0 ≤ z)
      have g1 : ¬ (q : Int) < 0 := by omega
      have g2 : (s.size : Int) - 2 * ((q : Int) + 1) < 0 := by omega
      clear hno h0
      go_enter Try.func16, Try.ntmps16
      go_wp2_with fail
      refine (implGetFix s ((s.size : Int) - 2) 2 _ (by unfold maxLen; omega)).mono ?_
      rw [HZ.out]
      rintro e w1 ⟨rfl, hb1⟩
      have k4 := (hb1.block _ (Array.getElem?_eq_some_iff.1 TN.out.1).1).trans TN.out.1
      have k5 := (hb1.block _ (Array.getElem?_eq_some_iff.1 TN.out.2).1).trans TN.out.2
      have B1 := Lib.hid (B0.out.trans (hb1.mono B0.out.size))
      have K4 := Lib.hid k4
      have K5 := Lib.hid k5
      obtain ⟨y0, y1⟩ := blk1 k4
      obtain ⟨x0, x1⟩ := blk1 k5
      clear hb1 k4 k5
      go_wp2
      refine bodyPost_ret (v := .tuple #[.slice none 0 0, .bool false]) (res_two Try.results16 _ _ w.heap.size (w.heap.size + 1) rfl rfl (load_list (fr := (0, 0)) ?_) (load_bool (fr := (0, 0)) ?_)) rfl ⟨_, [], false, rfl, HG.out, own_nil _ _, (B1.out.setCell (Nat.le_refl _) _).setCell (show w.heap.size ≤ w.heap.size + 1 by omega) _⟩
      · rw [Below.heap_setCell _ _ _ _ (show w.heap.size ≠ w.heap.size + 1 by omega), set_block _ K4.out]
        rfl
      · rw [set_block (w := w1.setCell ⟨w.heap.size, 0, none⟩ (.slice none 0 0)) _ ((Below.heap_setCell _ _ _ _ (show w.heap.size + 1 ≠ w.heap.size by omega)).trans K5.out)]
        rfl
  · obtain ⟨q, rfl⟩ := Int.eq_ofNat_of_zero_le (by omega : 0 ≤ z)
    exact callsIn_wide.1 (implGetBlock_in s every hs q (s.size - 2 * (q + 1)) hz (by omega) w)
end Go.Proofs.Ytgonnibakkabjaa
