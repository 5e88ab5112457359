/- The program's GetBlock, at every argument. -/
import Derived.Test.YtgonnibakkabjaaGetBlockI
import Derived.Test.YtgonnibakkabjaaCellS
import Derived.Test.YtgonnibakkabjaaOwnCel
import Derived.Test.YtgonnibakkabjaaPutBlockS
import Derived.Test.YtgonnibakkabjaaFixA
namespace Go.Proofs.Ytgonnibakkabjaa
open Go.RowKit Go.Shelf
set_option linter.unusedVariables false

theorem getFix_bd2 (l : List UInt8) (a : Int) : -1 ≤ getFix l a 2 ∧ getFix l a 2 ≤ 65535 := by
  unfold getFix
  split
  · have h1 := fixVal_lt ((l.drop a.toNat).take (2 : Int).toNat)
    have h2 : ((l.drop a.toNat).take (2 : Int).toNat).length ≤ 2 := List.length_take_le _ _
    have h3 : 2 ^ (8 * ((l.drop a.toNat).take (2 : Int).toNat).length) ≤ 2 ^ 16 := Nat.pow_le_pow_right (by omega) (by omega)
    omega
  · omega

set_option maxRecDepth 100000 in
set_option maxHeartbeats 1000000 in
theorem implGetBlock (s : ByteArray) (every : Int) (hs : s.size ≤ 1048576) (w : World) :
    Calls Try.prog 16 #[.string s, .int .i64 every] w (GotOut w s.data.toList every) := by
  have hll : s.data.toList.length = s.size := by simp
  obtain ⟨z, hz⟩ : ∃ z, getFix s.data.toList ((s.data.toList.length : Int) - 2) 2 = z := ⟨_, rfl⟩
  have hzb := getFix_bd2 s.data.toList ((s.data.toList.length : Int) - 2)
  rw [hz] at hzb
  obtain ⟨z1, z2⟩ := hzb
  by_cases hno : z < 0 ∨ (s.size : Int) - 2 * (z + 1) < 0
  · have HG := Lib.hid (show Got s.data.toList every [] false from got_no (by rw [hz, hll]; exact hno))
    rw [hll] at hz
    have HZ := Lib.hid hz
    have B0 := Lib.hid (two_below0 w (.cells #[.slice none 0 0] 24) (.cells #[.bool false] 4))
    have TN := Lib.hid (two_new w)
    clear hz hll
    by_cases h0 : z < 0
    · obtain rfl : z = -1 := by omega
      clear hno z1 z2 h0
      go_enter Try.func16, Try.ntmps16
      go_wp2_with fail
      refine (implGetFix s ((s.size : Int) - 2) 2 _ (by unfold maxLen; omega)).mono ?_
      rw [HZ.out]
      rintro e w1 ⟨rfl, hb1⟩
      have k4 := (hb1.block _ (Array.getElem?_eq_some_iff.1 TN.out.1).1).trans TN.out.1
      have k5 := (hb1.block _ (Array.getElem?_eq_some_iff.1 TN.out.2).1).trans TN.out.2
      have B1 := Lib.hid (B0.out.trans (hb1.mono B0.out.size))
      have K4 := Lib.hid k4
      have K5 := Lib.hid k5
      obtain ⟨y0, y1⟩ := blk1 k4
      obtain ⟨x0, x1⟩ := blk1 k5
      clear hb1 k4 k5
      go_wp2
      refine bodyPost_ret (v := .tuple #[.slice none 0 0, .bool false]) (res_two Try.results16 _ _ w.heap.size (w.heap.size + 1) rfl rfl (load_list (fr := (0, 0)) ?_) (load_bool (fr := (0, 0)) ?_)) rfl ⟨_, [], false, rfl, HG.out, own_nil _ _, (B1.out.setCell (Nat.le_refl _) _).setCell (show w.heap.size ≤ w.heap.size + 1 by omega) _⟩
      · rw [Below.heap_setCell _ _ _ _ (show w.heap.size ≠ w.heap.size + 1 by omega), set_block _ K4.out]
        rfl
      · rw [set_block (w := w1.setCell ⟨w.heap.size, 0, none⟩ (.slice none 0 0)) _ ((Below.heap_setCell _ _ _ _ (show w.heap.size + 1 ≠ w.heap.size by omega)).trans K5.out)]
        rfl
    · obtain ⟨q, rfl⟩ := Int.eq_ofNat_of_zero_le (by omega : 0 ≤ z)
      have g1 : ¬ (q : Int) < 0 := by omega
      have g2 : (s.size : Int) - 2 * ((q : Int) + 1) < 0 := by omega
      clear hno h0
      go_enter Try.func16, Try.ntmps16
      go_wp2_with fail
      refine (implGetFix s ((s.size : Int) - 2) 2 _ (by unfold maxLen; omega)).mono ?_
      rw [HZ.out]
      rintro e w1 ⟨rfl, hb1⟩
      have k4 := (hb1.block _ (Array.getElem?_eq_some_iff.1 TN.out.1).1).trans TN.out.1
      have k5 := (hb1.block _ (Array.getElem?_eq_some_iff.1 TN.out.2).1).trans TN.out.2
      have B1 := Lib.hid (B0.out.trans (hb1.mono B0.out.size))
      have K4 := Lib.hid k4
      have K5 := Lib.hid k5
      obtain ⟨y0, y1⟩ := blk1 k4
      obtain ⟨x0, x1⟩ := blk1 k5
      clear hb1 k4 k5
      go_wp2
      refine bodyPost_ret (v := .tuple #[.slice none 0 0, .bool false]) (res_two Try.results16 _ _ w.heap.size (w.heap.size + 1) rfl rfl (load_list (fr := (0, 0)) ?_) (load_bool (fr := (0, 0)) ?_)) rfl ⟨_, [], false, rfl, HG.out, own_nil _ _, (B1.out.setCell (Nat.le_refl _) _).setCell (show w.heap.size ≤ w.heap.size + 1 by omega) _⟩
      · rw [Below.heap_setCell _ _ _ _ (show w.heap.size ≠ w.heap.size + 1 by omega), set_block _ K4.out]
        rfl
      · rw [set_block (w := w1.setCell ⟨w.heap.size, 0, none⟩ (.slice none 0 0)) _ ((Below.heap_setCell _ _ _ _ (show w.heap.size + 1 ≠ w.heap.size by omega)).trans K5.out)]
        rfl
  · obtain ⟨q, rfl⟩ := Int.eq_ofNat_of_zero_le (by omega : 0 ≤ z)
    exact callsIn_wide.1 (implGetBlock_in s every hs q (s.size - 2 * (q + 1)) hz (by omega) w)
end Go.Proofs.Ytgonnibakkabjaa
/- The model's GetBlock. -/
namespace Go.Proofs.Ytgonnibakkabjaa
open Go.RowKit
set_option linter.unusedVariables false

/-- Where the model's reading stands. -/
def At3 (l : List UInt8) (ys : List Cel) (L : List UInt8) (i : Int) : Prop := (∃ a : Nat, i = a ∧ Rd l ys L a) ∨ (i = -1 ∧ Ended l ys)

set_option maxRecDepth 100000 in
set_option maxHeartbeats 2000000 in
theorem specGetBlock_in (s : ByteArray) (every : Int) (hs : s.size ≤ 1048576) (q n : Nat) (hq : getFix s.data.toList ((s.data.toList.length : Int) - 2) 2 = (q : Int)) (hn : n + 2 * (q + 1) = s.size) (w : World) :
    Calls Try.prog 20 #[.string s, .int .i64 every] w (GotOut w s.data.toList every) := by
  have hll : s.data.toList.length = s.size := by simp
  rw [hll] at hq
  have HQ := Lib.hid hq
  have HLL := Lib.hid hll
  clear hq hll
  have O0 := Lib.hid (show OwnC w.heap.size (w.alloc (.cells #[] 38)) (.slice (some ⟨w.heap.size, 0, none⟩) 0 0) [] from World.ownsRow_made w #[] 0 (Nat.le_refl _) (by unfold maxLen; omega) (by simp))
  have B0 := Lib.hid (one_below w (.cells #[] 38))
  obtain ⟨T, hT⟩ : ∃ T, s.extract 0 n = T := ⟨_, rfl⟩
  have HTS := Lib.hid (show T.size = n by rw [← hT, ByteArray.size_extract]; omega)
  have HTL := Lib.hid (show T.data.toList = s.data.toList.take n by rw [← hT]; have := part_text s 0 n; rwa [Nat.zero_add, List.drop_zero] at this)
  have HTT := Lib.hid (show T.data.toList.length = n by have := HTS.out; simpa using this)
  have HT := Lib.hid hT
  clear hT
  go_enter Try.func20, Try.ntmps20
  go_wp2_with fail
  refine (specGetFix s ((s.size : Int) - 2) 2 _ (by unfold maxLen; omega) (by omega)).mono ?_
  rw [HQ.out]
  rintro e w1 ⟨rfl, hb1⟩
  have O1 := Lib.hid (O0.out.below hb1)
  have B1 := Lib.hid (B0.out.trans (hb1.mono B0.out.size))
  clear hb1
  have a1 : ¬ (q : Int) < 0 := by omega
  have a2 : ¬ (n : Int) < 0 := by omega
  have a3 : (s.size : Int) - 2 - 2 * (q : Int) = (n : Int) := by omega
  have a4 : (n : Int) ≤ (s.size : Int) := by omega
  go_wp2_with fail
  go_loopw [6, 9, 10] (fun v lv iv wr => ∃ (ys : List Cel) (L : ByteArray) (i : Int), lv = .string L ∧ iv = .int .i64 i ∧ -1 ≤ i ∧ i ≤ n ∧ ys.length ≤ 51 ∧ Hid (OwnC w.heap.size wr v ys ∧ Below w.heap.size w wr ∧ At3 T.data.toList ys L.data.toList i))
    (fun _ _ iv _ => match iv with | .int _ i => (if i < 0 then 0 else n + 1 - i.toNat) | _ => 0)
  case atStart => exact ⟨[], ⟨#[]⟩, 0, rfl, rfl, by omega, by omega, by simp, ⟨O1.out, B1.out, .inl ⟨0, rfl, Rd.nil⟩⟩⟩
  case round =>
    obtain ⟨ys, L, i, rfl, rfl, hi1, hi2, hyl, HX⟩ := hrel
    obtain ⟨ad, cap, hv⟩ := own_slice HX.out.1
    rename_i v0 _
    subst hv
    by_cases hgo : 0 ≤ i ∧ i < n ∧ ys.length ≤ 50
    · obtain ⟨hg1, hg2, hg3⟩ := hgo
      obtain ⟨a, rfl⟩ := Int.eq_ofNat_of_zero_le hg1
      have c1 : ¬ (a : Int) < 0 := by omega
      have c2 : (a : Int) < (n : Int) := by omega
      have c3 : (ys.length : Int) ≤ 50 := by omega
      have HRD := Lib.hid (show Rd T.data.toList ys L.data.toList a by
        rcases HX.out.2.2 with ⟨a', e, h⟩ | ⟨e, _⟩
        · obtain rfl : a = a' := by omega
          exact h
        · omega)
      have HLA := Lib.hid (show L.size ≤ a by have h1 := (rd_len HRD.out).1; have h2 : L.data.toList.length = L.size := by simp
                                              omega)
      have hT := HT.out
      go_wp2_with fail
      clear hT
      refine (specl05Cell T a L (by have := HTS.out; omega) HLA.out _).mono ?_
      rintro e w2 ⟨R, C, t, G, V, Kk, nx, rfl, hb2, hst⟩
      have O2 := Lib.hid (HX.out.1.below hb2)
      have B2 := Lib.hid (HX.out.2.1.trans (hb2.mono HX.out.2.1.size))
      have HST := Lib.hid hst
      have hnx : nx = -1 ∨ ∃ a' : Nat, nx = a' ∧ a < a' ∧ a' ≤ n := by
        rcases hst with ⟨h, _⟩ | ⟨a', h, st⟩
        · exact .inl h
        · have := step_len st (rd_len HRD.out).1
          have := HTT.out
          exact .inr ⟨a', h, by omega, by omega⟩
      clear hb2 hst HX
      have N5 := Lib.hid (new5 w2 R C t G V)
      have O3 := Lib.hid (O2.out.new (.cells #[.string R, .string C, .int .i64 t, .bool G, .string V] 38))
      have B3 := Lib.hid (B2.out.trans ((one_below w2 (.cells #[.string R, .string C, .int .i64 t, .bool G, .string V] 38)).mono B2.out.size))
      rcases hnx with rfl | ⟨a', rfl, hlt, hle⟩
      · have HEN := Lib.hid (show Ended T.data.toList ys by
          rcases HST.out with ⟨_, h⟩ | ⟨a', h, _⟩
          · exact ⟨_, _, HRD.out, .inl h⟩
          · omega)
        go_wp2_with fail
        go_roundw
        case rel => exact ⟨ys, Kk, -1, rfl, rfl, by omega, by omega, hyl, ⟨O3.out, B3.out, .inr ⟨rfl, HEN.out⟩⟩⟩
        case measure =>
          show (if (-1 : Int) < 0 then 0 else n + 1 - (-1 : Int).toNat) < (if (a : Int) < 0 then 0 else n + 1 - (a : Int).toNat)
          rw [if_pos (by omega), if_neg (by omega)]
          omega
      · have d1 : ¬ (a' : Int) < 0 := by omega
        have d2 : (0 : Int) ≤ (a' : Int) := by omega
        have HR2 := Lib.hid (show Rd T.data.toList (ys ++ [⟨R, C, t, G, V⟩]) Kk.data.toList a' by
          rcases HST.out with ⟨h, _⟩ | ⟨a2, h, st⟩
          · omega
          · obtain rfl : a' = a2 := by omega
            exact HRD.out.snoc st)
        have x5 := one5_new w2 (.string R) (.string C) (.int .i64 t) (.bool G) (.string V) 38
        unfold One5 at x5
        obtain ⟨b0, b1, b2, b3, b4⟩ := x5
        have n5 := new5 (w2.alloc (.cells #[.string R, .string C, .int .i64 t, .bool G, .string V] 38)) R C t G V
        simp only [World.size_alloc] at n5
        have N6 := Lib.hid n5
        have O4 := Lib.hid (O3.out.new (.cells #[.string R, .string C, .int .i64 t, .bool G, .string V] 38))
        have B4 := Lib.hid (B3.out.trans ((one_below (w2.alloc (.cells #[.string R, .string C, .int .i64 t, .bool G, .string V] 38)) (.cells #[.string R, .string C, .int .i64 t, .bool G, .string V] 38)).mono B3.out.size))
        clear n5 HST
        go_wp2_with (at_builtin; refine wpList_plain rfl (fun K hK => ?_); refine op_pushC [⟨R, C, t, G, V⟩] _ _ rfl rfl rfl rfl N6.out O4.out B4.out.size (by simp; omega) ?_; intro v7 w7 o7 gr7; refine hK _ _ ?_; clear hK K; have L7 := Lib.hid (B4.out.grown gr7 B4.out.size (fun q e => (O4.out.lt e).1)); have O7 := Lib.hid o7; clear o7 gr7)
        go_roundw
        case rel => exact ⟨ys ++ [⟨R, C, t, G, V⟩], Kk, a', rfl, rfl, by omega, by omega, by simp; omega, ⟨O7.out, L7.out, .inl ⟨a', rfl, HR2.out⟩⟩⟩
        case measure =>
          show (if (a' : Int) < 0 then 0 else n + 1 - (a' : Int).toNat) < (if (a : Int) < 0 then 0 else n + 1 - (a : Int).toNat)
          rw [if_neg (by omega), if_neg (by omega)]
          omega
    · have hr : (∃ key a, Rd T.data.toList ys key a ∧ 50 < ys.length) ∨ Ended T.data.toList ys := by
        rcases HX.out.2.2 with ⟨a, rfl, h⟩ | ⟨_, h⟩
        · by_cases h50 : 50 < ys.length
          · exact .inl ⟨_, _, h, h50⟩
          · right
            have hl := (rd_len h).2.1
            rw [HTT.out] at hl
            have ha : a = n := by omega
            refine ⟨_, _, h, .inl (step_no ?_)⟩
            rw [ha]
            have := rd_end T.data.toList
            rwa [HTT.out] at this
        · exact .inr h
      have HFT := Lib.hid (show Fit ys by
        rcases hr with ⟨_, _, h, _⟩ | ⟨_, _, h, _⟩ <;> exact rd_fit h (by rw [HTT.out]; omega))
      rw [HTL.out] at hr
      have HG := Lib.hid (got_of (s := s.data.toList) (every := every) (q := q) (n := n) (by rw [HLL.out]; exact HQ.out) (by rw [HLL.out]; exact hn) hr)
      clear hr
      have O2 := Lib.hid HX.out.1
      have B2 := Lib.hid HX.out.2.1
      clear HX
      obtain ⟨A, hA, _⟩ := text_of (putBlock ys every)
      have HAT := Lib.hid (as_text hA)
      have HA := Lib.hid hA
      clear hA
      rcases (show i < 0 ∨ (0 ≤ i ∧ (n : Int) ≤ i) ∨ (0 ≤ i ∧ i < n ∧ 50 < ys.length) by omega) with hc | ⟨hc1, hc2⟩ | ⟨hc1, hc2, hc3⟩
      · have hc3 : ¬ 0 ≤ i := by omega
        go_wp2_with fail
        refine (specPutBlock ad ys.length cap ys every (by omega) HFT.out _ O2.out.row).mono ?_
        rintro e w6 ⟨rfl, hb6⟩
        rw [HAT.out]
        have O6 := Lib.hid (O2.out.below hb6)
        have B6 := Lib.hid (B2.out.trans (hb6.mono B2.out.size))
        clear hb6
        by_cases heq : putBlock ys every = s.data.toList
        · have hAs : A = s := bytes_ext (by rw [HA.out, heq])
          have hsame : (A.toList == s.toList) = true := by rw [hAs]; exact same_beq s
          clear hAs
          have HGG := Lib.hid (HG.out.1 heq)
          go_wp2
          go_ret2
          exact ⟨_, ys, true, rfl, HGG.out, O6.out, B6.out⟩
        · have hoth := other_beq (A := A) (B := s) (by rw [HA.out]; exact heq)
          have HGG := Lib.hid (HG.out.2 heq)
          have O7 := Lib.hid (show OwnC w6.heap.size (w6.alloc (.cells #[] 38)) (.slice (some ⟨w6.heap.size, 0, none⟩) 0 0) [] from World.ownsRow_made w6 #[] 0 (Nat.le_refl _) (by unfold maxLen; omega) (by simp))
          have B7 := Lib.hid (B6.out.trans ((one_below w6 (.cells #[] 38)).mono B6.out.size))
          go_wp2
          go_ret2
          exact ⟨_, [], false, rfl, HGG.out, own_base O7.out B6.out.size, B7.out⟩
      · have hc3 : ¬ i < 0 := by omega
        have hc4 : ¬ i < (n : Int) := by omega
        go_wp2_with fail
        refine (specPutBlock ad ys.length cap ys every (by omega) HFT.out _ O2.out.row).mono ?_
        rintro e w6 ⟨rfl, hb6⟩
        rw [HAT.out]
        have O6 := Lib.hid (O2.out.below hb6)
        have B6 := Lib.hid (B2.out.trans (hb6.mono B2.out.size))
        clear hb6
        by_cases heq : putBlock ys every = s.data.toList
        · have hAs : A = s := bytes_ext (by rw [HA.out, heq])
          have hsame : (A.toList == s.toList) = true := by rw [hAs]; exact same_beq s
          clear hAs
          have HGG := Lib.hid (HG.out.1 heq)
          go_wp2
          go_ret2
          exact ⟨_, ys, true, rfl, HGG.out, O6.out, B6.out⟩
        · have hoth := other_beq (A := A) (B := s) (by rw [HA.out]; exact heq)
          have HGG := Lib.hid (HG.out.2 heq)
          have O7 := Lib.hid (show OwnC w6.heap.size (w6.alloc (.cells #[] 38)) (.slice (some ⟨w6.heap.size, 0, none⟩) 0 0) [] from World.ownsRow_made w6 #[] 0 (Nat.le_refl _) (by unfold maxLen; omega) (by simp))
          have B7 := Lib.hid (B6.out.trans ((one_below w6 (.cells #[] 38)).mono B6.out.size))
          go_wp2
          go_ret2
          exact ⟨_, [], false, rfl, HGG.out, own_base O7.out B6.out.size, B7.out⟩
      · have hc4 : ¬ i < 0 := by omega
        have hc5 : ¬ (ys.length : Int) ≤ 50 := by omega
        go_wp2_with fail
        refine (specPutBlock ad ys.length cap ys every (by omega) HFT.out _ O2.out.row).mono ?_
        rintro e w6 ⟨rfl, hb6⟩
        rw [HAT.out]
        have O6 := Lib.hid (O2.out.below hb6)
        have B6 := Lib.hid (B2.out.trans (hb6.mono B2.out.size))
        clear hb6
        by_cases heq : putBlock ys every = s.data.toList
        · have hAs : A = s := bytes_ext (by rw [HA.out, heq])
          have hsame : (A.toList == s.toList) = true := by rw [hAs]; exact same_beq s
          clear hAs
          have HGG := Lib.hid (HG.out.1 heq)
          go_wp2
          go_ret2
          exact ⟨_, ys, true, rfl, HGG.out, O6.out, B6.out⟩
        · have hoth := other_beq (A := A) (B := s) (by rw [HA.out]; exact heq)
          have HGG := Lib.hid (HG.out.2 heq)
          have O7 := Lib.hid (show OwnC w6.heap.size (w6.alloc (.cells #[] 38)) (.slice (some ⟨w6.heap.size, 0, none⟩) 0 0) [] from World.ownsRow_made w6 #[] 0 (Nat.le_refl _) (by unfold maxLen; omega) (by simp))
          have B7 := Lib.hid (B6.out.trans ((one_below w6 (.cells #[] 38)).mono B6.out.size))
          go_wp2
          go_ret2
          exact ⟨_, [], false, rfl, HGG.out, own_base O7.out B6.out.size, B7.out⟩
end Go.Proofs.Ytgonnibakkabjaa
/- The model's GetBlock, at every argument. -/
namespace Go.Proofs.Ytgonnibakkabjaa
open Go.RowKit
set_option linter.unusedVariables false

set_option maxRecDepth 100000 in
set_option maxHeartbeats 1000000 in
theorem specGetBlock (s : ByteArray) (every : Int) (hs : s.size ≤ 1048576) (w : World) :
    Calls Try.prog 20 #[.string s, .int .i64 every] w (GotOut w s.data.toList every) := by
  have hll : s.data.toList.length = s.size := by simp
  obtain ⟨z, hz⟩ : ∃ z, getFix s.data.toList ((s.data.toList.length : Int) - 2) 2 = z := ⟨_, rfl⟩
  have hzb := getFix_bd2 s.data.toList ((s.data.toList.length : Int) - 2)
  rw [hz] at hzb
  obtain ⟨z1, z2⟩ := hzb
  by_cases hno : z < 0 ∨ (s.size : Int) - 2 * (z + 1) < 0
  · have HG := Lib.hid (show Got s.data.toList every [] false from got_no (by rw [hz, hll]; exact hno))
    rw [hll] at hz
    have HZ := Lib.hid hz
    have O0 := Lib.hid (show OwnC w.heap.size (w.alloc (.cells #[] 38)) (.slice (some ⟨w.heap.size, 0, none⟩) 0 0) [] from World.ownsRow_made w #[] 0 (Nat.le_refl _) (by unfold maxLen; omega) (by simp))
    have B0 := Lib.hid (one_below w (.cells #[] 38))
    clear hz hll
    by_cases h0 : z < 0
    · obtain rfl : z = -1 := by omega
      clear hno z1 z2 h0
      go_enter Try.func20, Try.ntmps20
      go_wp2_with fail
      refine (specGetFix s ((s.size : Int) - 2) 2 _ (by unfold maxLen; omega) (by omega)).mono ?_
      rw [HZ.out]
      rintro e w1 ⟨rfl, hb1⟩
      have O1 := Lib.hid (O0.out.below hb1)
      have B1 := Lib.hid (B0.out.trans (hb1.mono B0.out.size))
      clear hb1
      go_wp2
      go_ret2
      exact ⟨_, [], false, rfl, HG.out, O1.out, B1.out⟩
    · obtain ⟨q, rfl⟩ := Int.eq_ofNat_of_zero_le (by omega : 0 ≤ z)
      have g1 : ¬ (q : Int) < 0 := by omega
      have g2 : (s.size : Int) - 2 - 2 * (q : Int) < 0 := by omega
      clear hno h0
      go_enter Try.func20, Try.ntmps20
      go_wp2_with fail
      refine (specGetFix s ((s.size : Int) - 2) 2 _ (by unfold maxLen; omega) (by omega)).mono ?_
      rw [HZ.out]
      rintro e w1 ⟨rfl, hb1⟩
      have O1 := Lib.hid (O0.out.below hb1)
      have B1 := Lib.hid (B0.out.trans (hb1.mono B0.out.size))
      clear hb1
      go_wp2
      go_ret2
      exact ⟨_, [], false, rfl, HG.out, O1.out, B1.out⟩
  · obtain ⟨q, rfl⟩ := Int.eq_ofNat_of_zero_le (by omega : 0 ≤ z)
    exact specGetBlock_in s every hs q (s.size - 2 * (q + 1)) hz (by omega) w
end Go.Proofs.Ytgonnibakkabjaa
