/- The walk of the law FnKey: keys come back. -/
import Derived.Test.YtejoiaijlaaekaaDrawKey
import Derived.Test.YtejoiaijlaaekaaReadKeyS
import Derived.Test.YtejoiaijlaaekaaBig
namespace Go.Proofs.Ytejoiaijlaaekaa
open Go.RowKit
set_option linter.unusedVariables false

theorem read_small {l r c : List UInt8} {t : Int} (h : ReadIs l r c t) : r.length ≤ 16 ∧ c.length ≤ 16 ∧ -1 ≤ t ∧ t ≤ 1000000000 := by
  rcases h with ⟨h1, _⟩ | ⟨rfl, rfl, rfl, _⟩
  · obtain ⟨a1, a2, a3⟩ := keyOk_parts h1
    have := time_bd a3
    exact ⟨(name_parts a1).2.2, (name_parts a2).2.2, by omega, by omega⟩
  · simp
theorem list_size {S : ByteArray} {n : Nat} (h : S.data.toList.length ≤ n) : S.size ≤ n := by simpa using h
theorem same_no (K : ByteArray) : (!K.toList == K.toList) = false := by simp
theorem same_yes (K : ByteArray) : (K.toList == K.toList) = true := by simp

set_option maxHeartbeats 2000000 in
set_option maxRecDepth 100000 in
theorem fnKey_walk (a0 : Option Addr) (len0 cap0 : Nat) (z0 : List Int) (w : World) (w0 : IsRow .u8 w a0 len0 cap0 z0) :
    Calls Try.prog 3 #[.slice a0 len0 cap0] w fun e w' => e = .returned (.bool true) ∧ Below w.heap.size w w' := by
  have HR := Lib.hid (bytes_of_row w0 w.heap.size (Nat.le_refl _))
  clear w0
  by_cases hbig : len0 ≤ 1048576
  · go_enter Try.func3, Try.ntmps3
    go_wp2_with fail
    refine (big_no a0 len0 cap0 _ hbig).mono ?_
    rintro e w1 ⟨rfl, rfl⟩
    go_wp2_with fail
    refine (drawKeyOf_at a0 len0 cap0 z0 _ HR.out).mono ?_
    rintro e w1 ⟨R, C, t, hR, hC, ht0, ht1, rfl, b1⟩
    have B1 := Lib.hid b1
    have HR1 := Lib.hid (below_bytes HR.out b1)
    have hR' : R.size ≤ maxLen := Nat.le_trans hR (by unfold maxLen; omega)
    have hC' : C.size ≤ maxLen := Nat.le_trans hC (by unfold maxLen; omega)
    clear b1
    go_wp2_with fail
    refine (implKeyOf R C t hR' hC' _).mono ?_
    intro e w2 h2
    obtain ⟨K, hK, hKz, rfl, b2⟩ := h2.text
    have HK := Lib.hid hK
    have HKZ := Lib.hid hKz
    have B2 := Lib.hid (B1.out.trans (b2.mono B1.out.size))
    have HR2 := Lib.hid (below_bytes HR1.out b2)
    clear h2 hK hKz b2
    go_wp2_with fail
    refine (drawReadKey_at a0 len0 cap0 z0 _ HR2.out).mono ?_
    rintro e w3 ⟨S, hS, rfl, b3⟩
    have B3 := Lib.hid (B2.out.trans (b3.mono B2.out.size))
    clear b3
    go_wp2_with fail
    refine (implReadKey S (by omega) _).mono ?_
    rintro e w4 ⟨A, B, c, hr4, rfl, b4⟩
    have R4 := Lib.hid hr4
    have B4 := Lib.hid (B3.out.trans (b4.mono B3.out.size))
    obtain ⟨hA16, hB16, hc0, hc1⟩ := read_small hr4
    have hAs : A.size ≤ 16 := list_size hA16
    have hBs : B.size ≤ 16 := list_size hB16
    clear hr4 b4 hA16 hB16
    go_wp2_with fail
    refine (specReadKey S (by omega) _).mono ?_
    rintro e w5 ⟨A', B', c', hr5, rfl, b5⟩
    have B5 := Lib.hid (B4.out.trans (b5.mono B4.out.size))
    obtain ⟨e1, e2, rfl⟩ := read_one hr5 R4.out
    obtain rfl : A' = A := bytes_ext e1
    obtain rfl : B' = B := bytes_ext e2
    clear hr5 b5 e1 e2
    go_wp2_with fail
    refine (specKeyOf R C t hR' hC' _).mono ?_
    intro e w6 h6
    obtain ⟨K', hK', hz6, rfl, b6⟩ := h6.text
    obtain rfl : K' = K := bytes_ext (by rw [hK', HK.out])
    have B6 := Lib.hid (B5.out.trans (b6.mono B5.out.size))
    clear h6 hK' hz6 b6
    have n1 := same_no K'
    have n2 := same_no A'
    have n3 := same_no B'
    have n4 : (c' != c') = false := by simp
    have hKs : K'.size ≤ 1000 := by
      rw [HKZ.out]
      unfold keyOf
      split
      · rw [key_len]; simp only [Array.length_toList, ByteArray.size_data]; omega
      · simp
    by_cases hc : 0 ≤ c'
    · go_wp2_with fail
      refine (implKeyOf A' B' c' (by unfold maxLen; omega) (by unfold maxLen; omega) _).mono ?_
      intro e w7 h7
      obtain ⟨K2, hK2, hz7, rfl, b7⟩ := h7.text
      obtain rfl : K2 = S := bytes_ext (by rw [hK2]; exact read_key R4.out hc)
      have B7 := Lib.hid (B6.out.trans (b7.mono B6.out.size))
      have n5 := same_no K2
      clear h7 hK2 hz7 b7
      go_wp2_with fail
      refine (implReadKey K' (by omega) _).mono ?_
      rintro e w8 ⟨x, y, z, hr8, rfl, b8⟩
      have B8 := Lib.hid (B7.out.trans (b8.mono B7.out.size))
      rw [HK.out] at hr8
      cases hok : keyOk R.data.toList C.data.toList t
      · have hkk : keyOf R.data.toList C.data.toList t = [] := keyOf_no hok
        have hK0 := HK.out
        rw [hkk] at hr8 hK0
        obtain ⟨e1, e2, e3⟩ := read_one hr8 read_empty
        have m1 : K'.toList.isEmpty = true := by rw [ByteArray.toList_eq, hK0]; rfl
        have m2 : x.toList.isEmpty = true := by rw [ByteArray.toList_eq, e1]; rfl
        have m3 : y.toList.isEmpty = true := by rw [ByteArray.toList_eq, e2]; rfl
        subst e3
        clear hr8 b8 hkk hK0 e1 e2 hok
        go_wp2
        go_ret
        exact ⟨rfl, B8.out⟩
      · obtain ⟨e1, e2, e3⟩ := read_one hr8 (read_back hok)
        obtain rfl : x = R := bytes_ext e1
        obtain rfl : y = C := bytes_ext e2
        subst e3
        have hkk := keyOf_yes hok
        have m1 : K'.toList.isEmpty = false := by rw [ByteArray.toList_eq, HK.out, hkk, List.isEmpty_eq_false_iff]; exact key_ne _ _ _
        have hz : K'.size = x.size + y.size + 6 := by rw [HKZ.out, hkk, key_len]; simp
        have y1 := same_yes x
        have y2 := same_yes y
        have hz2 : (K'.size : Int) = (x.size : Int) + (y.size : Int) + 6 := by omega
        clear hr8 b8 hkk e1 e2 hok hz
        go_wp2
        go_ret
        exact ⟨ret_bool (by simp), B8.out⟩
    · have hc' : ¬ 0 ≤ c' := hc
      go_wp2_with fail
      refine (implReadKey K' (by omega) _).mono ?_
      rintro e w8 ⟨x, y, z, hr8, rfl, b8⟩
      have B8 := Lib.hid (B6.out.trans (b8.mono B6.out.size))
      rw [HK.out] at hr8
      cases hok : keyOk R.data.toList C.data.toList t
      · have hkk : keyOf R.data.toList C.data.toList t = [] := keyOf_no hok
        have hK0 := HK.out
        rw [hkk] at hr8 hK0
        obtain ⟨e1, e2, e3⟩ := read_one hr8 read_empty
        have m1 : K'.toList.isEmpty = true := by rw [ByteArray.toList_eq, hK0]; rfl
        have m2 : x.toList.isEmpty = true := by rw [ByteArray.toList_eq, e1]; rfl
        have m3 : y.toList.isEmpty = true := by rw [ByteArray.toList_eq, e2]; rfl
        subst e3
        clear hr8 b8 hkk hK0 e1 e2 hok
        go_wp2
        go_ret
        exact ⟨rfl, B8.out⟩
      · obtain ⟨e1, e2, e3⟩ := read_one hr8 (read_back hok)
        obtain rfl : x = R := bytes_ext e1
        obtain rfl : y = C := bytes_ext e2
        subst e3
        have hkk := keyOf_yes hok
        have m1 : K'.toList.isEmpty = false := by rw [ByteArray.toList_eq, HK.out, hkk, List.isEmpty_eq_false_iff]; exact key_ne _ _ _
        have hz : K'.size = x.size + y.size + 6 := by rw [HKZ.out, hkk, key_len]; simp
        have y1 := same_yes x
        have y2 := same_yes y
        have hz2 : (K'.size : Int) = (x.size : Int) + (y.size : Int) + 6 := by omega
        clear hr8 b8 hkk e1 e2 hok hz
        go_wp2
        go_ret
        exact ⟨ret_bool (by simp), B8.out⟩
  · go_enter Try.func3, Try.ntmps3
    go_wp2_with fail
    refine (big_yes a0 len0 cap0 _ hbig).mono ?_
    rintro e w1 ⟨rfl, rfl⟩
    go_wp2
    go_ret
    exact ⟨rfl, Below.refl _ _⟩
end Go.Proofs.Ytejoiaijlaaekaa
