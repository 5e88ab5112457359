/- Contracts of the model's ReadDec and of the program's: each tells the number whose decimal text the argument is, else -1. -/
import Derived.Test.YtibimjbnhgehoaaDoorDec
import Derived.Test.YtibimjbnhgehoaaDoorShelf
import Derived.Lib.SmallJoins
namespace Go.Proofs.YtibimjbnhgehoaaDoor
open Go.RowKit
set_option linter.unusedVariables false

def isDig (c : UInt8) : Bool := decide (48 ≤ c.toNat) && decide (c.toNat ≤ 57)
def decVal (l : List UInt8) : Nat := l.foldl (fun a c => 10 * a + (c.toNat - 48)) 0
def readDec (l : List UInt8) : Int := if l.length ≤ 9 ∧ l.all isDig = true ∧ Lib.itoa (decVal l) = l then decVal l else -1


theorem decVal_snoc (l : List UInt8) (c : UInt8) : decVal (l ++ [c]) = 10 * decVal l + (c.toNat - 48) := by simp [decVal]

theorem foldl_lt : ∀ (l : List UInt8) (a : Nat), l.all isDig = true → l.foldl (fun a c => 10 * a + (c.toNat - 48)) a < (a + 1) * 10 ^ l.length
  | [], a, _ => by simp
  | c :: l, a, h => by
    simp only [List.all_cons, Bool.and_eq_true, isDig, decide_eq_true_eq] at h
    have ih := foldl_lt l (10 * a + (c.toNat - 48)) h.2
    simp only [List.foldl_cons, List.length_cons]
    refine Nat.lt_of_lt_of_le ih ?_
    rw [Nat.pow_succ, ← Nat.mul_assoc, Nat.mul_right_comm]
    exact Nat.mul_le_mul_right _ (by omega)

theorem decVal_lt (l : List UInt8) (h : l.all isDig = true) (hl : l.length ≤ 9) : decVal l < 1000000000 := by
  have := foldl_lt l 0 h
  refine Nat.lt_of_lt_of_le this ?_
  have : 10 ^ l.length ≤ 10 ^ 9 := Nat.pow_le_pow_right (by omega) hl
  omega

theorem all_snoc {l : List UInt8} {c : UInt8} (h : l.all isDig = true) (h1 : 48 ≤ c.toNat) (h2 : c.toNat ≤ 57) : (l ++ [c]).all isDig = true := by
  simp [h, isDig, h1, h2]

theorem not_all {s : ByteArray} {k : Nat} (h : k < s.size) (hc : ¬ (48 ≤ s[k].toNat ∧ s[k].toNat ≤ 57)) : readDec s.data.toList = -1 := by
  unfold readDec
  rw [if_neg]
  rintro ⟨_, ha, _⟩
  rw [List.all_eq_true] at ha
  have := ha s[k] (by rw [List.mem_iff_getElem?]; exact ⟨k, by rw [List.getElem?_eq_getElem (by simpa using h)]; rfl⟩)
  simp [isDig] at this
  exact hc this

theorem too_long {l : List UInt8} (h : 9 < l.length) : readDec l = -1 := by
  unfold readDec; rw [if_neg (by omega)]

theorem whole {l : List UInt8} (h : l.length ≤ 9) (ha : l.all isDig = true) (e : Lib.itoa (decVal l) = l) : readDec l = decVal l := by
  unfold readDec; rw [if_pos ⟨h, ha, e⟩]

theorem not_whole {l : List UInt8} (e : Lib.itoa (decVal l) ≠ l) : readDec l = -1 := by
  unfold readDec; rw [if_neg (fun h => e h.2.2)]


set_option maxHeartbeats 400000 in
theorem implDecText (n : Int) (w : World) (h0 : -9223372036854775808 ≤ n) (h1 : n ≤ 9223372036854775807) (htab : Lib.TabIs Tryd.prog w "internal/strconv.uint64pow10" .u64 Lib.pow10Tab) :
    Calls Tryd.prog 8 #[.int .i64 n] w fun e w' => e = .returned (.string ⟨(Lib.itoa n).toArray⟩) ∧ Below w.heap.size w w' := by
  go_enter Tryd.func8, Tryd.ntmps8
  go_wp2_with fail
  refine (Tryd.strconv_Itoa n h0 h1 _ htab).mono ?_
  rintro e w1 ⟨rfl, k, os, rfl⟩
  go_wp2
  go_ret
  exact ⟨rfl, ⟨rfl, rfl, rfl, by simp, fun i hi => Sort.heap_grow_old _ _ (by simpa using hi)⟩⟩

set_option maxHeartbeats 400000 in
theorem implReadDec (s : ByteArray) (w : World) (hs : s.size ≤ maxLen) (htab : Lib.TabIs Tryd.prog w "internal/strconv.uint64pow10" .u64 Lib.pow10Tab) :
    Calls Tryd.prog 11 #[.string s] w fun e w' => e = .returned (.int .i64 (readDec s.data.toList)) ∧ Below w.heap.size w w' := by
  unfold maxLen at hs
  have HTAB := Lib.hid htab
  clear htab
  by_cases hl : 9 < s.size
  · go_enter Tryd.func11, Tryd.ntmps11
    go_wp2
    go_ret
    exact ⟨ret_int (too_long (by simpa using hl)).symm, Below.refl _ _⟩
  · have hl9 : s.size ≤ 9 := by omega
    clear hl
    go_enter Tryd.func11, Tryd.ntmps11
    go_wp2
    go_loop [3, 10] (fun n i => ∃ k : Nat, k ≤ s.size ∧ i = .int .i64 k ∧ n = .int .i64 (decVal (s.data.toList.take k)) ∧ (s.data.toList.take k).all isDig = true) (fun _ i => s.size - (intOf i).toNat)
    case atStart => exact ⟨0, Nat.zero_le _, rfl, rfl, by simp⟩
    case round =>
      obtain ⟨k, hk, rfl, rfl, HA⟩ := hrel
      have hv := decVal_lt _ HA (by simp; omega)
      by_cases hlt : k < s.size
      · have hts := take_snoc s k hlt
        by_cases hd : 48 ≤ s[k].toNat ∧ s[k].toNat ≤ 57
        · obtain ⟨d1, d2⟩ := hd
          have HV : Hid (decVal (s.data.toList.take (k + 1)) = 10 * decVal (s.data.toList.take k) + (s[k].toNat - 48)) := by rw [hts]; exact decVal_snoc _ _
          have HA2 : Hid ((s.data.toList.take (k + 1)).all isDig = true) := by rw [hts]; exact all_snoc HA d1 d2
          clear hts
          have HA1 := Lib.hid HA
          clear HA
          go_wp2
          go_round
          case rel => exact ⟨k + 1, by omega, by go_num, congrArg (Value.int IntKind.i64) (by rw [HV.out]; omega), HA2.out⟩
          case measure => simp [intOf]; omega
        · clear hts
          go_wp2
          all_goals
            go_ret
            exact ⟨ret_int (not_all hlt hd).symm, Below.refl _ _⟩
      · obtain rfl : k = s.size := by omega
        have e0 : s.data.toList.take s.size = s.data.toList := List.take_of_length_le (by simp)
        rw [e0] at HA hv ⊢
        have HA1 := Lib.hid HA
        clear HA e0
        go_wp2_with fail
        refine (implDecText _ _ (by omega) (by omega) HTAB.out).mono ?_
        rintro e w1 ⟨rfl, hb1⟩
        by_cases hw : Lib.itoa (decVal s.data.toList) = s.data.toList
        · have HW := Lib.hid hw
          have hb : (Lib.itoa (decVal s.data.toList) == s.toList) = true := by rw [ByteArray.toList_eq]; simpa using hw
          clear hw
          go_wp2
          go_ret
          exact ⟨ret_int (whole (by simpa using hl9) HA1.out HW.out).symm, hb1⟩
        · have HW := Lib.hid hw
          have hb : (Lib.itoa (decVal s.data.toList) == s.toList) = false := by rw [ByteArray.toList_eq]; simpa using hw
          clear hw
          go_wp2
          go_ret
          exact ⟨ret_int (not_whole HW.out).symm, hb1⟩

theorem isDig_iff (c : UInt8) : isDig c = true ↔ 48 ≤ c.toNat ∧ c.toNat ≤ 57 := by simp [isDig]

set_option maxHeartbeats 400000 in
theorem specDigit (c : UInt8) (w : World) : Calls Tryd.prog 19 #[.int .u8 c.toNat] w fun e w' => e = .returned (.bool (isDig c)) ∧ w = w' := by
  have hc := c.toNat_lt
  by_cases h1 : 48 ≤ c.toNat
  · by_cases h2 : c.toNat ≤ 57
    · go_enter Tryd.func19, Tryd.ntmps19
      go_wp2
      go_ret
      exact ⟨by simp [isDig, h1, h2]; omega, rfl⟩
    · go_enter Tryd.func19, Tryd.ntmps19
      go_wp2
      go_ret
      exact ⟨by simp [isDig, h1, h2]; omega, rfl⟩
  · go_enter Tryd.func19, Tryd.ntmps19
    go_wp2
    go_ret
    exact ⟨by simp [isDig, h1], rfl⟩

set_option maxHeartbeats 400000 in
theorem specReadDec (s : ByteArray) (w : World) (hs : s.size ≤ maxLen) :
    Calls Tryd.prog 12 #[.string s] w fun e w' => e = .returned (.int .i64 (readDec s.data.toList)) ∧ w = w' := by
  unfold maxLen at hs
  go_enter Tryd.func12, Tryd.ntmps12
  go_wp2
  go_loop [3, 4] (fun n i => ∃ k : Nat, k ≤ s.size ∧ i = .int .i64 k ∧ n = .int .i64 (decVal (s.data.toList.take k)) ∧ (s.data.toList.take k).all isDig = true ∧ (s.size ≤ 9 ∨ k = 0)) (fun _ i => s.size - (intOf i).toNat)
  case atStart => exact ⟨0, Nat.zero_le _, rfl, rfl, by simp, Or.inr rfl⟩
  case round =>
    obtain ⟨k, hk, rfl, rfl, HA, hs9⟩ := hrel
    have hv := decVal_lt _ HA (by simp; omega)
    by_cases hlt : k < s.size
    · have hts := take_snoc s k hlt
      have hc := s[k].toNat_lt
      cases hd : isDig s[k]
      · clear hts HA
        go_wp2_with fail
        refine (specDigit _ _).mono ?_
        rintro e w1 ⟨rfl, rfl⟩
        go_wp2
        go_ret
        exact ⟨ret_int (not_all hlt (fun h => by rw [(isDig_iff _).2 h] at hd; cases hd)).symm, rfl⟩
      · have d12 := (isDig_iff _).1 hd
        have HV : Hid (decVal (s.data.toList.take (k + 1)) = 10 * decVal (s.data.toList.take k) + (s[k].toNat - 48)) := by rw [hts]; exact decVal_snoc _ _
        have HA2 : Hid ((s.data.toList.take (k + 1)).all isDig = true) := by rw [hts]; exact all_snoc HA d12.1 d12.2
        clear hts HA
        by_cases h9 : s.size ≤ 9
        · go_wp2_with fail
          refine (specDigit _ _).mono ?_
          rintro e w1 ⟨rfl, rfl⟩
          go_wp2
          go_roundw
          case rel => exact ⟨k + 1, by omega, by go_num, congrArg (Value.int IntKind.i64) (by rw [HV.out]; omega), HA2.out, Or.inl h9⟩
          case measure => simp [intOf]; omega
        · go_wp2_with fail
          refine (specDigit _ _).mono ?_
          rintro e w1 ⟨rfl, rfl⟩
          go_wp2
          go_ret
          exact ⟨ret_int (too_long (by simp; omega)).symm, rfl⟩
    · obtain rfl : k = s.size := by omega
      have e0 : s.data.toList.take s.size = s.data.toList := List.take_of_length_le (by simp)
      rw [e0] at HA hv ⊢
      have HA1 := Lib.hid HA
      clear HA e0
      go_wp2_with fail
      · have h : s.toList = [] := by assumption
        rw [ByteArray.toList_eq] at h
        go_ret
        exact ⟨ret_int (not_whole (by rw [h]; simp [decVal, Lib.itoa, Lib.decDigits])).symm, rfl⟩
      · have he : s.toList.isEmpty = false := by rw [List.isEmpty_eq_false_iff]; assumption
        refine (specDecText _ _ (by omega) (by omega)).mono ?_
        rintro e w1 ⟨rfl, rfl⟩
        by_cases hw : Lib.itoa (decVal s.data.toList) = s.data.toList
        · have HW := Lib.hid hw
          have hb : (Lib.itoa (decVal s.data.toList) == s.toList) = true := by rw [ByteArray.toList_eq]; simpa using hw
          have h9 : s.data.toList.length ≤ 9 := by simp; omega
          clear hw
          go_wp2
          go_ret
          exact ⟨ret_int (whole h9 HA1.out HW.out).symm, rfl⟩
        · have HW := Lib.hid hw
          have hb : (Lib.itoa (decVal s.data.toList) == s.toList) = false := by rw [ByteArray.toList_eq]; simpa using hw
          clear hw
          go_wp2
          go_ret
          exact ⟨ret_int (not_whole HW.out).symm, rfl⟩

end Go.Proofs.YtibimjbnhgehoaaDoor
