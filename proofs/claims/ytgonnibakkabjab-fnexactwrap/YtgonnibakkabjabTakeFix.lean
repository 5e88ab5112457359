/- Contract of the program's cursor: a number of so many bytes taken. -/
import Derived.Test.YtgonnibakkabjabReader
import Derived.Test.YtgonnibakkabjabPureA
namespace Go.Proofs.Ytgonnibakkabjab
open Go.RowKit
set_option linter.unusedVariables false

theorem fixVal_take (s : ByteArray) (k : Nat) (h : k < s.size) : fixVal (s.data.toList.take (k + 1)) = fixVal (s.data.toList.take k) + 2 ^ (8 * k) * s[k].toNat := by
  rw [take_snoc s k h, fixVal_snoc, List.length_take]
  have e2 : min k s.data.toList.length = k := by simp; omega
  rw [e2]
theorem fixVal_take_lt (l : List UInt8) (k : Nat) : fixVal (l.take k) < 2 ^ (8 * k) := by
  refine Nat.lt_of_lt_of_le (fixVal_lt _) ?_
  exact Nat.pow_le_pow_right (by omega) (by have := List.length_take_le k l; omega)
theorem part_list (s : ByteArray) (a b : Nat) : (s.extract a (a + b)).data.toList = (s.data.toList.drop a).take b := by
  simp only [ByteArray.data_extract, Array.toList_extract, List.extract_eq_take_drop]
  congr 1
  omega

/-- A byte taken in above those that are there. -/
theorem or_byte (v k c : Nat) (hk : k < 4) (hv : v < 2 ^ (8 * k)) (hc : c < 256) : bits .or .i64 (v : Int) (wrap64 ((c : Int) * 2 ^ (8 * k))) = ((v + 2 ^ (8 * k) * c : Nat) : Int) := by
  have hp : 2 ^ (8 * k) ≤ 2 ^ 24 := Nat.pow_le_pow_right (by omega) (by omega)
  have hm : 2 ^ (8 * k) * c ≤ 2 ^ 24 * 256 := Nat.mul_le_mul hp (by omega)
  have e : (c : Int) * 2 ^ (8 * k) = ((2 ^ (8 * k) * c : Nat) : Int) := by rw [Int.natCast_mul, Int.mul_comm]; simp
  have e2 : wrap64 ((2 ^ (8 * k) * c : Nat) : Int) = ((2 ^ (8 * k) * c : Nat) : Int) := by unfold wrap64; omega
  rw [e, e2, i64_or_nat _ _ (by omega) (by omega), Nat.or_comm, ← Nat.two_pow_add_eq_or_of_lt hv, Nat.add_comm]

set_option maxHeartbeats 400000 in
theorem takeFix_yes (p : Nat) (s : ByteArray) (a b : Nat) (w : World) (h : RdAt w p s a) (hs : s.size ≤ maxLen) (h1 : 1 ≤ b) (h4 : b ≤ 4) (hn : a + b ≤ s.size) :
    Calls Try.prog 49 #[.pointer (some ⟨p, 0, none⟩), .int .i64 b] w fun e w' => e = .returned (.tuple #[.int .i64 (fixVal ((s.data.toList.drop a).take b)), .bool true]) ∧ RdAt w' p s (a + b : Nat) ∧ w.grownBy w' (some p) := by
  have HH := Lib.hid h
  clear h
  go_enter Try.func49, Try.ntmps49
  go_wp2_with fail
  refine (take_yes p s a b _ HH.out hs hn).mono ?_
  rintro e w1 ⟨rfl, hr, hg⟩
  have HX := Lib.hid (And.intro hr hg)
  clear hr hg
  unfold maxLen at hs
  have hz : (s.extract a (a + b)).size = b := by rw [ByteArray.size_extract]; omega
  have hq := part_list s a b
  generalize s.extract a (a + b) = q at hz hq ⊢
  have HQ := Lib.hid hq
  have hz1 : q.size ≤ 4 := by omega
  have HZ := Lib.hid hz
  clear hq hz
  go_wp2_with fail
  go_loop [8, 26] (fun n i => ∃ k : Nat, k ≤ q.size ∧ i = .int .i64 k ∧ n = .int .i64 (fixVal (q.data.toList.take k))) (fun _ i => q.size - (intOf i).toNat)
  case atStart => exact ⟨0, Nat.zero_le _, rfl, rfl⟩
  case round =>
    obtain ⟨k, hk, rfl, rfl⟩ := hrel
    by_cases hlt : k < q.size
    · have HV := Lib.hid (fixVal_take q k hlt)
      have hv := fixVal_take_lt q.data.toList k
      have hc := q[k].toNat_lt
      have HO := Lib.hid (or_byte _ k q[k].toNat (by omega) hv (by omega))
      have i1 : (k : Int) < (q.size : Int) := by omega
      clear hv
      go_wp2
      go_round
      case rel => exact ⟨k + 1, by omega, by go_num, congrArg (Value.int IntKind.i64) (by rw [HO.out, HV.out])⟩
      case measure => simp [intOf]; omega
    · obtain rfl : k = q.size := by omega
      have e0 : q.data.toList.take q.size = q.data.toList := List.take_of_length_le (by simp)
      rw [e0]
      clear e0
      go_wp2
      go_ret2
      exact ⟨congrArg (fun l => Ending.returned (.tuple #[.int .i64 (fixVal l : Nat), .bool true])) HQ.out, HX.out.1, HX.out.2⟩

set_option maxHeartbeats 400000 in
theorem takeFix_no (p : Nat) (s : ByteArray) (a b : Int) (w : World) (h : RdAt w p s a) (hs : s.size ≤ maxLen) (hn : b < 1 ∨ 4 < b ∨ a < 0 ∨ s.size < a ∨ s.size - a < b) :
    Calls Try.prog 49 #[.pointer (some ⟨p, 0, none⟩), .int .i64 b] w fun e w' => e = .returned (.tuple #[.int .i64 0, .bool false]) ∧ ∃ n, w' = w.drewN n := by
  have HH := Lib.hid h
  have HN := Lib.hid hn
  clear h hn
  by_cases h1 : b < 1
  · go_enter Try.func49, Try.ntmps49
    go_wp2
    go_ret2
    exact ⟨rfl, 0, rfl⟩
  · by_cases h4 : 4 < b
    · go_enter Try.func49, Try.ntmps49
      go_wp2
      go_ret2
      exact ⟨rfl, 0, rfl⟩
    · go_enter Try.func49, Try.ntmps49
      go_wp2_with fail
      refine (take_no p s a b _ HH.out hs (by have := HN.out; omega)).mono ?_
      rintro e w1 ⟨rfl, m, rfl⟩
      go_wp2
      go_ret2
      exact ⟨rfl, _, rfl⟩
end Go.Proofs.Ytgonnibakkabjab
