/- Contracts of the program's GetFix and of the model's. -/
import Derived.Test.YtkhpgomgaimhkaaIn
import Derived.Test.YtkhpgomgaimhkaaReader
import Derived.Test.YtkhpgomgaimhkaaFixPure
import Derived.Test.YtkhpgomgaimhkaaBits
namespace Go.Proofs.Ytkhpgomgaimhkaa
open Go.RowKit
set_option linter.unusedVariables false

theorem fixVal_take (s : ByteArray) (k : Nat) (h : k < s.size) : fixVal (s.data.toList.take (k + 1)) = fixVal (s.data.toList.take k) + 2 ^ (8 * k) * s[k].toNat := by
  rw [take_snoc s k h, fixVal_snoc, List.length_take]
  have e2 : min k s.data.toList.length = k := by simp; omega
  rw [e2]
theorem fixVal_take_lt (l : List UInt8) (k : Nat) : fixVal (l.take k) < 2 ^ (8 * k) := by
  refine Nat.lt_of_lt_of_le (fixVal_lt _) ?_
  exact Nat.pow_le_pow_right (by omega) (by have := List.length_take_le k l; omega)
theorem part_list (s : ByteArray) (a b : Nat) : (s.extract a (a + b)).data.toList = (s.data.toList.drop a).take b := by
  simp only [ByteArray.data_extract, Array.toList_extract, List.extract_eq_take_drop]
  congr 1
  omega

/-- A byte taken in above those that are there. -/
theorem or_byte (v k c : Nat) (hk : k < 4) (hv : v < 2 ^ (8 * k)) (hc : c < 256) : bits .or .i64 (v : Int) (wrap64 ((c : Int) * 2 ^ (8 * k))) = ((v + 2 ^ (8 * k) * c : Nat) : Int) := by
  have hp : 2 ^ (8 * k) ≤ 2 ^ 24 := Nat.pow_le_pow_right (by omega) (by omega)
  have hm : 2 ^ (8 * k) * c ≤ 2 ^ 24 * 256 := Nat.mul_le_mul hp (by omega)
  have e : (c : Int) * 2 ^ (8 * k) = ((2 ^ (8 * k) * c : Nat) : Int) := by rw [Int.natCast_mul, Int.mul_comm]; simp
  have e2 : wrap64 ((2 ^ (8 * k) * c : Nat) : Int) = ((2 ^ (8 * k) * c : Nat) : Int) := by unfold wrap64; omega
  rw [e, e2, i64_or_nat _ _ (by omega) (by omega), Nat.or_comm, ← Nat.two_pow_add_eq_or_of_lt hv, Nat.add_comm]

set_option maxHeartbeats 400000 in
theorem takeFix_yes (p : Nat) (s : ByteArray) (a b : Nat) (w : World) (h : RdAt w p s a) (hs : s.size ≤ maxLen) (h1 : 1 ≤ b) (h4 : b ≤ 4) (hn : a + b ≤ s.size) :
    Calls Try.prog 54 #[.pointer (some ⟨p, 0, none⟩), .int .i64 b] w fun e w' => e = .returned (.tuple #[.int .i64 (fixVal ((s.data.toList.drop a).take b)), .bool true]) ∧ RdAt w' p s (a + b : Nat) ∧ w.grownBy w' (some p) := by
  have HH := Lib.hid h
  clear h
  go_enter Try.func54, Try.ntmps54
  go_wp2_with fail
  refine (take_yes p s a b _ HH.out hs hn).mono ?_
  rintro e w1 ⟨rfl, hr, hg⟩
  have HX := Lib.hid (And.intro hr hg)
  clear hr hg
  unfold maxLen at hs
  have hz : (s.extract a (a + b)).size = b := by rw [ByteArray.size_extract]; omega
  have hq := part_list s a b
  generalize s.extract a (a + b) = q at hz hq ⊢
  have HQ := Lib.hid hq
  have hz1 : q.size ≤ 4 := by omega
  have HZ := Lib.hid hz
  clear hq hz
  go_wp2_with fail
  go_loop [8, 26] (fun n i => ∃ k : Nat, k ≤ q.size ∧ i = .int .i64 k ∧ n = .int .i64 (fixVal (q.data.toList.take k))) (fun _ i => q.size - (intOf i).toNat)
  case atStart => exact ⟨0, Nat.zero_le _, rfl, rfl⟩
  case round =>
    obtain ⟨k, hk, rfl, rfl⟩ := hrel
    by_cases hlt : k < q.size
    · have HV := Lib.hid (fixVal_take q k hlt)
      have hv := fixVal_take_lt q.data.toList k
      have hc := q[k].toNat_lt
      have HO := Lib.hid (or_byte _ k q[k].toNat (by omega) hv (by omega))
      have i1 : (k : Int) < (q.size : Int) := by omega
      clear hv
      go_wp2
      go_round
      case rel => exact ⟨k + 1, by omega, by go_num, congrArg (Value.int IntKind.i64) (by rw [HO.out, HV.out])⟩
      case measure => simp [intOf]; omega
    · obtain rfl : k = q.size := by omega
      have e0 : q.data.toList.take q.size = q.data.toList := List.take_of_length_le (by simp)
      rw [e0]
      clear e0
      go_wp2
      go_ret2
      exact ⟨congrArg (fun l => Ending.returned (.tuple #[.int .i64 (fixVal l : Nat), .bool true])) HQ.out, HX.out.1, HX.out.2⟩

set_option maxHeartbeats 400000 in
theorem takeFix_no (p : Nat) (s : ByteArray) (a b : Int) (w : World) (h : RdAt w p s a) (hs : s.size ≤ maxLen) (hn : b < 1 ∨ 4 < b ∨ a < 0 ∨ s.size < a ∨ s.size - a < b) :
    Calls Try.prog 54 #[.pointer (some ⟨p, 0, none⟩), .int .i64 b] w fun e w' => e = .returned (.tuple #[.int .i64 0, .bool false]) ∧ ∃ n, w' = w.drewN n := by
  have HH := Lib.hid h
  have HN := Lib.hid hn
  clear h hn
  by_cases h1 : b < 1
  · go_enter Try.func54, Try.ntmps54
    go_wp2
    go_ret2
    exact ⟨rfl, 0, rfl⟩
  · by_cases h4 : 4 < b
    · go_enter Try.func54, Try.ntmps54
      go_wp2
      go_ret2
      exact ⟨rfl, 0, rfl⟩
    · go_enter Try.func54, Try.ntmps54
      go_wp2_with fail
      refine (take_no p s a b _ HH.out hs (by have := HN.out; omega)).mono ?_
      rintro e w1 ⟨rfl, m, rfl⟩
      go_wp2
      go_ret2
      exact ⟨rfl, _, rfl⟩

theorem getFix_no {l : List UInt8} {a b : Int} (h : b < 1 ∨ 4 < b ∨ a < 0 ∨ l.length < a ∨ l.length - a < b) : getFix l a b = -1 := by unfold getFix; rw [if_neg (by omega)]
theorem getFix_yes {l : List UInt8} {a b : Nat} (h1 : 1 ≤ b) (h4 : b ≤ 4) (h : a + b ≤ l.length) : getFix l a b = fixVal ((l.drop a).take b) := by
  unfold getFix; rw [if_pos (by omega)]; simp

/-- A number; nothing that lay there has turned. -/
def IntIs (w : World) (n : Int) (e : Ending) (w' : World) : Prop := e = .returned (.int .i64 n) ∧ Below w.heap.size w w'

theorem below_rd {w w1 : World} {o : Obj} (g : (w.alloc o).grownBy w1 (some w.heap.size)) : Below w.heap.size w w1 := below_new (World.grownBy_alloc w o none) g

set_option maxHeartbeats 400000 in
theorem implGetFix (s : ByteArray) (a b : Int) (w : World) (hs : s.size ≤ maxLen) :
    Calls Try.prog 32 #[.string s, .int .i64 a, .int .i64 b] w (IntIs w (getFix s.data.toList a b)) := by
  have hl : s.data.toList.length = s.size := by simp
  by_cases hn : b < 1 ∨ 4 < b ∨ a < 0 ∨ s.size < a ∨ s.size - a < b
  · have HR := Lib.hid (getFix_no (l := s.data.toList) (by rw [hl]; exact hn))
    have HN := Lib.hid hn
    clear hn hl
    go_enter Try.func32, Try.ntmps32
    go_wp2_with fail
    refine (takeFix_no _ s a b _ (rd_new w s a) hs HN.out).mono ?_
    rintro e w1 ⟨rfl, m, rfl⟩
    go_wp2
    go_ret
    exact ⟨ret_int HR.out.symm, ((Below.refl _ _).alloc (Nat.le_refl _) _).trans (below_draws _)⟩
  · obtain ⟨a, rfl⟩ := Int.eq_ofNat_of_zero_le (by omega : 0 ≤ a)
    obtain ⟨b, rfl⟩ := Int.eq_ofNat_of_zero_le (by omega : 0 ≤ b)
    have h1 : 1 ≤ b := by omega
    have h4 : b ≤ 4 := by omega
    have h5 : a + b ≤ s.size := by omega
    have HR := Lib.hid (getFix_yes (l := s.data.toList) h1 h4 (by rw [hl]; exact h5))
    clear hn hl
    go_enter Try.func32, Try.ntmps32
    go_wp2_with fail
    refine (takeFix_yes _ s a b _ (rd_new w s a) hs h1 h4 h5).mono ?_
    rintro e w1 ⟨rfl, hr, hg⟩
    have HG := Lib.hid hg
    clear hr hg
    go_wp2
    go_ret
    exact ⟨ret_int HR.out.symm, below_rd HG.out⟩

theorem fixVal_up (s : ByteArray) (a b k : Nat) (hb : k < b) (h : a + b ≤ s.size) : fixVal (((s.data.toList.drop a).take b).drop k) = fixVal (((s.data.toList.drop a).take b).drop (k + 1)) * 256 + s[a + k].toNat := by
  have hk : k < ((s.data.toList.drop a).take b).length := by simp; omega
  rw [List.drop_eq_getElem_cons hk, fixVal]
  have e : ((s.data.toList.drop a).take b)[k] = s[a + k] := by rw [List.getElem_take, List.getElem_drop]; rfl
  rw [e]
  omega
theorem fixVal_up_lt (l : List UInt8) (b k : Nat) (hb : b ≤ 4) (hk : 1 ≤ k) : fixVal ((l.take b).drop k) < 16777216 := by
  refine Nat.lt_of_lt_of_le (fixVal_lt _) ?_
  have : ((l.take b).drop k).length ≤ 3 := by rw [List.length_drop, List.length_take]; omega
  have h2 : 2 ^ (8 * ((l.take b).drop k).length) ≤ 2 ^ 24 := Nat.pow_le_pow_right (by omega) (by omega)
  exact h2

set_option maxHeartbeats 400000 in
theorem specGetFix (s : ByteArray) (a b : Int) (w : World) (hs : s.size ≤ maxLen) (ha : -9223372036854775808 ≤ a ∧ a ≤ 9223372036854775807) :
    Calls Try.prog 34 #[.string s, .int .i64 a, .int .i64 b] w (IntIs w (getFix s.data.toList a b)) := by
  unfold maxLen at hs
  have hl : s.data.toList.length = s.size := by simp
  by_cases hb : b < 1 ∨ 4 < b
  · have HR := Lib.hid (getFix_no (l := s.data.toList) (a := a) (b := b) (by rw [hl]; omega))
    have HB := Lib.hid hb
    clear hb hl
    go_enter Try.func34, Try.ntmps34
    go_wp2_with fail
    refine (specIn_no _ _ _ _ HB.out).mono ?_
    rintro e w1 ⟨rfl, rfl⟩
    go_wp2
    go_ret
    exact ⟨ret_int HR.out.symm, Below.refl _ _⟩
  · obtain ⟨b, rfl⟩ := Int.eq_ofNat_of_zero_le (by omega : 0 ≤ b)
    have h1 : 1 ≤ b := by omega
    have h4 : b ≤ 4 := by omega
    by_cases hn : a < 0 ∨ s.size - b < a
    · have HR := Lib.hid (getFix_no (l := s.data.toList) (a := a) (b := b) (by rw [hl]; omega))
      clear hb hl
      by_cases h0 : a < 0
      · clear hn
        go_enter Try.func34, Try.ntmps34
        go_wp2_with fail
        refine (specIn_yes _ _ _ _ (by omega) (by omega)).mono ?_
        rintro e w1 ⟨rfl, rfl⟩
        go_wp2
        go_ret
        exact ⟨ret_int HR.out.symm, Below.refl _ _⟩
      · have h2 : (s.size : Int) - (b : Int) < a := by omega
        clear hn
        go_enter Try.func34, Try.ntmps34
        go_wp2_with fail
        refine (specIn_yes _ _ _ _ (by omega) (by omega)).mono ?_
        rintro e w1 ⟨rfl, rfl⟩
        go_wp2
        go_ret
        exact ⟨ret_int HR.out.symm, Below.refl _ _⟩
    · obtain ⟨a, rfl⟩ := Int.eq_ofNat_of_zero_le (by omega : 0 ≤ a)
      have h5 : a + b ≤ s.size := by omega
      have h6 : (a : Int) ≤ (s.size : Int) - (b : Int) := by omega
      have HR := Lib.hid (getFix_yes (l := s.data.toList) h1 h4 (by rw [hl]; exact h5))
      clear hn hl hb
      go_enter Try.func34, Try.ntmps34
      go_wp2_with fail
      refine (specIn_yes _ _ _ _ (by omega) (by omega)).mono ?_
      rintro e w1 ⟨rfl, rfl⟩
      go_wp2_with fail
      go_loop [7, 8] (fun n i => ∃ k : Nat, k ≤ b ∧ i = .int .i64 ((k : Int) - 1) ∧ n = .int .i64 (fixVal (((s.data.toList.drop a).take b).drop k))) (fun _ i => ((intOf i) + 1).toNat)
      case atStart => exact ⟨b, Nat.le_refl _, rfl, by rw [List.drop_of_length_le (List.length_take_le _ _)]; rfl⟩
      case round =>
        obtain ⟨k, hk, rfl, rfl⟩ := hrel
        cases k with
        | zero =>
          go_wp2
          go_ret
          exact ⟨ret_int (by rw [HR.out]), Below.refl _ _⟩
        | succ k =>
          have HU := Lib.hid (fixVal_up s a b k (by omega) h5)
          have hu := fixVal_up_lt (s.data.toList.drop a) b (k + 1) h4 (by omega)
          have hc := s[a + k].toNat_lt
          have e1 : ((k + 1 : Nat) : Int) - 1 = (k : Int) := by omega
          rw [e1]
          clear e1
          have i1 : (a : Int) + (k : Int) < (s.size : Int) := by omega
          have i2 : ((a : Int) + (k : Int)).toNat = a + k := by omega
          go_wp2
          go_round
          case rel => exact ⟨k, by omega, rfl, congrArg (Value.int IntKind.i64) (by rw [HU.out]; omega)⟩
          case measure => simp [intOf]
end Go.Proofs.Ytkhpgomgaimhkaa
