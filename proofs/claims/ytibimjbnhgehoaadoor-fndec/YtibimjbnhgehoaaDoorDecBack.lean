/- Numbers come back from their texts. -/
import Derived.Test.YtibimjbnhgehoaaDoorReadDec
namespace Go.Proofs.YtibimjbnhgehoaaDoor
open Go.RowKit
set_option linter.unusedVariables false

theorem dig_of (d : Nat) (h : d < 10) : isDig (UInt8.ofNat (48 + d)) = true ∧ (UInt8.ofNat (48 + d)).toNat = 48 + d := by
  have e : (UInt8.ofNat (48 + d)).toNat = 48 + d := by rw [UInt8.toNat_ofNat']; omega
  refine ⟨?_, e⟩
  unfold isDig
  rw [e]
  simp; omega

theorem digits_back : ∀ u : Nat, (Lib.decDigits u).all isDig = true ∧ decVal (Lib.decDigits u) = u := by
  intro u
  induction u using Nat.strongRecOn with
  | _ u ih =>
    by_cases h : u < 10
    · rw [Lib.decDigits_one h]
      have := dig_of u h
      refine ⟨by rw [List.all_cons, this.1]; rfl, ?_⟩
      unfold decVal
      simp only [List.foldl_cons, List.foldl_nil, this.2]
      omega
    · rw [Lib.decDigits, dif_neg h]
      have i := ih (u / 10) (by omega)
      have d := dig_of (u % 10) (by omega)
      refine ⟨by rw [List.all_append, i.1, List.all_cons, d.1]; rfl, ?_⟩
      rw [decVal_snoc, i.2, d.2]
      omega

theorem nDigits_small9 : ∀ (k u : Nat), u < 10 ^ (k + 1) → Lib.nDigits u ≤ k + 1
  | 0, u, h => by rw [Lib.nDigits_small (by simpa using h)]; omega
  | k + 1, u, h => by
    by_cases h10 : u < 10
    · rw [Lib.nDigits_small h10]; omega
    · rw [Lib.nDigits_big h10]
      have := nDigits_small9 k (u / 10) (by rw [Nat.pow_succ] at h; omega)
      omega

theorem nDigits_great (u : Nat) (h : 1000000000 ≤ u) : 9 < Lib.nDigits u := by
  have h1 := Lib.lt_pow_nDigits u
  rcases Nat.lt_or_ge 9 (Lib.nDigits u) with h2 | h2
  · exact h2
  · have : 10 ^ Lib.nDigits u ≤ 10 ^ 9 := Nat.pow_le_pow_right (by omega) h2
    omega

theorem readDec_back (n : Int) (h0 : 0 ≤ n) (h1 : n ≤ 999999999) : readDec (Lib.itoa n) = n := by
  have e : Lib.itoa n = Lib.decDigits n.toNat := by unfold Lib.itoa; rw [if_neg (by omega)]
  have b := digits_back n.toNat
  have ev : decVal (Lib.itoa n) = n.toNat := by rw [e]; exact b.2
  have l : (Lib.itoa n).length ≤ 9 := by rw [e, Lib.decDigits_length]; exact nDigits_small9 8 _ (by omega)
  rw [whole l (by rw [e]; exact b.1) (by rw [ev]; rw [Int.toNat_of_nonneg h0]), ev]
  omega

theorem readDec_great (n : Int) (h1 : 999999999 < n) : readDec (Lib.itoa n) = -1 := by
  have e : Lib.itoa n = Lib.decDigits n.toNat := by unfold Lib.itoa; rw [if_neg (by omega)]
  apply too_long
  rw [e, Lib.decDigits_length]
  exact nDigits_great _ (by omega)

theorem readDec_neg (n : Int) (h : n < 0) : readDec (Lib.itoa n) = -1 := by
  have e : Lib.itoa n = 45 :: Lib.decDigits n.natAbs := by unfold Lib.itoa; rw [if_pos h]
  unfold readDec
  rw [if_neg]
  rintro ⟨_, ha, _⟩
  rw [e] at ha
  simp [isDig] at ha
end Go.Proofs.YtibimjbnhgehoaaDoor
