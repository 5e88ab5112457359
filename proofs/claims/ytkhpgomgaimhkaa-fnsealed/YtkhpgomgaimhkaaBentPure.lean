/- Plain mathematics: a bit turned in bytes. -/
import Derived.Test.YtkhpgomgaimhkaaCrcPure
import Derived.Test.YtkhpgomgaimhkaaBits
namespace Go.Proofs.Ytkhpgomgaimhkaa
open Go.RowKit
set_option linter.unusedVariables false

theorem bent_len (l : List UInt8) : ∀ (m : List UInt8) (E : Nat), Bent E l m → m.length = l.length := by
  induction l with
  | nil => intro m E h; cases m with
    | nil => rfl
    | cons => cases h
  | cons a l ih => intro m E h; cases m with
    | nil => cases h
    | cons b m => simp only [List.length_cons]; rw [ih m _ h.2]
theorem bent_zero (l : List UInt8) : Bent 0 l l := by
  induction l with
  | nil => trivial
  | cons a l ih => exact ⟨by simp, by simpa using ih⟩

/-- The byte c with bit j turned. -/
def flip (c : UInt8) (j : Nat) : UInt8 := UInt8.ofNat (c.toNat ^^^ 2 ^ j)
theorem pow8 {j : Nat} (h : j < 8) : 2 ^ j < 256 := by
  have : 2 ^ j ≤ 2 ^ 7 := Nat.pow_le_pow_right (by omega) (by omega)
  omega
theorem flip_toNat (c : UInt8) (j : Nat) (h : j < 8) : (flip c j).toNat = c.toNat ^^^ 2 ^ j := by
  unfold flip
  rw [UInt8.toNat_ofNat']
  have h1 : c.toNat ^^^ 2 ^ j < 2 ^ 8 := Nat.xor_lt_two_pow c.toNat_lt (pow8 h)
  exact Nat.mod_eq_of_lt h1
theorem bent_flip (i : Nat) : ∀ (l m : List UInt8) (E j : Nat), Bent E l m → i < l.length → j < 8 → Bent (E ^^^ 2 ^ (8 * i + j)) l (m.set i (flip (m.getD i 0) j)) := by
  induction i with
  | zero =>
    intro l m E j h hi hj
    cases l with
    | nil => simp at hi
    | cons a l => cases m with
      | nil => cases h
      | cons b m =>
        have hp := pow8 hj
        refine ⟨?_, ?_⟩
        · rw [Nat.mul_zero, Nat.zero_add]
          simp only [List.getD_cons_zero]
          rw [flip_toNat _ _ hj, h.1]
          have e : (E ^^^ 2 ^ j) % 256 = E % 256 ^^^ 2 ^ j := by
            have := Nat.xor_mod_two_pow (a := E) (b := 2 ^ j) (n := 8)
            rw [show 2 ^ 8 = 256 from rfl] at this
            rw [this, Nat.mod_eq_of_lt hp]
          rw [e, Nat.xor_assoc]
        · rw [Nat.mul_zero, Nat.zero_add]
          have e : (E ^^^ 2 ^ j) / 256 = E / 256 := by
            have := Nat.xor_div_two_pow (a := E) (b := 2 ^ j) (n := 8)
            rw [show 2 ^ 8 = 256 from rfl] at this
            rw [this, Nat.div_eq_of_lt hp, Nat.xor_zero]
          rw [e]
          exact h.2
  | succ i ih =>
    intro l m E j h hi hj
    cases l with
    | nil => simp at hi
    | cons a l => cases m with
      | nil => cases h
      | cons b m =>
        have ep : 2 ^ (8 * (i + 1) + j) = 256 * 2 ^ (8 * i + j) := by rw [show 8 * (i + 1) + j = 8 + (8 * i + j) by omega, Nat.pow_add]
        have e1 : (E ^^^ 2 ^ (8 * (i + 1) + j)) % 256 = E % 256 := by
          have := Nat.xor_mod_two_pow (a := E) (b := 2 ^ (8 * (i + 1) + j)) (n := 8)
          rw [show 2 ^ 8 = 256 from rfl] at this
          rw [this, ep]
          have : 256 * 2 ^ (8 * i + j) % 256 = 0 := by omega
          rw [this, Nat.xor_zero]
        have e2 : (E ^^^ 2 ^ (8 * (i + 1) + j)) / 256 = E / 256 ^^^ 2 ^ (8 * i + j) := by
          have := Nat.xor_div_two_pow (a := E) (b := 2 ^ (8 * (i + 1) + j)) (n := 8)
          rw [show 2 ^ 8 = 256 from rfl] at this
          rw [this, ep]
          have : 256 * 2 ^ (8 * i + j) / 256 = 2 ^ (8 * i + j) := by omega
          rw [this]
        refine ⟨?_, ?_⟩
        · rw [e1]; exact h.1
        · rw [e2]
          have := ih l m (E / 256) j h.2 (by simpa using hi) hj
          simpa using this

theorem mul_xor (f a b : Nat) : 2 ^ f * (a ^^^ b) = 2 ^ f * a ^^^ 2 ^ f * b := by
  apply Nat.eq_of_testBit_eq
  intro i
  rw [Nat.testBit_xor, Nat.testBit_two_pow_mul, Nat.testBit_two_pow_mul, Nat.testBit_two_pow_mul, Nat.testBit_xor]
  by_cases h : i ≥ f <;> simp [h]
/-- One bit more of a mask. -/
theorem mask_more (f M k : Nat) (h : M / 2 ^ k % 2 = 1) : 2 ^ f * (M % 2 ^ (k + 1)) = 2 ^ f * (M % 2 ^ k) ^^^ 2 ^ (f + k) := by
  have e1 : M % 2 ^ (k + 1) = M % 2 ^ k + 2 ^ k := by
    rw [Nat.pow_succ, Nat.mod_mul, h, Nat.mul_one]
  have hl : M % 2 ^ k < 2 ^ k := Nat.mod_lt _ (Nat.pow_pos (by omega))
  have e2 : M % 2 ^ k + 2 ^ k = M % 2 ^ k ^^^ 2 ^ k := by
    apply Nat.eq_of_testBit_eq
    intro i
    have := Nat.two_pow_add_eq_or_of_lt hl 1
    rw [Nat.mul_one] at this
    rw [Nat.add_comm, this, Nat.testBit_or, Nat.testBit_xor, Nat.testBit_two_pow]
    by_cases hi : k = i
    · subst hi
      have : (M % 2 ^ k).testBit k = false := Nat.testBit_lt_two_pow hl
      simp [this]
    · simp [hi]
  rw [e1, e2, Nat.pow_add, mul_xor]
theorem mask_same (f M k : Nat) (h : M / 2 ^ k % 2 = 0) : 2 ^ f * (M % 2 ^ (k + 1)) = 2 ^ f * (M % 2 ^ k) := by
  rw [Nat.pow_succ, Nat.mod_mul, h, Nat.mul_zero, Nat.add_zero]
end Go.Proofs.Ytkhpgomgaimhkaa
