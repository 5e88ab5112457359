/- Plain mathematics of seals: what is sealed is opened; a byte that was changed is told. -/
import Derived.Test.YtkomnnijnggbpaaPureA
import Derived.Test.YtkomnnijnggbpaaOpened
namespace Go.Proofs.Ytkomnnijnggbpaa
open Go.RowKit
set_option linter.unusedVariables false

theorem bent_byte (i : Nat) : ∀ (l : List UInt8) (c : UInt8), i < l.length → Bent (2 ^ (8 * i) * ((l.getD i 0).toNat ^^^ c.toNat)) l (l.set i c) := by
  induction i with
  | zero =>
    intro l c hi
    cases l with
    | nil => simp at hi
    | cons a l =>
      have h1 : a.toNat ^^^ c.toNat < 2 ^ 8 := Nat.xor_lt_two_pow a.toNat_lt c.toNat_lt
      simp only [List.getD_cons_zero, List.set_cons_zero, Nat.mul_zero, Nat.pow_zero, Nat.one_mul]
      refine ⟨?_, ?_⟩
      · rw [Nat.mod_eq_of_lt h1, ← Nat.xor_assoc, Nat.xor_self, Nat.zero_xor]
      · rw [Nat.div_eq_of_lt h1]; exact bent_zero l
  | succ i ih =>
    intro l c hi
    cases l with
    | nil => simp at hi
    | cons a l =>
      have := ih l c (by simpa using hi)
      simp only [List.getD_cons_succ, List.set_cons_succ]
      have ep : 2 ^ (8 * (i + 1)) * ((l.getD i 0).toNat ^^^ c.toNat) = 256 * (2 ^ (8 * i) * ((l.getD i 0).toNat ^^^ c.toNat)) := by
        rw [show 8 * (i + 1) = 8 + 8 * i by omega, Nat.pow_add, Nat.mul_assoc]
      rw [ep]
      generalize 2 ^ (8 * i) * ((l.getD i 0).toNat ^^^ c.toNat) = E at this
      refine ⟨?_, ?_⟩
      · have : 256 * E % 256 = 0 := by omega
        rw [this, Nat.xor_zero]
      · have e : 256 * E / 256 = E := by omega
        rw [e]; exact this

theorem crc_byte (l : List UInt8) (i : Nat) (c : UInt8) (hi : i < l.length) (hc : (l.getD i 0) ≠ c) : crc (l.set i c) ≠ crc l := by
  have h1 : (l.getD i 0).toNat ^^^ c.toNat < 2 ^ 8 := Nat.xor_lt_two_pow (l.getD i 0).toNat_lt c.toNat_lt
  have h0 : (l.getD i 0).toNat ^^^ c.toNat ≠ 0 := fun h => hc (UInt8.toNat_inj.1 (xor_eq_zero h))
  refine bent_told l (l.set i c) (8 * i) _ (bent_byte i l c hi) (by omega) ?_ (by omega)
  have hp : 2 ^ 8 ≤ 2 ^ (8 * l.length - 8 * i) := Nat.pow_le_pow_right (by omega) (by omega)
  rw [Nat.mod_eq_of_lt (by omega)]
  exact h0

theorem opened_sealed (l : List UInt8) : opened1 (sealedB l) = l ∧ opened2 (sealedB l) = true := by
  have hl := sealed_len l
  have ht : (sealedB l).take ((sealedB l).length - 4) = l := by
    rw [hl, Nat.add_sub_cancel]
    unfold sealedB
    exact List.take_left' rfl
  have := opened_yes (l := sealedB l) ⟨by omega, by rw [ht]⟩
  rw [ht] at this
  exact this

theorem opened_back {l : List UInt8} (h : opened2 l = true) : sealedB (opened1 l) = l := by
  by_cases hc : 4 ≤ l.length ∧ sealedB (l.take (l.length - 4)) = l
  · rw [(opened_yes hc).1]; exact hc.2
  · rw [(opened_no hc).2] at h; cases h

/-- A seal of which a byte was changed is none. -/
theorem opened_changed (l : List UInt8) (n : Nat) (c : UInt8) (hn : n < (sealedB l).length) (hc : (sealedB l).getD n 0 ≠ c) : opened2 ((sealedB l).set n c) = false := by
  refine (opened_no ?_).2
  rintro ⟨_, h⟩
  rw [List.length_set, sealed_len, Nat.add_sub_cancel, List.take_set] at h
  have ht : (sealedB l).take l.length = l := by unfold sealedB; exact List.take_left' rfl
  rw [ht] at h
  rw [sealed_len] at hn
  by_cases hlt : n < l.length
  · have hg : (sealedB l).getD n 0 = l.getD n 0 := by
      unfold sealedB
      rw [List.getD_eq_getElem?_getD, List.getD_eq_getElem?_getD, List.getElem?_append_left hlt]
    rw [hg] at hc
    have hcr := crc_byte l n c hlt hc
    have e : (sealedB l).set n c = l.set n c ++ fixB (crc l) 4 := by
      unfold sealedB
      rw [List.set_append_left _ _ hlt]
    rw [e] at h
    unfold sealedB at h
    have h2 := List.append_cancel_left h
    have h3 := fix_inj h2
    have c1 := crc_lt (l.set n c)
    have c2 := crc_lt l
    rw [Nat.mod_eq_of_lt (by omega), Nat.mod_eq_of_lt (by omega)] at h3
    exact hcr h3
  · rw [List.set_eq_of_length_le (by omega)] at h
    have h4 : (sealedB l).getD n 0 = ((sealedB l).set n c).getD n 0 := by rw [← h]
    have h5 : ((sealedB l).set n c).getD n 0 = c := by
      rw [List.getD_eq_getElem?_getD, List.getElem?_set_self (by rw [sealed_len]; omega)]; rfl
    exact hc (h4.trans h5)
end Go.Proofs.Ytkomnnijnggbpaa
