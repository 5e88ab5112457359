/- The model's MayHave. -/
import Derived.Test.YtlnjaebfdemlgaaHashS
import Derived.BigQuiet
namespace Go.Proofs.Ytlnjaebfdemlgaa
open Go.RowKit
set_option linter.unusedVariables false

theorem may_no {f key : List UInt8} {p : Nat} (hp : p ∈ probes key (8 * f.length : Nat)) (h : bitAt f p = false) : mayHave f key = false := by
  unfold mayHave
  rw [show (probes key (8 * f.length : Nat)).all (bitAt f) = false from List.all_eq_false.2 ⟨p, hp, by simp [h]⟩, Bool.and_false]
theorem may_none {f key : List UInt8} (h : probes key (8 * f.length : Nat) = []) : mayHave f key = false := by
  unfold mayHave
  rw [h]
  rfl
theorem may_yes {f key : List UInt8} (h0 : probes key (8 * f.length : Nat) ≠ []) (h : ∀ (j q : Nat), (probes key (8 * f.length : Nat))[j]? = some q → bitAt f q = true) : mayHave f key = true := by
  unfold mayHave
  rw [show (probes key (8 * f.length : Nat)).all (bitAt f) = true from List.all_eq_true.2 (fun q hq => by
    obtain ⟨j, hj⟩ := List.mem_iff_getElem?.1 hq
    exact h j q hj), Bool.and_true]
  cases hp : probes key (8 * f.length : Nat) with
  | nil => exact absurd hp h0
  | cons _ _ => rfl
theorem probes_len (l : List UInt8) (b : Int) : (probes l b).length ≤ 6 := by
  unfold probes
  split
  · rw [six_len]; omega
  · simp
theorem has_bit (x r : Nat) (h : x < 256) : (bits .and .u8 ((x : Int) / 2 ^ r) 1 == 0) = !(x.testBit r) := by
  have h2 : x / 2 ^ r ≤ x := Nat.div_le_self _ _
  have h3 := u8_and_nat (x / 2 ^ r) 1 (by omega) (by omega)
  rw [Int.natCast_ediv, show (((2 ^ r : Nat) : Int)) = (2 : Int) ^ r by simp, show ((1 : Nat) : Int) = 1 from rfl] at h3
  rw [h3, Nat.and_one_is_mod, Nat.testBit_eq_decide_div_mod_eq]
  have h4 : x / 2 ^ r % 2 = 0 ∨ x / 2 ^ r % 2 = 1 := by omega
  rcases h4 with h4 | h4 <;> rw [h4] <;> rfl
theorem bit_at (f : ByteArray) (p q r : Nat) (h : q < f.size) (hq : p / 8 = q) (hr : p % 8 = r) : bitAt f.data.toList p = f[q].toNat.testBit r := by
  unfold bitAt
  rw [hq, hr, List.getD_eq_getElem?_getD, byte_at f q h]
  rfl
theorem probes_lt {l : List UInt8} {m p : Nat} (hp : p ∈ probes l (m : Int)) : p < m := by
  unfold probes at hp
  split at hp
  · rw [Int.toNat_natCast] at hp
    exact six_lt (by omega) hp
  · simp at hp
theorem nums_at {l : List Nat} {k : Nat} {p : Nat} (h : l[k]? = some p) : (nums l)[k]? = some (p : Int) := by unfold nums; rw [List.getElem?_map, h]; rfl

set_option maxHeartbeats 1000000 in
theorem specMayHave (f s : ByteArray) (w : World) (hf : f.size ≤ 1048576) (hs : s.size ≤ maxLen) :
    Calls Try.prog 17 #[.string f, .string s] w fun e w' => e = .returned (.bool (mayHave f.data.toList s.data.toList)) ∧ Below w.heap.size w w' := by
  have hfl : f.data.toList.length = f.size := by simp
  have HFL := Lib.hid hfl
  clear hfl
  have H8 := Lib.hid (show (8 : Int) * (f.size : Int) = ((8 * f.size : Nat) : Int) by omega)
  go_enter Try.func17, Try.ntmps17
  go_wp2_with fail
  rw [H8.out]
  refine (specProbes s ((8 * f.size : Nat) : Int) _ hs).mono ?_
  rintro e w1 ⟨v, rfl, o1, b1⟩
  obtain ⟨ad, cp, rfl⟩ := o1.form
  have HPL := Lib.hid (show ∀ p, p ∈ probes s.data.toList ((8 * f.size : Nat) : Int) → p < 8 * f.size from fun p hp => probes_lt hp)
  obtain ⟨ps, hps⟩ : ∃ ps, probes s.data.toList ((8 * f.size : Nat) : Int) = ps := ⟨_, rfl⟩
  have HPS := Lib.hid (show probes s.data.toList ((8 * f.data.toList.length : Nat) : Int) = ps by rw [HFL.out]; exact hps)
  rw [hps] at HPL o1 ⊢
  rw [nums_len] at o1 ⊢
  have R1 := Lib.hid o1.row
  have B1 := Lib.hid b1
  have hnc := R1.out.2.1
  obtain ⟨n, hn⟩ : ∃ n, ps.length = n := ⟨_, rfl⟩
  have HN := Lib.hid hn
  have hn6 : n ≤ 6 := by rw [← hn, ← hps]; exact probes_len _ _
  rw [hn] at R1 hnc ⊢
  clear o1 b1 hps hn
  go_wp2_with fail
  go_loopw [6] (fun ii wr => ∃ k : Nat, k ≤ n ∧ ii = .int .i64 k ∧ Hid (∀ j q : Nat, j < k → ps[j]? = some q → bitAt f.data.toList q = true) ∧ ∃ m, wr = w1.drewN m) (fun ii _ => n - (intOf ii).toNat)
  case atStart => exact ⟨0, by omega, rfl, fun j q hj => absurd hj (by omega), 0, rfl⟩
  case round =>
    obtain ⟨k, hk, rfl, HA, m, rfl⟩ := hrel
    by_cases hlt : k < n
    · obtain ⟨p, hp⟩ : ∃ p, ps[k]? = some p := ⟨_, List.getElem?_eq_getElem (by rw [HN.out]; exact hlt)⟩
      obtain ⟨g, hg, c0⟩ := R1.out.2.2 k (p : Int) (nums_at hp)
      subst hg
      have hpl := HPL.out p (List.mem_of_getElem? hp)
      have HP := Lib.hid hp
      have k1 : (k : Int) < (n : Int) := by omega
      have k0 : (0 : Int) ≤ (k : Int) := by omega
      obtain ⟨q, hq⟩ : ∃ q, p / 8 = q := ⟨_, rfl⟩
      obtain ⟨r, hr⟩ : ∃ r, p % 8 = r := ⟨_, rfl⟩
      have hqf : q < f.size := by omega
      have hr8 : r < 8 := by omega
      have e1 : (p : Int) / 8 = (q : Int) := by omega
      have e2 : (p : Int) % 8 = (r : Int) := by omega
      have e3 : (q : Int) < (f.size : Int) := by omega
      obtain ⟨b, hb⟩ : ∃ b, f[q].toNat.testBit r = b := ⟨_, rfl⟩
      have HB := Lib.hid (show bitAt f.data.toList p = b by rw [bit_at f p q r hqf hq hr]; exact hb)
      have hbit := has_bit f[q].toNat r f[q].toNat_lt
      rw [hb] at hbit
      clear hp hb hq hr
      cases b
      · have hbit : (bits .and .u8 ((f[q].toNat : Int) / 2 ^ r) 1 == 0) = true := hbit
        go_wp2_with fail
        go_quiet (fail)
        go_wp2
        go_ret
        exact ⟨by rw [may_no (by rw [HPS.out]; exact List.mem_of_getElem? HP.out) HB.out]; rfl, B1.out.trans ((below_draws m).trans (below_draws _))⟩
      · have hbit : (bits .and .u8 ((f[q].toNat : Int) / 2 ^ r) 1 == 0) = false := hbit
        go_wp2_with fail
        go_quiet (fail)
        go_wp2
        go_roundw
        case rel =>
          refine ⟨k + 1, by omega, by go_num, fun j q hj hq => ?_, _, rfl⟩
          rcases Nat.lt_succ_iff_lt_or_eq.1 hj with h | rfl
          · exact HA.out j q h hq
          · rw [HP.out] at hq
            cases hq
            exact HB.out
        case measure => simp [intOf]; omega
    · obtain rfl : k = n := by omega
      go_wp2
      go_ret
      refine ⟨ret_bool ?_, B1.out.trans (below_draws m)⟩
      by_cases h0 : k = 0
      · subst h0
        rw [may_none (by rw [HPS.out]; exact List.eq_nil_of_length_eq_zero HN.out)]
        simp
      · rw [may_yes (by rw [HPS.out]; intro e; have := HN.out; rw [e] at this; simp at this; omega) (fun j q hq => by
          rw [HPS.out] at hq
          exact HA.out j q (by have := (List.getElem?_eq_some_iff.1 hq).1; rw [HN.out] at this; exact this) hq)]
        simp
        omega
end Go.Proofs.Ytlnjaebfdemlgaa
