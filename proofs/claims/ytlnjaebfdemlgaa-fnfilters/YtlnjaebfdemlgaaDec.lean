/- Contracts of the model's DecText and the program's: each tells the decimal digits of a number. -/
import Derived.Test.YtlnjaebfdemlgaaProg
import Derived.Test.YtlnjaebfdemlgaaDigs
namespace Go.Proofs.Ytlnjaebfdemlgaa
open Go.RowKit
set_option linter.unusedVariables false

set_option maxHeartbeats 400000 in
theorem specDecText_pos (n : Int) (w : World) (h0 : 0 < n) (h1 : n ≤ 9223372036854775807) :
    Calls Try.prog 27 #[.int .i64 n] w fun e w' => e = .returned (.string ⟨(Lib.itoa n).toArray⟩) ∧ w = w' := by
  have hz' : (n == 0) = false := by simp; omega
  have hn0 : ¬ n < 0 := by omega
  go_enter Try.func27, Try.ntmps27
  go_wp2
  go_loop [3, 4, 5] (fun out m d => ∃ (k : Int) (l : List UInt8), 0 ≤ k ∧ k ≤ 9223372036854775807 ∧ l.length ≤ 20 ∧ m = .int .i64 k ∧ out = .string ⟨l.toArray⟩ ∧ Told n k l) (fun _ m _ => (intOf m).natAbs)
  case atStart => exact ⟨n, [], by omega, h1, by simp, rfl, rfl, by unfold Told digs; rw [if_neg (by omega)]; simp⟩
  case round =>
    obtain ⟨k, l, hk0, hk1, hl, rfl, rfl, HT⟩ := hrel
    by_cases hk : k = 0
    · subst hk
      go_wp2
      go_ret
      exact ⟨ret_text (by rw [HT.done]; unfold Lib.itoa; rw [if_neg (by omega)]; congr 1; omega), rfl⟩
    · have hk' : (k != 0) = true := by simpa using hk
      have hk2 : 0 < k := by omega
      have HT2 := HT.next hk (k' := k / 10) (by omega)
      clear hk
      go_wp2
      go_round
      case rel => exact ⟨k / 10, _, by omega, by omega, HT2.len (by omega) h1, rfl, congrArg Value.string (digit_text _ (k.natAbs % 10) l (by omega) (by omega)), HT2⟩
      case measure => simp [intOf]; omega

theorem neg_parts (k : Int) (h : k ≤ 0) : k.tmod 10 = -((k.natAbs % 10 : Nat) : Int) ∧ k.tdiv 10 = -((k.natAbs / 10 : Nat) : Int) := by
  obtain ⟨u, hu⟩ : ∃ u : Nat, k = -(u : Int) := ⟨k.natAbs, by omega⟩
  subst hu
  rw [Int.neg_tmod, Int.neg_tdiv, Int.natAbs_neg, Int.natAbs_natCast]
  exact ⟨by rw [Int.tmod_eq_emod_of_nonneg (by omega)]; omega, by rw [Int.tdiv_eq_ediv_of_nonneg (by omega)]; omega⟩

set_option maxHeartbeats 400000 in
theorem specDecText_neg (n : Int) (w : World) (h0 : -9223372036854775808 ≤ n) (h1 : n < 0) :
    Calls Try.prog 27 #[.int .i64 n] w fun e w' => e = .returned (.string ⟨(Lib.itoa n).toArray⟩) ∧ w = w' := by
  have hz' : (n == 0) = false := by simp; omega
  go_enter Try.func27, Try.ntmps27
  go_wp2
  go_loop [3, 4, 5] (fun out m d => ∃ (k : Int) (l : List UInt8), -9223372036854775808 ≤ k ∧ k ≤ 0 ∧ l.length ≤ 20 ∧ m = .int .i64 k ∧ out = .string ⟨l.toArray⟩ ∧ Told n k l) (fun _ m _ => (intOf m).natAbs)
  case atStart => exact ⟨n, [], h0, by omega, by simp, rfl, rfl, by unfold Told digs; rw [if_neg (by omega)]; simp⟩
  case round =>
    obtain ⟨k, l, hk0, hk1, hl, rfl, rfl, HT⟩ := hrel
    by_cases hk : k = 0
    · subst hk
      go_wp2
      go_ret
      refine ⟨congrArg (fun b => Ending.returned (.string b)) (bytes_ext ?_), rfl⟩
      rw [HT.done]; unfold Lib.itoa; rw [if_pos (by omega)]; simp
    · have hk' : (k != 0) = true := by simpa using hk
      have hk2 : k < 0 := by omega
      have np := neg_parts k hk1
      have HT2 := HT.next hk (k' := k.tdiv 10) (by omega)
      have t1 : -10 < k.tmod 10 := by omega
      have t2 : k.tmod 10 ≤ 0 := by omega
      have NP := Lib.hid np
      clear hk np
      by_cases hd : k.tmod 10 < 0
      · go_wp2
        go_round
        case rel => exact ⟨k.tdiv 10, _, by have := NP.out; omega, by have := NP.out; omega, HT2.len h0 (by omega), rfl, congrArg Value.string (digit_text _ (k.natAbs % 10) l (by omega) (by have := NP.out; omega)), HT2⟩
        case measure => show (k.tdiv 10).natAbs < k.natAbs; have := NP.out; omega
      · go_wp2
        go_round
        case rel => exact ⟨k.tdiv 10, _, by have := NP.out; omega, by have := NP.out; omega, HT2.len h0 (by omega), rfl, congrArg Value.string (digit_text _ (k.natAbs % 10) l (by omega) (by have := NP.out; omega)), HT2⟩
        case measure => show (k.tdiv 10).natAbs < k.natAbs; have := NP.out; omega

theorem specDecText (n : Int) (w : World) (h0 : -9223372036854775808 ≤ n) (h1 : n ≤ 9223372036854775807) :
    Calls Try.prog 27 #[.int .i64 n] w fun e w' => e = .returned (.string ⟨(Lib.itoa n).toArray⟩) ∧ w = w' := by
  by_cases hz : n = 0
  · subst hz
    go_enter Try.func27, Try.ntmps27
    go_wp2
    go_ret
    exact ⟨by simp [Lib.itoa, Lib.decDigits], rfl⟩
  · by_cases hn : n < 0
    · exact specDecText_neg n w h0 hn
    · exact specDecText_pos n w (by omega) h1
end Go.Proofs.Ytlnjaebfdemlgaa
