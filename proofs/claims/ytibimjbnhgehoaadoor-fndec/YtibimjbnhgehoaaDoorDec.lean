/- Contracts of the model's DecText and the program's: each tells the decimal digits of a number. -/
import Derived.Test.YtibimjbnhgehoaaDoorProg
import Derived.Test.YtibimjbnhgehoaaDoorBase
import Derived.Lib.ItoaNum
namespace Go.Proofs.YtibimjbnhgehoaaDoor
open Go.RowKit
set_option linter.unusedVariables false

/-- The digits of a number, none of 0. -/
def digs (u : Nat) : List UInt8 := if u = 0 then [] else Lib.decDigits u

theorem digs_step (u : Nat) (h : u ≠ 0) : digs u = digs (u / 10) ++ [UInt8.ofNat (48 + u % 10)] := by
  unfold digs
  rw [if_neg h]
  by_cases h10 : u < 10
  · have e : u / 10 = 0 := by omega
    have e2 : u % 10 = u := by omega
    rw [e, if_pos rfl, e2, Lib.decDigits_one h10]; rfl
  · rw [if_neg (by omega), Lib.decDigits, dif_neg h10]

theorem nDigits_le (u : Nat) (h : u < 18446744073709551616) : Lib.nDigits u ≤ 20 := by
  by_cases h0 : u = 0
  · subst h0; rw [Lib.nDigits_small (by omega)]; omega
  · have := Lib.numDigits_eq u (by omega) h
    have h2 := this.1
    have h3 := this.2
    split at h2 <;> omega

/-- The texts that the loop makes: what is left of the number, and what is told. -/
def Told (n k : Int) (l : List UInt8) : Prop := digs k.natAbs ++ l = Lib.decDigits n.natAbs

theorem Told.len {n k : Int} {l : List UInt8} (h : Told n k l) (h0 : -9223372036854775808 ≤ n) (h1 : n ≤ 9223372036854775807) : l.length ≤ 20 := by
  have e := congrArg List.length h
  rw [List.length_append, Lib.decDigits_length] at e
  have := nDigits_le n.natAbs (by omega)
  omega

theorem digit_fin : ∀ r : Fin 10, ((⟨#[48, 49, 50, 51, 52, 53, 54, 55, 56, 57]⟩ : ByteArray).extract r.val (r.val + 1)).data.toList = [UInt8.ofNat (48 + r.val)] := by decide +kernel


/-- The digit of a rest, ahead of what is told. -/
theorem digit_text (d : Int) (r : Nat) (l : List UInt8) (h : r < 10) (e : d = r) :
    (⟨#[48, 49, 50, 51, 52, 53, 54, 55, 56, 57]⟩ : ByteArray).extract d.toNat (d + 1).toNat ++ ⟨l.toArray⟩ = ⟨(UInt8.ofNat (48 + r) :: l).toArray⟩ := by
  subst e
  apply bytes_ext
  have e1 : ((r : Int) + 1).toNat = r + 1 := by omega
  have := digit_fin ⟨r, h⟩
  simp only at this
  rw [e1, Int.toNat_natCast, ByteArray.data_append, Array.toList_append, this]
  simp

theorem Told.next {n k k' : Int} {l : List UInt8} (h : Told n k l) (hk : k ≠ 0) (e : k'.natAbs = k.natAbs / 10) : Told n k' (UInt8.ofNat (48 + k.natAbs % 10) :: l) := by
  unfold Told at *
  rw [e, ← h, digs_step k.natAbs (by omega)]
  simp

theorem Told.done {n : Int} {l : List UInt8} (h : Told n 0 l) : l = Lib.decDigits n.natAbs := by
  unfold Told digs at h; simpa using h


set_option maxHeartbeats 400000 in
theorem specDecText_pos (n : Int) (w : World) (h0 : 0 < n) (h1 : n ≤ 9223372036854775807) :
    Calls Tryd.prog 10 #[.int .i64 n] w fun e w' => e = .returned (.string ⟨(Lib.itoa n).toArray⟩) ∧ w = w' := by
  have hz' : (n == 0) = false := by simp; omega
  have hn0 : ¬ n < 0 := by omega
  go_enter Tryd.func10, Tryd.ntmps10
  go_wp2
  go_loop [3, 4, 5] (fun out m d => ∃ (k : Int) (l : List UInt8), 0 ≤ k ∧ k ≤ 9223372036854775807 ∧ l.length ≤ 20 ∧ m = .int .i64 k ∧ out = .string ⟨l.toArray⟩ ∧ Told n k l) (fun _ m _ => (intOf m).natAbs)
  case atStart => exact ⟨n, [], by omega, h1, by simp, rfl, rfl, by unfold Told digs; rw [if_neg (by omega)]; simp⟩
  case round =>
    obtain ⟨k, l, hk0, hk1, hl, rfl, rfl, HT⟩ := hrel
    by_cases hk : k = 0
    · subst hk
      go_wp2
      go_ret
      exact ⟨ret_text (by rw [HT.done]; unfold Lib.itoa; rw [if_neg (by omega)]; congr 1; omega), rfl⟩
    · have hk' : (k != 0) = true := by simpa using hk
      have hk2 : 0 < k := by omega
      have HT2 := HT.next hk (k' := k / 10) (by omega)
      clear hk
      go_wp2
      go_round
      case rel => exact ⟨k / 10, _, by omega, by omega, HT2.len (by omega) h1, rfl, congrArg Value.string (digit_text _ (k.natAbs % 10) l (by omega) (by omega)), HT2⟩
      case measure => simp [intOf]; omega

theorem neg_parts (k : Int) (h : k ≤ 0) : k.tmod 10 = -((k.natAbs % 10 : Nat) : Int) ∧ k.tdiv 10 = -((k.natAbs / 10 : Nat) : Int) := by
  obtain ⟨u, hu⟩ : ∃ u : Nat, k = -(u : Int) := ⟨k.natAbs, by omega⟩
  subst hu
  rw [Int.neg_tmod, Int.neg_tdiv, Int.natAbs_neg, Int.natAbs_natCast]
  exact ⟨by rw [Int.tmod_eq_emod_of_nonneg (by omega)]; omega, by rw [Int.tdiv_eq_ediv_of_nonneg (by omega)]; omega⟩

set_option maxHeartbeats 400000 in
theorem specDecText_neg (n : Int) (w : World) (h0 : -9223372036854775808 ≤ n) (h1 : n < 0) :
    Calls Tryd.prog 10 #[.int .i64 n] w fun e w' => e = .returned (.string ⟨(Lib.itoa n).toArray⟩) ∧ w = w' := by
  have hz' : (n == 0) = false := by simp; omega
  go_enter Tryd.func10, Tryd.ntmps10
  go_wp2
  go_loop [3, 4, 5] (fun out m d => ∃ (k : Int) (l : List UInt8), -9223372036854775808 ≤ k ∧ k ≤ 0 ∧ l.length ≤ 20 ∧ m = .int .i64 k ∧ out = .string ⟨l.toArray⟩ ∧ Told n k l) (fun _ m _ => (intOf m).natAbs)
  case atStart => exact ⟨n, [], h0, by omega, by simp, rfl, rfl, by unfold Told digs; rw [if_neg (by omega)]; simp⟩
  case round =>
    obtain ⟨k, l, hk0, hk1, hl, rfl, rfl, HT⟩ := hrel
    by_cases hk : k = 0
    · subst hk
      go_wp2
      go_ret
      refine ⟨congrArg (fun b => Ending.returned (.string b)) (bytes_ext ?_), rfl⟩
      rw [HT.done]; unfold Lib.itoa; rw [if_pos (by omega)]; simp
    · have hk' : (k != 0) = true := by simpa using hk
      have hk2 : k < 0 := by omega
      have np := neg_parts k hk1
      have HT2 := HT.next hk (k' := k.tdiv 10) (by omega)
      have t1 : -10 < k.tmod 10 := by omega
      have t2 : k.tmod 10 ≤ 0 := by omega
      have NP := Lib.hid np
      clear hk np
      by_cases hd : k.tmod 10 < 0
      · go_wp2
        go_round
        case rel => exact ⟨k.tdiv 10, _, by have := NP.out; omega, by have := NP.out; omega, HT2.len h0 (by omega), rfl, congrArg Value.string (digit_text _ (k.natAbs % 10) l (by omega) (by have := NP.out; omega)), HT2⟩
        case measure => show (k.tdiv 10).natAbs < k.natAbs; have := NP.out; omega
      · go_wp2
        go_round
        case rel => exact ⟨k.tdiv 10, _, by have := NP.out; omega, by have := NP.out; omega, HT2.len h0 (by omega), rfl, congrArg Value.string (digit_text _ (k.natAbs % 10) l (by omega) (by have := NP.out; omega)), HT2⟩
        case measure => show (k.tdiv 10).natAbs < k.natAbs; have := NP.out; omega

theorem specDecText (n : Int) (w : World) (h0 : -9223372036854775808 ≤ n) (h1 : n ≤ 9223372036854775807) :
    Calls Tryd.prog 10 #[.int .i64 n] w fun e w' => e = .returned (.string ⟨(Lib.itoa n).toArray⟩) ∧ w = w' := by
  by_cases hz : n = 0
  · subst hz
    go_enter Tryd.func10, Tryd.ntmps10
    go_wp2
    go_ret
    exact ⟨by simp [Lib.itoa, Lib.decDigits], rfl⟩
  · by_cases hn : n < 0
    · exact specDecText_neg n w h0 hn
    · exact specDecText_pos n w (by omega) h1
end Go.Proofs.YtibimjbnhgehoaaDoor
