/- Contract of the program's PutFix. -/

import Derived.Test.YtgonnibakkabjabRowsA
import Derived.Test.YtgonnibakkabjabPureA
namespace Go.Proofs.Ytgonnibakkabjab
open Go.RowKit
set_option linter.unusedVariables false

/-- A text that was made; nothing that lay there has turned. -/
def TextIs (w : World) (l : List UInt8) (e : Ending) (w' : World) : Prop := e = .returned (.string ⟨l.toArray⟩) ∧ Below w.heap.size w w'

theorem TextIs.text {w w' : World} {l : List UInt8} {e : Ending} (h : TextIs w l e w') : ∃ S : ByteArray, S.data.toList = l ∧ S.size = l.length ∧ e = .returned (.string S) ∧ Below w.heap.size w w' :=
  ⟨⟨l.toArray⟩, rfl, by simp [ByteArray.size], h.1, h.2⟩
theorem putFix_no {n b : Int} (h : n < 0 ∨ b < 1 ∨ 4 < b) : putFix n b = [] := by unfold putFix; rw [if_neg (by omega)]
theorem putFix_in {n b : Nat} (h1 : 1 ≤ b) (h4 : b ≤ 4) : putFix n b = fixB n b := by unfold putFix; rw [if_pos (by omega)]; rfl

theorem byteInt (n k : Nat) : ((n : Int) / 2 ^ (8 * k) % 256) = ((UInt8.ofNat (n / 2 ^ (8 * k))).toNat : Int) := by
  have e : (n : Int) / 2 ^ (8 * k) = ((n / 2 ^ (8 * k) : Nat) : Int) := by simp
  rw [e, UInt8.toNat_ofNat']
  omega

theorem fix_set (n b k : Nat) (h : k < b) : (fixB n k ++ List.replicate (b - k) 0).set k (UInt8.ofNat (n / 2 ^ (8 * k))) = fixB n (k + 1) ++ List.replicate (b - (k + 1)) 0 := by
  rw [List.set_append_right _ _ (by rw [fix_length]; omega), fix_length, Nat.sub_self]
  have e : b - k = (b - (k + 1)) + 1 := by omega
  rw [e, List.replicate_succ, List.set_cons_zero, fix_succ]
  simp

set_option maxHeartbeats 400000 in
theorem implPutFix_in (n b : Nat) (w : World) (hn : (n : Int) ≤ 9223372036854775807) (h1 : 1 ≤ b) (h4 : b ≤ 4) :
    Calls Try.prog 36 #[.int .i64 n, .int .i64 b] w (TextIs w (fixB n b)) := by
  go_enter Try.func36, Try.ntmps36
  go_wp2_with (at_make; refine wp_makeB rfl _ _ rfl _ _ b rfl rfl rfl rfl (by omega) ?_; intro w2 t2; have T2 := Lib.hid t2; clear t2)
  go_loopw [21] (fun i wr => ∃ (k : Nat), k ≤ b ∧ i = .int .i64 k ∧ BArr w wr w.heap.size (fixB n k ++ List.replicate (b - k) 0)) (fun i _ => b - (intOf i).toNat)
  case atStart => exact ⟨0, Nat.zero_le _, rfl, T2.out⟩
  case round =>
    obtain ⟨k, hk, rfl, t⟩ := hrel
    have TT := Lib.hid t
    by_cases hlt : k < b
    · have HS := Lib.hid (fix_set n b k hlt)
      have hc := t.cell k (by simp [fix_length]; omega)
      have hf := t.frozen k
      clear t
      go_wp2
      go_roundw
      case rel => exact ⟨k + 1, by omega, by go_num, by rw [← HS.out]; exact TT.out.set k _ (by unfold u8v; rw [← byteInt])⟩
      case measure => simp [intOf]; omega
    · obtain rfl : k = b := by omega
      have hcv := t.str (c := k) (n := k) (by simp [fix_length])
      clear t
      go_wp2
      go_ret
      exact ⟨ret_text (by simp), TT.out.below⟩

set_option maxHeartbeats 400000 in
theorem implPutFix (n b : Int) (w : World) (h0 : -9223372036854775808 ≤ n) (h1 : n ≤ 9223372036854775807) :
    Calls Try.prog 36 #[.int .i64 n, .int .i64 b] w (TextIs w (putFix n b)) := by
  by_cases hn : n < 0
  · go_enter Try.func36, Try.ntmps36
    go_wp2
    go_ret
    exact ⟨ret_text (a := []) (putFix_no (by omega)).symm, Below.refl _ _⟩
  · obtain ⟨n, rfl⟩ := Int.eq_ofNat_of_zero_le (by omega : 0 ≤ n)
    by_cases hb : b < 1
    · go_enter Try.func36, Try.ntmps36
      go_wp2
      go_ret
      exact ⟨ret_text (a := []) (putFix_no (by omega)).symm, Below.refl _ _⟩
    · by_cases hb4 : 4 < b
      · go_enter Try.func36, Try.ntmps36
        go_wp2
        go_ret
        exact ⟨ret_text (a := []) (putFix_no (by omega)).symm, Below.refl _ _⟩
      · obtain ⟨b, rfl⟩ := Int.eq_ofNat_of_zero_le (by omega : 0 ≤ b)
        rw [putFix_in (by omega) (by omega)]
        exact implPutFix_in n b w h1 (by omega) (by omega)
end Go.Proofs.Ytgonnibakkabjab
