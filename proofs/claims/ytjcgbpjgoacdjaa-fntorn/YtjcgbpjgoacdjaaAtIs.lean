/- The byte of a code that the laws look at, by its value. -/
import Derived.Test.YtjcgbpjgoacdjaaAt
import Derived.Test.YtjcgbpjgoacdjaaZ0
namespace Go.Proofs.Ytjcgbpjgoacdjaa
open Go.RowKit
set_option linter.unusedVariables false

def atOf (len : Nat) (zs : List Int) (i : Nat) : Nat := if i < len then (zs.getD i 0).toNat else (i * 7 + len) % 256
theorem at_is (a : Option Addr) (len cap : Nat) (zs : List Int) (i p : Nat) (w : World) (hr : Bytes w p a len zs) (hl : len ≤ 1048576) (hi : i ≤ 1000000) :
   Calls Try.prog 25 #[.slice a len cap, .int .i64 i] w fun e w' => e = .returned (.int .i64 (atOf len zs i : Nat)) ∧ w' = w := by
 unfold atOf
 by_cases h : i < len
 · obtain ⟨b, off, rfl, hb, hne, hc, hr1, hr2⟩ := hr.2 i h
   rw [if_pos h]
   obtain ⟨z, hz⟩ : ∃ z, zs.getD i 0 = z := ⟨_, rfl⟩
   rw [hz] at hc hr1 hr2 ⊢
   obtain ⟨z, rfl⟩ := Int.eq_ofNat_of_zero_le hr1
   have i1 : (i : Int) < (len : Int) := by omega
   rw [Int.toNat_natCast]
   clear hr hz
   go_enter Try.func25, Try.ntmps25
   go_wp2
   go_ret
   exact ⟨rfl, rfl⟩
 · rw [if_neg h]
   clear hr
   go_enter Try.func25, Try.ntmps25
   go_wp2
   go_ret
   exact ⟨ret_int (by omega), rfl⟩
end Go.Proofs.Ytjcgbpjgoacdjaa
