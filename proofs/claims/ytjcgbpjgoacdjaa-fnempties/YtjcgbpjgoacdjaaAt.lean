/- The laws' look at a byte of a code. -/
import Derived.Test.YtjcgbpjgoacdjaaProg
import Derived.Test.YtjcgbpjgoacdjaaZ0
namespace Go.Proofs.Ytjcgbpjgoacdjaa
open Go.RowKit
set_option linter.unusedVariables false

def SomeAt (w : World) (e : Ending) (w' : World) : Prop := ∃ x : Nat, x ≤ 255 ∧ e = .returned (.int .i64 x) ∧ w = w'

theorem at_some (a : Option Addr) (len cap : Nat) (zs : List Int) (i p : Nat) (w : World) (hr : Bytes w p a len zs) (hl : len ≤ 1048576) (hi : i ≤ 1000000) :
   Calls Try.prog 25 #[.slice a len cap, .int .i64 i] w (SomeAt w) := by
 by_cases h : i < len
 · obtain ⟨b, off, rfl, hb, hne, hc, hr1, hr2⟩ := hr.2 i h
   obtain ⟨z, hz⟩ : ∃ z, zs.getD i 0 = z := ⟨_, rfl⟩
   rw [hz] at hc hr1 hr2
   obtain ⟨z, rfl⟩ := Int.eq_ofNat_of_zero_le hr1
   have i1 : (i : Int) < (len : Int) := by omega
   clear hr hz
   go_enter Try.func25, Try.ntmps25
   go_wp2
   go_ret
   exact ⟨z, by omega, rfl, rfl⟩
 · clear hr
   go_enter Try.func25, Try.ntmps25
   go_wp2
   go_ret
   exact ⟨(i * 7 + len) % 256, by omega, ret_int (by omega), rfl⟩
end Go.Proofs.Ytjcgbpjgoacdjaa
