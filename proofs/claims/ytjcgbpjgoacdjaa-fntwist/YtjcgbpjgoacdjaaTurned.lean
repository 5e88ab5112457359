/- A byte of a text turned; a byte of a code that is looked at. -/
import Derived.Test.YtjcgbpjgoacdjaaAt
import Derived.Test.YtjcgbpjgoacdjaaBig
import Derived.Test.YtjcgbpjgoacdjaaBuf
import Derived.Test.YtjcgbpjgoacdjaaZ0
import Derived.StillTailTactics
namespace Go.Proofs.Ytjcgbpjgoacdjaa
open Go.RowKit
set_option linter.unusedVariables false

theorem at_one (a : Option Addr) (len cap : Nat) (zs : List Int) (i : Nat) {p : Nat} (w : World) (hr : Bytes w p a len zs) (hl : len ≤ 1048576) (hi : i ≤ 1000000) :
   ∃ v : Nat, v ≤ 255 ∧ True ∧ ∀ W : World, (∀ x, W.cell? x = w.cell? x) → W.heap.size = w.heap.size → Calls Try.prog 25 #[.slice a len cap, .int .i64 i] W fun e w' => e = .returned (.int .i64 v) ∧ w' = W := by
 by_cases h : i < len
 · obtain ⟨b, off, rfl, hb, hne, hc, hr1, hr2⟩ := hr.2 i h
   obtain ⟨z, hz⟩ : ∃ z, zs.getD i 0 = z := ⟨_, rfl⟩
   rw [hz] at hc hr1 hr2
   obtain ⟨z, rfl⟩ := Int.eq_ofNat_of_zero_le hr1
   refine ⟨z, by omega, trivial, fun W hW hWs => ?_⟩
   have hcW : W.cell? ⟨b, off + i, none⟩ = some (.int .u8 (z : Int)) := (hW _).trans hc
   have i1 : (i : Int) < (len : Int) := by omega
   clear hr hz hW hc hWs hb
   go_enter Try.func25, Try.ntmps25
   go_wp2
   go_ret
   exact ⟨rfl, rfl⟩
 · refine ⟨(i * 7 + len) % 256, by omega, trivial, fun W hW hWs => ?_⟩
   clear hr hW hWs
   go_enter Try.func25, Try.ntmps25
   go_wp2
   go_ret
   exact ⟨ret_int (by omega), rfl⟩

theorem text_size (l : List UInt8) : (⟨l.toArray⟩ : ByteArray).size = l.length := by simp [ByteArray.size]
def turned (c : UInt8) (v : Nat) : UInt8 := UInt8.ofNat (c.toNat ^^^ (1 + v % 255))
theorem turned_nat (c : UInt8) (v : Nat) : (turned c v).toNat = c.toNat ^^^ (1 + v % 255) := by
 unfold turned
 rw [UInt8.toNat_ofNat']
 have h1 : c.toNat ^^^ (1 + v % 255) < 2 ^ 8 := Nat.xor_lt_two_pow c.toNat_lt (by omega)
 exact Nat.mod_eq_of_lt h1
theorem turned_val (c : UInt8) (v : Nat) : Value.int .u8 (bits .xor .u8 (c.toNat : Int) (1 + (v : Int) % 255)) = u8v (turned c v) := by
 have hc := c.toNat_lt
 have e : 1 + (v : Int) % 255 = ((1 + v % 255 : Nat) : Int) := by omega
 unfold u8v
 rw [e, u8_xor_nat _ _ (by omega) (by omega), turned_nat]
theorem turned_ne (c : UInt8) (v : Nat) : c ≠ turned c v := by
 intro h
 have h1 := congrArg UInt8.toNat h
 rw [turned_nat] at h1
 have h2 : c.toNat ^^^ c.toNat = c.toNat ^^^ (c.toNat ^^^ (1 + v % 255)) := by rw [← h1]
 rw [← Nat.xor_assoc, Nat.xor_self, Nat.zero_xor] at h2
 omega
end Go.Proofs.Ytjcgbpjgoacdjaa
