/- Plain mathematics of decimal digits. -/
import Derived.Test.YtkomnnijnggbpaaGreatDoorZ0
import Derived.Lib.ItoaNum
namespace Go.Proofs.YtkomnnijnggbpaaGreatDoor
open Go.RowKit
set_option linter.unusedVariables false

def digs (u : Nat) : List UInt8 := if u = 0 then [] else Lib.decDigits u

theorem digs_step (u : Nat) (h : u ≠ 0) : digs u = digs (u / 10) ++ [UInt8.ofNat (48 + u % 10)] := by
 unfold digs
 rw [if_neg h]
 by_cases h10 : u < 10
 · have e : u / 10 = 0 := by omega
   have e2 : u % 10 = u := by omega
   rw [e, if_pos rfl, e2, Lib.decDigits_one h10]; rfl
 · rw [if_neg (by omega), Lib.decDigits, dif_neg h10]

theorem nDigits_le (u : Nat) (h : u < 18446744073709551616) : Lib.nDigits u ≤ 20 := by
 by_cases h0 : u = 0
 · subst h0; rw [Lib.nDigits_small (by omega)]; omega
 · have := Lib.numDigits_eq u (by omega) h
   have h2 := this.1
   have h3 := this.2
   split at h2 <;> omega

def Told (n k : Int) (l : List UInt8) : Prop := digs k.natAbs ++ l = Lib.decDigits n.natAbs

theorem Told.len {n k : Int} {l : List UInt8} (h : Told n k l) (h0 : -9223372036854775808 ≤ n) (h1 : n ≤ 9223372036854775807) : l.length ≤ 20 := by
 have e := congrArg List.length h
 rw [List.length_append, Lib.decDigits_length] at e
 have := nDigits_le n.natAbs (by omega)
 omega

theorem digit_fin : ∀ r : Fin 10, ((⟨#[48, 49, 50, 51, 52, 53, 54, 55, 56, 57]⟩ : ByteArray).extract r.val (r.val + 1)).data.toList = [UInt8.ofNat (48 + r.val)] := by decide +kernel


theorem digit_text (d : Int) (r : Nat) (l : List UInt8) (h : r < 10) (e : d = r) :
   (⟨#[48, 49, 50, 51, 52, 53, 54, 55, 56, 57]⟩ : ByteArray).extract d.toNat (d + 1).toNat ++ ⟨l.toArray⟩ = ⟨(UInt8.ofNat (48 + r) :: l).toArray⟩ := by
 subst e
 apply bytes_ext
 have e1 : ((r : Int) + 1).toNat = r + 1 := by omega
 have := digit_fin ⟨r, h⟩
 simp only at this
 rw [e1, Int.toNat_natCast, ByteArray.data_append, Array.toList_append, this]
 simp

theorem Told.next {n k k' : Int} {l : List UInt8} (h : Told n k l) (hk : k ≠ 0) (e : k'.natAbs = k.natAbs / 10) : Told n k' (UInt8.ofNat (48 + k.natAbs % 10) :: l) := by
 unfold Told at *
 rw [e, ← h, digs_step k.natAbs (by omega)]
 simp

theorem Told.done {n : Int} {l : List UInt8} (h : Told n 0 l) : l = Lib.decDigits n.natAbs := by
 unfold Told digs at h; simpa using h


end Go.Proofs.YtkomnnijnggbpaaGreatDoor
