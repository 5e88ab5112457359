/- Contracts of the program's Sealed and Opened and of the model's. -/
import Derived.Test.YtkomnnijnggbpaaCrc
import Derived.Test.YtkomnnijnggbpaaFixA
namespace Go.Proofs.Ytkomnnijnggbpaa
open Go.RowKit
set_option linter.unusedVariables false

/-- Sealed. -/
def sealedB (l : List UInt8) : List UInt8 := l ++ fixB (crc l) 4
theorem sealed_len (l : List UInt8) : (sealedB l).length = l.length + 4 := by unfold sealedB; rw [List.length_append, fix_length]
theorem sealed_text (s : ByteArray) : s ++ ⟨(fixB (crc s.data.toList) 4).toArray⟩ = ⟨(sealedB s.data.toList).toArray⟩ := by
  apply bytes_ext
  unfold sealedB
  simp
theorem putFix_crc (l : List UInt8) : putFix (crc l : Nat) 4 = fixB (crc l) 4 := putFix_in (n := crc l) (b := 4) (by omega) (by omega)

/-- The text of a seal, if it is one. -/
def openedB (l : List UInt8) : Option (List UInt8) := if 4 ≤ l.length ∧ sealedB (l.take (l.length - 4)) = l then some (l.take (l.length - 4)) else none
def opened1 (l : List UInt8) : List UInt8 := (openedB l).getD []
def opened2 (l : List UInt8) : Bool := (openedB l).isSome

set_option maxHeartbeats 400000 in
theorem specSealed (s : ByteArray) (w : World) (hs : s.size ≤ 1000000000) :
    Calls Try.prog 62 #[.string s] w (TextIs w (sealedB s.data.toList)) := by
  have HC := Lib.hid (crc_lt s.data.toList)
  have HP := Lib.hid (putFix_crc s.data.toList)
  go_enter Try.func62, Try.ntmps62
  go_wp2_with fail
  refine (specCrc s _ (by unfold maxLen; omega)).mono ?_
  rintro e w1 ⟨rfl, rfl⟩
  go_wp2_with fail
  refine (specPutFix _ _ _ (by have := HC.out; omega) (by have := HC.out; omega)).mono ?_
  rw [HP.out]
  rintro e w1 ⟨rfl, hb⟩
  have HB := Lib.hid hb
  have hl := fix_length (crc s.data.toList) 4
  have ht := sealed_text s
  generalize hq : (⟨(fixB (crc s.data.toList) 4).toArray⟩ : ByteArray) = q at ht ⊢
  have hq4 : q.size = 4 := by rw [← hq]; simpa [ByteArray.size] using hl
  have HT := Lib.hid ht
  have h4 : q.size ≤ 4 := by omega
  clear hb hl ht hq hq4
  go_wp2
  go_ret
  exact ⟨congrArg (fun b => Ending.returned (.string b)) HT.out, HB.out⟩

set_option maxHeartbeats 400000 in
theorem implSealed (s : ByteArray) (w : World) (hs : s.size ≤ 1000000000) :
    Calls Try.prog 56 #[.string s] w (TextIs w (sealedB s.data.toList)) := by
  have HC := Lib.hid (crc_lt s.data.toList)
  have HP := Lib.hid (putFix_crc s.data.toList)
  go_enter Try.func56, Try.ntmps56
  go_wp2_with fail
  refine (implCrc s _ (by unfold maxLen; omega)).mono ?_
  rintro e w1 ⟨rfl, hb1⟩
  have HB1 := Lib.hid hb1
  clear hb1
  go_wp2_with fail
  refine (implPutFix _ _ _ (by have := HC.out; omega) (by have := HC.out; omega)).mono ?_
  rw [HP.out]
  rintro e w2 ⟨rfl, hb⟩
  have HB := Lib.hid (HB1.out.trans (hb.mono HB1.out.size))
  have hl := fix_length (crc s.data.toList) 4
  have ht := sealed_text s
  generalize hq : (⟨(fixB (crc s.data.toList) 4).toArray⟩ : ByteArray) = q at ht ⊢
  have hq4 : q.size = 4 := by rw [← hq]; simpa [ByteArray.size] using hl
  have HT := Lib.hid ht
  have h4 : q.size ≤ 4 := by omega
  clear hb hl ht hq hq4
  go_wp2
  go_ret
  exact ⟨congrArg (fun b => Ending.returned (.string b)) HT.out, HB.out⟩
end Go.Proofs.Ytkomnnijnggbpaa
