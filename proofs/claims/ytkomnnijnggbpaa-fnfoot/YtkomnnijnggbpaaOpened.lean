/- Contracts of the program's Opened and of the model's. -/
import Derived.Test.YtkomnnijnggbpaaZ1
namespace Go.Proofs.Ytkomnnijnggbpaa
open Go.RowKit
set_option linter.unusedVariables false

def OpenOut (w : World) (l : List UInt8) (e : Ending) (w' : World) : Prop := e = .returned (.tuple #[.string ⟨(opened1 l).toArray⟩, .bool (opened2 l)]) ∧ Below w.heap.size w w'

theorem opened_no {l : List UInt8} (h : ¬ (4 ≤ l.length ∧ sealedB (l.take (l.length - 4)) = l)) : opened1 l = [] ∧ opened2 l = false := by
 unfold opened1 opened2 openedB; rw [if_neg h]; exact ⟨rfl, rfl⟩
theorem opened_yes {l : List UInt8} (h : 4 ≤ l.length ∧ sealedB (l.take (l.length - 4)) = l) : opened1 l = l.take (l.length - 4) ∧ opened2 l = true := by
 unfold opened1 opened2 openedB; rw [if_pos h]; exact ⟨rfl, rfl⟩
theorem ret_open {a b : ByteArray} {c d : Bool} (h1 : a = b) (h2 : c = d) : Ending.returned (.tuple #[.string a, .bool c]) = .returned (.tuple #[.string b, .bool d]) := by rw [h1, h2]
theorem head_list (s : ByteArray) (n : Nat) : (s.extract 0 n).data.toList = s.data.toList.take n := by
 simp [ByteArray.data_extract, Array.toList_extract, List.extract_eq_take_drop]
theorem head_is (s : ByteArray) (n : Nat) : s.extract 0 n = ⟨(s.data.toList.take n).toArray⟩ := by apply bytes_ext; rw [head_list]

set_option maxHeartbeats 400000 in
theorem implOpened (s : ByteArray) (w : World) (hs : s.size ≤ 1000000000) :
   Calls Try.prog 39 #[.string s] w (OpenOut w s.data.toList) := by
 have hl : s.data.toList.length = s.size := by simp
 by_cases h4 : s.size < 4
 · have HR := Lib.hid (opened_no (l := s.data.toList) (by rw [hl]; omega))
   clear hl
   go_enter Try.func39, Try.ntmps39
   go_wp2_with fail
   refine (take_no _ s 0 _ _ (rd_new w s 0) (by unfold maxLen; omega) (by omega)).mono ?_
   rintro e w1 ⟨rfl, m, rfl⟩
   go_wp2
   go_ret2
   exact ⟨ret_open (a := ⟨#[]⟩) (by rw [HR.out.1]) HR.out.2.symm, ((Below.refl _ _).alloc (Nat.le_refl _) _).trans (below_draws _)⟩
 · obtain ⟨n, hn⟩ : ∃ n, s.size = n + 4 := ⟨s.size - 4, by omega⟩
   have hn4 : s.size - 4 = n := by omega
   have hz : (s.extract 0 n).size ≤ 1000000000 := by rw [ByteArray.size_extract]; omega
   have hm1 : (s.size : Int) - 4 = (n : Int) := by omega
   have n1 : n ≤ s.size := by omega
   have HN := Lib.hid hn
   have hh := head_list s n
   have hi := head_is s n
   have HO := Lib.hid (And.intro (opened_no (l := s.data.toList)) (opened_yes (l := s.data.toList)))
   rw [hl, hn4] at HO
   have HH := Lib.hid hh
   have HI := Lib.hid hi
   clear hn hn4 hl h4 hh hi
   go_enter Try.func39, Try.ntmps39
   go_wp2_with fail
   refine (take_yes _ s 0 n _ (rd_new w s 0) (by unfold maxLen; omega) (by omega)).mono ?_
   unfold Taken
   rw [Nat.zero_add]
   rintro e w1 ⟨rfl, hr, hg⟩
   have HG := Lib.hid (below_new (World.grownBy_alloc w _ none) hg)
   clear hr hg
   go_wp2_with fail
   refine (implSealed (s.extract 0 n) _ hz).mono ?_
   rw [HH.out]
   rintro e w2 ⟨rfl, hb1⟩
   have HB1 := Lib.hid (HG.out.trans (hb1.mono HG.out.size))
   clear hb1
   go_wp2_with fail
   · have ht : (!sealedB (s.data.toList.take n) == s.toList) = true := by assumption
     have hw : ¬ sealedB (s.data.toList.take n) = s.data.toList := by rw [ByteArray.toList_eq] at ht; simpa using ht
     have hr := HO.out.1 (fun h => hw h.2)
     go_ret2
     exact ⟨ret_open (a := ⟨#[]⟩) (by rw [hr.1]) hr.2.symm, HB1.out⟩
   · have ht : (!sealedB (s.data.toList.take n) == s.toList) = false := by assumption
     have hw : sealedB (s.data.toList.take n) = s.data.toList := by rw [ByteArray.toList_eq] at ht; simpa using ht
     have hr := HO.out.2 ⟨by have := HN.out; omega, hw⟩
     go_ret2
     exact ⟨ret_open (by rw [hr.1]; exact HI.out) hr.2.symm, HB1.out⟩
end Go.Proofs.Ytkomnnijnggbpaa
