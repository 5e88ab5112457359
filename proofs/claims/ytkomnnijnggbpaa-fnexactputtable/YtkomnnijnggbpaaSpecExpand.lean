/- Contract of the model's Expand. -/
import Derived.Test.YtkomnnijnggbpaaOpsA
import Derived.Test.YtkomnnijnggbpaaSpecCompress
import Derived.BigQuiet
namespace Go.Proofs.Ytkomnnijnggbpaa
open Go.RowKit
set_option linter.unusedVariables false

/-- Expand's two answers. -/
def ExpOut (w : World) (l : List UInt8) (e : Ending) (w' : World) : Prop := e = .returned (.tuple #[.string ⟨(expand1 l).toArray⟩, .bool (expand2 l)]) ∧ Below w.heap.size w w'

theorem ret_exp {a b : ByteArray} {c d : Bool} (h1 : a = b) (h2 : c = d) : Ending.returned (.tuple #[.string a, .bool c]) = .returned (.tuple #[.string b, .bool d]) := by rw [h1, h2]
theorem exp_none {l : List UInt8} (h : decFrom l 0 [] = none) : expand1 l = [] ∧ expand2 l = false := by unfold expand1 expand2 expandB; rw [h]; exact ⟨rfl, rfl⟩
theorem exp_yes {l out : List UInt8} (h : decFrom l 0 [] = some out) (h2 : compress out = l) : expand1 l = out ∧ expand2 l = true := by unfold expand1 expand2 expandB; rw [h]; simp [h2]
theorem exp_no {l out : List UInt8} (h : decFrom l 0 [] = some out) (h2 : ¬ compress out = l) : expand1 l = [] ∧ expand2 l = false := by unfold expand1 expand2 expandB; rw [h]; simp [h2]

/-- Bytes gathered: how long the slice is, and where they lie. -/
theorem BRow.form {w0 w : World} {v : Value} {xs : List UInt8} (t : BRow w0 w v xs) : ∃ (a : Option Addr) (c : Nat), v = .slice a xs.length c ∧ ∀ j, j < xs.length → ∃ g, a = some ⟨g, 0, none⟩ ∧ xs.length ≤ c ∧ w.cell? ⟨g, j, none⟩ = some (u8v (xs.getD j 0)) := by
  rcases t.row.2 with ⟨h0, hn⟩ | ⟨g, cap, cur, h1, _, _, hc, _⟩
  · exact ⟨none, 0, by rw [hn]; exact h0, fun j hj => by omega⟩
  · subst h1
    exact ⟨_, cap, rfl, fun j hj => ⟨g, rfl, hc, t.cell j hj⟩⟩

/-- What is made behind a row leaves it. -/
theorem BRow.later {w0 w w' : World} {v : Value} {xs : List UInt8} (t : BRow w0 w v xs) (hb : Below w.heap.size w w') : BRow w0 w' v xs := by
  refine ⟨?_, t.below.trans (hb.mono t.below.size)⟩
  refine ⟨t.row.1, ?_⟩
  rcases t.row.2 with h2 | ⟨g, cap, cur, h1, h2, h3, r⟩
  · exact .inl h2
  · exact .inr ⟨g, cap, cur, h1, h2, (hb.block g ((Array.getElem?_eq_some_iff.1 h3).1)).trans h3, r⟩
theorem BRow.str2 {w0 w : World} {a : Option Addr} {c n : Nat} {xs : List UInt8} (t : BRow w0 w (.slice a n c) xs) : (convert 22 9 (.slice a n c)).run Try.prog w = .ok (.string ⟨xs.toArray⟩) w := by
  obtain ⟨n', c', a', hv, h⟩ := brow_conv t
  cases hv
  exact h
theorem dec_text {s out : List UInt8} {i : Nat} (h : i < s.length) (hb : 1 ≤ s[i].toNat ∧ s[i].toNat ≤ 127) (hl : i + 1 + s[i].toNat ≤ s.length) : decFrom s i out = decFrom s (i + 1 + s[i].toNat) (out ++ (s.drop (i + 1)).take s[i].toNat) := by
  rw [decFrom, dif_pos h, dif_pos hb, if_pos hl]
theorem dec_cut {s out : List UInt8} {i : Nat} (h : i < s.length) (hb : 1 ≤ s[i].toNat ∧ s[i].toNat ≤ 127) (hl : ¬ i + 1 + s[i].toNat ≤ s.length) : decFrom s i out = none := by
  rw [decFrom, dif_pos h, dif_pos hb, if_neg hl]
theorem dec_bad {s out : List UInt8} {i : Nat} (h : i < s.length) (hb : ¬ (1 ≤ s[i].toNat ∧ s[i].toNat ≤ 127)) (hc : s[i].toNat = 0 ∨ s.length ≤ i + 1 ∨ (s.getD (i + 1) 0).toNat = 0 ∨ out.length < (s.getD (i + 1) 0).toNat ∨ 2000 < out.length) : decFrom s i out = none := by
  rw [decFrom, dif_pos h, dif_neg hb, if_pos hc]
theorem dec_copy {s out : List UInt8} {i : Nat} (h : i < s.length) (hb : ¬ (1 ≤ s[i].toNat ∧ s[i].toNat ≤ 127)) (hc : ¬ (s[i].toNat = 0 ∨ s.length ≤ i + 1 ∨ (s.getD (i + 1) 0).toNat = 0 ∨ out.length < (s.getD (i + 1) 0).toNat ∨ 2000 < out.length)) : decFrom s i out = decFrom s (i + 2) (copyOut out (s.getD (i + 1) 0).toNat (s[i].toNat - 124)) := by
  rw [decFrom, dif_pos h, dif_neg hb, if_neg hc]
theorem dec_end {s out : List UInt8} {i : Nat} (h : ¬ i < s.length) : decFrom s i out = some out := by
  rw [decFrom, dif_neg h]
theorem ne_false (A : ByteArray) : (!A.toList == A.toList) = false := by simp
theorem ne_true {A B : ByteArray} (h : A.data.toList ≠ B.data.toList) : (!A.toList == B.toList) = true := by rw [ByteArray.toList_eq, ByteArray.toList_eq]; simpa using h
theorem mid_list (s : ByteArray) (a n : Nat) : (s.extract a (a + n)).data.toList = (s.data.toList.drop a).take n := by
  simp only [ByteArray.data_extract, Array.toList_extract, List.extract_eq_take_drop]
  congr 1
  omega

end Go.Proofs.Ytkomnnijnggbpaa
