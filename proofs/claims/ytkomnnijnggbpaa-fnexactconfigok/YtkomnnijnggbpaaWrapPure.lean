/- Wrapped texts as the document has them: packed or not, a mark, a seal. -/
import Derived.Test.YtkomnnijnggbpaaPureA
import Derived.Test.YtkomnnijnggbpaaSealPure
namespace Go.Proofs.Ytkomnnijnggbpaa
open Go.RowKit
set_option linter.unusedVariables false

def wrapB (l : List UInt8) (pack : Bool) : List UInt8 :=
  if 2000 < l.length then [] else if pack = true ∧ (compress l).length < l.length then sealedB (compress l ++ [1]) else sealedB (l ++ [0])
/-- The mark of what was opened, and what stands ahead of it. -/
def markOf (x : List UInt8) : Nat := (x.getD (x.length - 1) 0).toNat
def bodyOf (x : List UInt8) : List UInt8 := x.take (x.length - 1)
def textOf (x : List UInt8) : List UInt8 := if markOf x = 1 then expand1 (bodyOf x) else bodyOf x
def unwrapB (l : List UInt8) : List UInt8 × Nat :=
  if l.length < 5 then ([], 1) else if opened2 l = false then ([], 2) else if 1 < markOf (opened1 l) then ([], 3)
  else if wrapB (textOf (opened1 l)) (decide (markOf (opened1 l) = 1)) = l then (textOf (opened1 l), 0) else ([], 4)

theorem wrap_long {l : List UInt8} (p : Bool) (h : 2000 < l.length) : wrapB l p = [] := by unfold wrapB; rw [if_pos h]
theorem wrap_packed {l : List UInt8} (h : l.length ≤ 2000) (hc : (compress l).length < l.length) : wrapB l true = sealedB (compress l ++ [1]) := by
  unfold wrapB
  rw [if_neg (by omega), if_pos ⟨rfl, hc⟩]
theorem wrap_plain {l : List UInt8} {p : Bool} (h : l.length ≤ 2000) (hc : p = true → l.length ≤ (compress l).length) : wrapB l p = sealedB (l ++ [0]) := by
  unfold wrapB
  rw [if_neg (by omega), if_neg (fun ⟨h1, h2⟩ => by have := hc h1; omega)]
theorem seal_inj {a b : List UInt8} (h : sealedB a = sealedB b) : a = b := by
  have h1 := (opened_sealed a).1
  rw [h, (opened_sealed b).1] at h1
  exact h1.symm
theorem mark_last (a : List UInt8) (c : UInt8) : markOf (a ++ [c]) = c.toNat := by
  unfold markOf
  simp [List.getD_eq_getElem?_getD]
theorem body_last (a : List UInt8) (c : UInt8) : bodyOf (a ++ [c]) = a := by
  unfold bodyOf
  simp
theorem wrapB_len {l : List UInt8} (p : Bool) (h : l.length ≤ 2000) : (wrapB l p).length ≤ l.length + 5 ∧ 5 ≤ (wrapB l p).length := by
  unfold wrapB
  rw [if_neg (by omega)]
  split
  · next hc => rw [sealed_len, List.length_append]; simp only [List.length_cons, List.length_nil]; omega
  · rw [sealed_len, List.length_append]; simp only [List.length_cons, List.length_nil]; omega
theorem wrap_most (l : List UInt8) (p : Bool) : (wrapB l p).length ≤ 2005 := by
  by_cases h : l.length ≤ 2000
  · have := (wrapB_len p h).1; omega
  · rw [wrap_long p (by omega)]; simp
theorem wrap_false {l : List UInt8} (h : l.length ≤ 2000) : (wrapB l false).length = l.length + 5 := by
  rw [wrap_plain h (fun h => by cases h), sealed_len, List.length_append]
  simp
/-- What is wrapped is sealed. -/
theorem wrap_seal {l : List UInt8} (p : Bool) (h : l.length ≤ 2000) : ∃ x, wrapB l p = sealedB x := by
  unfold wrapB
  rw [if_neg (by omega)]
  split
  · exact ⟨_, rfl⟩
  · exact ⟨_, rfl⟩
theorem unwrap_short {l : List UInt8} (h : l.length < 5) : unwrapB l = ([], 1) := by unfold unwrapB; rw [if_pos h]
theorem unwrap_crc {l : List UInt8} (h : 5 ≤ l.length) (ho : opened2 l = false) : unwrapB l = ([], 2) := by unfold unwrapB; rw [if_neg (by omega), if_pos ho]
theorem unwrap_tag {l : List UInt8} (h : 5 ≤ l.length) (ho : opened2 l = true) (hm : 1 < markOf (opened1 l)) : unwrapB l = ([], 3) := by
  unfold unwrapB
  rw [if_neg (by omega), if_neg (by simp [ho]), if_pos hm]
theorem unwrap_yes {l : List UInt8} (h : 5 ≤ l.length) (ho : opened2 l = true) (hm : markOf (opened1 l) ≤ 1) (hw : wrapB (textOf (opened1 l)) (decide (markOf (opened1 l) = 1)) = l) : unwrapB l = (textOf (opened1 l), 0) := by
  unfold unwrapB
  rw [if_neg (by omega), if_neg (by simp [ho]), if_neg (by omega), if_pos hw]
theorem unwrap_no {l : List UInt8} (h : 5 ≤ l.length) (ho : opened2 l = true) (hm : markOf (opened1 l) ≤ 1) (hw : wrapB (textOf (opened1 l)) (decide (markOf (opened1 l) = 1)) ≠ l) : unwrapB l = ([], 4) := by
  unfold unwrapB
  rw [if_neg (by omega), if_neg (by simp [ho]), if_neg (by omega), if_neg hw]
/-- What is wrapped comes back. -/
theorem unwrap_wrap {l : List UInt8} (p : Bool) (h : l.length ≤ 2000) : unwrapB (wrapB l p) = (l, 0) := by
  by_cases hc : p = true ∧ (compress l).length < l.length
  · obtain ⟨rfl, hc⟩ := hc
    have e := wrap_packed h hc
    obtain ⟨o1, o2⟩ := opened_sealed (compress l ++ [1])
    have hm := mark_last (compress l) 1
    have ht : textOf (compress l ++ [1]) = l := by
      unfold textOf
      rw [hm, if_pos (show UInt8.toNat 1 = 1 from rfl), body_last, (expand_compress l h).1]
    have hl := (wrapB_len true h).2
    rw [e] at hl ⊢
    have := unwrap_yes hl o2 (by rw [o1, hm]; decide) (by rw [o1, hm, ht]; exact e)
    rw [this, o1, ht]
  · have e : wrapB l p = sealedB (l ++ [0]) := wrap_plain h (fun hp => by
      have : ¬ (compress l).length < l.length := fun h2 => hc ⟨hp, h2⟩
      omega)
    obtain ⟨o1, o2⟩ := opened_sealed (l ++ [0])
    have hm := mark_last l 0
    have ht : textOf (l ++ [0]) = l := by
      unfold textOf
      rw [hm, if_neg (by decide), body_last]
    have hl := (wrapB_len p h).2
    rw [e] at hl ⊢
    have e2 : wrapB l false = sealedB (l ++ [0]) := wrap_plain h (fun h => by cases h)
    have := unwrap_yes hl o2 (by rw [o1, hm]; decide) (by rw [o1, hm, ht]; exact e2)
    rw [this, o1, ht]
/-- The parts of what was opened. -/
theorem opened_parts {l : List UInt8} (h : 5 ≤ l.length) (ho : opened2 l = true) : opened1 l = bodyOf (opened1 l) ++ [UInt8.ofNat (markOf (opened1 l))] ∧ (opened1 l).length = l.length - 4 := by
  have hb := opened_back ho
  have hl := sealed_len (opened1 l)
  rw [hb] at hl
  refine ⟨?_, by omega⟩
  unfold bodyOf markOf
  have hlt : (opened1 l).length - 1 < (opened1 l).length := by omega
  conv => lhs; rw [← List.take_append_drop ((opened1 l).length - 1) (opened1 l)]
  rw [List.drop_eq_getElem_cons hlt, List.drop_eq_nil_of_le (by omega)]
  simp [List.getD_eq_getElem?_getD, hlt]
/-- A text that can't be unpacked is no wrapped one. -/
theorem unwrap_not {l : List UInt8} (h : 5 ≤ l.length) (ho : opened2 l = true) (hm : markOf (opened1 l) = 1) (hx : expand2 (bodyOf (opened1 l)) = false) : unwrapB l = ([], 4) := by
  refine unwrap_no h ho (by omega) ?_
  have ht : textOf (opened1 l) = [] := by
    unfold textOf
    rw [if_pos hm, expand_no _ hx]
  rw [ht, wrap_plain (by simp) (fun _ => by simp)]
  intro e
  have e2 := (opened_sealed ([] ++ [0])).1
  rw [e] at e2
  rw [e2, mark_last] at hm
  exact absurd hm (by decide)
/-- What a text is that was unwrapped. -/
theorem unwrap_some {l : List UInt8} (h : (unwrapB l).2 = 0) : ∃ p, wrapB (unwrapB l).1 p = l := by
  unfold unwrapB at h ⊢
  split at h
  · cases h
  · next h1 =>
    split at h
    · cases h
    · next h2 =>
      split at h
      · cases h
      · next h3 =>
        split at h
        · next h4 =>
          rw [if_neg h1, if_neg h2, if_neg h3, if_pos h4]
          exact ⟨_, h4⟩
        · cases h
theorem unwrap_none {l : List UInt8} (h : (unwrapB l).2 ≠ 0) : (unwrapB l).1 = [] := by
  unfold unwrapB at h ⊢
  split
  · rfl
  · split
    · rfl
    · split
      · rfl
      · split
        · next h1 h2 h3 h4 => rw [if_neg h1, if_neg h2, if_neg h3, if_pos h4] at h; exact absurd rfl h
        · rfl
theorem unwrap_most (l : List UInt8) : (unwrapB l).1.length ≤ 2000 ∧ (unwrapB l).2 ≤ 4 := by
  by_cases h : (unwrapB l).2 = 0
  · obtain ⟨p, hp⟩ := unwrap_some h
    refine ⟨?_, by omega⟩
    by_cases hl : (unwrapB l).1.length ≤ 2000
    · exact hl
    · rw [wrap_long p (by omega)] at hp
      rw [← hp] at h
      exact absurd h (by decide)
  · rw [unwrap_none h]
    refine ⟨by simp, ?_⟩
    unfold unwrapB
    split
    · decide
    · split
      · decide
      · split
        · decide
        · split <;> simp
/-- A wrapped text of which a byte was changed. -/
theorem unwrap_changed {l : List UInt8} (p : Bool) (h : l.length ≤ 2000) (n : Nat) (c : UInt8) (hn : n < (wrapB l p).length) (hc : (wrapB l p).getD n 0 ≠ c) : unwrapB ((wrapB l p).set n c) = ([], 2) := by
  have hl := (wrapB_len p h).2
  obtain ⟨x, hx⟩ := wrap_seal p h
  rw [hx] at hn hc hl ⊢
  exact unwrap_crc (by rw [List.length_set]; exact hl) (opened_changed x n c hn hc)
theorem unwrap_mark2 : unwrapB (sealedB [97, 98, 2]) = ([], 3) := by
  obtain ⟨o1, o2⟩ := opened_sealed [97, 98, 2]
  exact unwrap_tag (by rw [sealed_len]; decide) o2 (by rw [o1]; decide)
theorem unwrap_mark1 : unwrapB (sealedB [97, 98, 1]) = ([], 4) := by
  obtain ⟨o1, o2⟩ := opened_sealed [97, 98, 1]
  refine unwrap_not (by rw [sealed_len]; decide) o2 (by rw [o1]; decide) ?_
  rw [o1, show bodyOf [97, 98, 1] = [97, 98] from rfl]
  unfold expand2 expandB
  rw [show decFrom [97, 98] 0 [] = none by unfold decFrom; rfl]
  rfl
end Go.Proofs.Ytkomnnijnggbpaa
