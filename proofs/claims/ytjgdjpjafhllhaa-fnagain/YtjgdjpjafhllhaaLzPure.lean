/- Plain mathematics of the program's way to pack: where four bytes stood last, told bytes cut at 127, what is read token by token. -/
import Derived.Test.YtjgdjpjafhllhaaTripPure
import Derived.Test.YtjgdjpjafhllhaaPure
namespace Go.Proofs.Ytjgdjpjafhllhaa
set_option linter.unusedVariables false

theorem runFrom_ends (l : List UInt8) (i far : Nat) : ∀ f n, runFrom l i far n f = n + f ∨ ¬ (i + runFrom l i far n f < l.length ∧ l[i + runFrom l i far n f]? = l[i + runFrom l i far n f - far]?)
  | 0, n => Or.inl rfl
  | f + 1, n => by
    rw [runFrom]
    split
    · rename_i h
      rcases runFrom_ends l i far f (n + 1) with h1 | h1
      · left; omega
      · exact Or.inr h1
    · rename_i h
      exact Or.inr h
theorem runLen_in (l : List UInt8) (i far : Nat) (hi : i ≤ l.length) : i + runLen l i far ≤ l.length := by
  by_cases h : runLen l i far = 0
  · omega
  · have := (runLen_same l i far (runLen l i far - 1) (by omega)).1
    omega
/-- How far a text begins alike with what stands far ahead of it. -/
theorem shared_run (l : List UInt8) (i far : Nat) (h1 : 1 ≤ far) (hf : far ≤ i) (hi : i ≤ l.length) : shared (l.drop (i - far)) ((l.drop i).take 67) = runLen l i far := by
  have h67 := runLen_le l i far
  have hin := runLen_in l i far hi
  refine shared_eq _ _ _ (by rw [List.length_drop]; omega) (by rw [List.length_take, List.length_drop]; omega) (fun j hj => ?_) ?_
  · have h := (runLen_same l i far j hj).2
    rw [List.getElem?_drop, List.getElem?_take, if_pos (by omega), List.getElem?_drop, h]
    congr 1
    omega
  · rcases runFrom_ends l i far 67 0 with h | h
    · right; left
      rw [List.length_take, List.length_drop]
      have : runLen l i far = 67 := by unfold runLen; omega
      omega
    · change ¬ (i + runLen l i far < l.length ∧ l[i + runLen l i far]? = l[i + runLen l i far - far]?) at h
      by_cases h2 : i + runLen l i far < l.length
      · right
        by_cases h3 : runLen l i far = 67
        · left
          rw [List.length_take, List.length_drop]; omega
        · right
          rw [List.getElem?_drop, List.getElem?_take, if_pos (by omega), List.getElem?_drop]
          intro e
          apply h
          refine ⟨h2, ?_⟩
          rw [← e]
          congr 1
          omega
      · right; left
        rw [List.length_take, List.length_drop]; omega

/-- Four bytes from a place on. -/
def four (l : List UInt8) (p : Nat) : List UInt8 := (l.drop p).take 4
theorem run_four (l : List UInt8) (i far : Nat) (hf : far ≤ i) (h : 4 ≤ runLen l i far) : four l (i - far) = four l i := by
  unfold four
  apply List.ext_getElem?
  intro j
  rw [List.getElem?_take, List.getElem?_take]
  split
  · have h2 := (runLen_same l i far j (by omega)).2
    rw [List.getElem?_drop, List.getElem?_drop, h2]
    congr 1
    omega
  · rfl
theorem best_nil (l : List UInt8) (i : Nat) : ∀ f, (∀ g, 1 ≤ g → g ≤ f → runLen l i g < 4) → bestTo l i f = (0, 0)
  | 0, _ => rfl
  | f + 1, h => by
    rw [bestTo, if_neg (fun hc => by have := h (f + 1) (by omega) (by omega); omega)]
    exact best_nil l i f (fun g h1 h2 => h g h1 (by omega))
/-- Behind the nearest place of the same four bytes no copy begins. -/
theorem best_near (l : List UInt8) (i f : Nat) (hf : f ≤ i) (h : ∀ p, i - f ≤ p → p < i → four l p ≠ four l i) : bestTo l i f = (0, 0) := by
  refine best_nil l i f (fun g h1 h2 => ?_)
  by_cases h4 : 4 ≤ runLen l i g
  · exact absurd (run_four l i g (by omega) h4) (h (i - g) (by omega) (by omega))
  · omega
theorem copy_end (l : List UInt8) (i : Nat) (hi : i ≤ l.length) (h : l.length < i + 4) : ¬ 0 < (copyAt l i).1 := by
  intro hc
  have := copyAt_ok l i hc
  omega
/-- Nothing longer than what is left, or than 67. -/
theorem best_full (l : List UInt8) (i : Nat) (hi : i ≤ l.length) (f : Nat) (h : (bestTo l i f).1 = min 67 (l.length - i)) : ∀ d, bestTo l i (f + d) = bestTo l i f
  | 0 => rfl
  | d + 1 => by
    have ih := best_full l i hi f h d
    have h67 := runLen_le l i (f + d + 1)
    have hin := runLen_in l i (f + d + 1) hi
    rw [← Nat.add_assoc, bestTo, ih, if_neg (fun hc => by omega)]

/-- Told bytes, cut at 127. -/
def chunks (t : List UInt8) : List Tok := if h : t.length ≤ 127 then flush t else ⟨t.take 127, 0, 0⟩ :: chunks (t.drop 127)
termination_by t.length
decreasing_by rw [List.length_drop]; omega
theorem chunks_few {t : List UInt8} (h : t.length ≤ 127) : chunks t = flush t := by rw [chunks, dif_pos h]
theorem chunks_more {t : List UInt8} (h : ¬ t.length ≤ 127) : chunks t = ⟨t.take 127, 0, 0⟩ :: chunks (t.drop 127) := by rw [chunks, dif_neg h]
theorem chunks_len : ∀ (n : Nat) (t : List UInt8), t.length ≤ n → (chunks t).length ≤ t.length
  | 0, t, h => by rw [chunks_few (by omega)]; unfold flush; split <;> simp_all
  | n + 1, t, h => by
    by_cases h1 : t.length ≤ 127
    · rw [chunks_few h1]; unfold flush; split
      · simp
      · rename_i h2; have := List.length_pos_iff.2 h2; simp; omega
    · rw [chunks_more h1]
      have := chunks_len n (t.drop 127) (by rw [List.length_drop]; omega)
      rw [List.length_drop] at this
      rw [List.length_cons]; omega
/-- Where no copy begins bytes are told. -/
theorem toks_chunks (l : List UInt8) (rest : List Tok) (j : Nat) (hj : j ≤ l.length) (hend : ∀ t, toksFrom l j t = flush t ++ rest) : ∀ (d i : Nat) (t : List UInt8), j - i ≤ d → i ≤ j → t.length ≤ 127 → (∀ p, i ≤ p → p < j → ¬ 0 < (copyAt l p).1) → toksFrom l i t = chunks (t ++ (l.drop i).take (j - i)) ++ rest := by
  intro d
  induction d with
  | zero =>
    intro i t hd hi ht hn
    obtain rfl : i = j := by omega
    rw [hend, show i - i = 0 by omega, List.take_zero, List.append_nil, chunks_few ht]
  | succ d ih =>
    intro i t hd hi ht hn
    by_cases e : i = j
    · subst e
      rw [hend, show i - i = 0 by omega, List.take_zero, List.append_nil, chunks_few ht]
    · have hil : i < l.length := by omega
      have hnc := hn i (Nat.le_refl _) (by omega)
      have hd1 : (l.drop i).take (j - i) = l[i] :: (l.drop (i + 1)).take (j - (i + 1)) := by
        rw [List.drop_eq_getElem_cons hil, show j - i = (j - (i + 1)) + 1 by omega, List.take_succ_cons]
      rw [toksFrom, dif_pos hil, dif_neg hnc]
      split
      · rename_i h127
        rw [ih (i + 1) [l[i]] (by omega) (by omega) (by simp) (fun p h1 h2 => hn p (by omega) h2), hd1]
        rw [chunks_more (t := t ++ l[i] :: (l.drop (i + 1)).take (j - (i + 1))) (by rw [List.length_append, List.length_cons]; omega)]
        have e1 : ∀ x : List UInt8, (t ++ x).take 127 = t := fun x => by rw [← h127]; exact List.take_left ..
        have e2 : ∀ x : List UInt8, (t ++ x).drop 127 = x := fun x => by rw [← h127]; exact List.drop_left ..
        rw [e1, e2]
        rfl
      · rename_i h127
        rw [ih (i + 1) (t ++ [l[i]]) (by omega) (by omega) (by rw [List.length_append, List.length_singleton]; omega) (fun p h1 h2 => hn p (by omega) h2), hd1, List.append_assoc]
        rfl
theorem toks_copied (l : List UInt8) (i j : Nat) (hi : i ≤ j) (hj : j < l.length) (hn : ∀ p, i ≤ p → p < j → ¬ 0 < (copyAt l p).1) (hc : 0 < (copyAt l j).1) : toksFrom l i [] = chunks ((l.drop i).take (j - i)) ++ (⟨[], (copyAt l j).1, (copyAt l j).2⟩ :: toksFrom l (j + (copyAt l j).1) []) := by
  have := toks_chunks l (⟨[], (copyAt l j).1, (copyAt l j).2⟩ :: toksFrom l (j + (copyAt l j).1) []) j (by omega) (fun t => by rw [toksFrom, dif_pos hj, dif_pos hc]) (j - i) i [] (by omega) hi (by simp) hn
  simpa using this
theorem toks_left (l : List UInt8) (i : Nat) (hi : i ≤ l.length) (hn : ∀ p, i ≤ p → p < l.length → ¬ 0 < (copyAt l p).1) : toksFrom l i [] = chunks (l.drop i) := by
  have := toks_chunks l [] l.length (Nat.le_refl _) (fun t => by rw [toksFrom, dif_neg (by omega)]; simp) (l.length - i) i [] (by omega) hi (by simp) hn
  rw [List.append_nil, List.nil_append, List.take_of_length_le (by rw [List.length_drop]; omega)] at this
  exact this
end Go.Proofs.Ytjgdjpjafhllhaa
