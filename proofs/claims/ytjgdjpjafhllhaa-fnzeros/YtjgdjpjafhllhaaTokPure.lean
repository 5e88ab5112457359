/- Plain mathematics of packed texts: runs, copies, tokens. -/
namespace Go.Proofs.Ytjgdjpjafhllhaa
set_option linter.unusedVariables false

/-- How many bytes more stand alike, from n on. -/
def runFrom (l : List UInt8) (i far : Nat) : Nat → Nat → Nat
  | n, 0 => n
  | n, f + 1 => if i + n < l.length ∧ l[i + n]? = l[i + n - far]? then runFrom l i far (n + 1) f else n
/-- How many bytes from a place on stand as well far ahead of it, 67 at most. -/
def runLen (l : List UInt8) (i far : Nat) : Nat := runFrom l i far 0 67
/-- The best copy with Far of 1 .. f. -/
def bestTo (l : List UInt8) (i : Nat) : Nat → Nat × Nat
  | 0 => (0, 0)
  | f + 1 => if 4 ≤ runLen l i (f + 1) ∧ (bestTo l i f).1 < runLen l i (f + 1) then (runLen l i (f + 1), f + 1) else bestTo l i f
/-- The copy at a place; none has Len 0. -/
def copyAt (l : List UInt8) (i : Nat) : Nat × Nat := bestTo l i (min 255 i)

theorem runFrom_bd (l : List UInt8) (i far : Nat) : ∀ f n, n ≤ runFrom l i far n f ∧ runFrom l i far n f ≤ n + f
  | 0, n => by simp [runFrom]
  | f + 1, n => by
    rw [runFrom]
    split
    · have := runFrom_bd l i far f (n + 1); omega
    · omega
theorem runLen_le (l : List UInt8) (i far : Nat) : runLen l i far ≤ 67 := by have := runFrom_bd l i far 67 0; unfold runLen; omega
theorem runFrom_same (l : List UInt8) (i far : Nat) : ∀ f n j, n ≤ j → j < runFrom l i far n f → i + j < l.length ∧ l[i + j]? = l[i + j - far]?
  | 0, n, j, h1, h2 => by simp only [runFrom] at h2; omega
  | f + 1, n, j, h1, h2 => by
    rw [runFrom] at h2
    split at h2
    · rename_i hc
      by_cases e : j = n
      · subst e; exact hc
      · exact runFrom_same l i far f (n + 1) j (by omega) h2
    · omega
/-- The bytes of a run stand as well far ahead. -/
theorem runLen_same (l : List UInt8) (i far j : Nat) (h : j < runLen l i far) : i + j < l.length ∧ l[i + j]? = l[i + j - far]? := runFrom_same l i far 67 0 j (Nat.zero_le _) h
theorem runFrom_stop (l : List UInt8) (i far n f : Nat) (h : ¬ (i + n < l.length ∧ l[i + n]? = l[i + n - far]?)) : runFrom l i far n f = n := by
  cases f with
  | zero => rfl
  | succ f => rw [runFrom, if_neg h]

theorem bestTo_ok (l : List UInt8) (i : Nat) : ∀ f, (bestTo l i f = (0, 0)) ∨ (4 ≤ (bestTo l i f).1 ∧ 1 ≤ (bestTo l i f).2 ∧ (bestTo l i f).2 ≤ f ∧ (bestTo l i f).1 = runLen l i (bestTo l i f).2)
  | 0 => Or.inl rfl
  | f + 1 => by
    rw [bestTo]
    split
    · rename_i h
      exact Or.inr ⟨h.1, by simp, Nat.le_refl _, rfl⟩
    · rcases bestTo_ok l i f with h | ⟨h1, h2, h3, h4⟩
      · exact Or.inl h
      · exact Or.inr ⟨h1, h2, by omega, h4⟩
/-- A copy has Len of 4 .. 67 and Far of 1 .. 255, no farther than the place, and stays within the text. -/
theorem copyAt_ok (l : List UInt8) (i : Nat) (h : 0 < (copyAt l i).1) : 4 ≤ (copyAt l i).1 ∧ (copyAt l i).1 ≤ 67 ∧ 1 ≤ (copyAt l i).2 ∧ (copyAt l i).2 ≤ 255 ∧ (copyAt l i).2 ≤ i ∧ i + (copyAt l i).1 ≤ l.length ∧ (copyAt l i).1 = runLen l i (copyAt l i).2 := by
  unfold copyAt at *
  rcases bestTo_ok l i (min 255 i) with h0 | ⟨h1, h2, h3, h4⟩
  · rw [h0] at h; simp at h
  · have h5 := runLen_le l i (bestTo l i (min 255 i)).2
    have h6 := runLen_same l i (bestTo l i (min 255 i)).2 ((bestTo l i (min 255 i)).1 - 1) (by omega)
    refine ⟨h1, by omega, h2, by omega, by omega, by omega, h4⟩
theorem copyAt_none (l : List UInt8) (i : Nat) (h : ¬ 0 < (copyAt l i).1) : copyAt l i = (0, 0) := by
  unfold copyAt at *
  rcases bestTo_ok l i (min 255 i) with h0 | ⟨h1, _⟩
  · exact h0
  · omega

/-- A token: a text, or a copy. -/
structure Tok where
  text : List UInt8
  len : Nat
  far : Nat
deriving DecidableEq
/-- Bytes that were told, as a token, if there are any. -/
def flush (t : List UInt8) : List Tok := if t = [] then [] else [⟨t, 0, 0⟩]
/-- The tokens from a place on, some bytes being told already. -/
def toksFrom (l : List UInt8) (i : Nat) (t : List UInt8) : List Tok :=
  if h : i < l.length then
    if hc : 0 < (copyAt l i).1 then flush t ++ ⟨[], (copyAt l i).1, (copyAt l i).2⟩ :: toksFrom l (i + (copyAt l i).1) []
    else if t.length = 127 then ⟨t, 0, 0⟩ :: toksFrom l (i + 1) [l[i]]
    else toksFrom l (i + 1) (t ++ [l[i]])
  else flush t
termination_by l.length - i
/-- Tokens. -/
def tokens (l : List UInt8) : List Tok := if 2000 < l.length then [] else toksFrom l 0 []

/-- A token's bytes. -/
def encTok (t : Tok) : List UInt8 := if 0 < t.len then [UInt8.ofNat (124 + t.len), UInt8.ofNat t.far] else UInt8.ofNat t.text.length :: t.text
/-- Compress. -/
def compress (l : List UInt8) : List UInt8 := (tokens l).flatMap encTok

theorem flush_enc (t : List UInt8) : ((flush t).flatMap encTok).length ≤ t.length + 1 := by
  unfold flush
  split
  · simp
  · simp [encTok]
theorem enc_len (l : List UInt8) : ∀ (d i : Nat) (t : List UInt8), l.length - i ≤ d → ((toksFrom l i t).flatMap encTok).length ≤ t.length + 1 + 2 * (l.length - i) := by
  intro d
  induction d with
  | zero =>
    intro i t hd
    rw [toksFrom, dif_neg (by omega)]
    have := flush_enc t; omega
  | succ d ih =>
    intro i t hd
    rw [toksFrom]
    split
    · rename_i hi
      split
      · rename_i hc
        have hk := copyAt_ok l i hc
        have h1 := ih (i + (copyAt l i).1) [] (by omega)
        have h2 := flush_enc t
        have h3 : (encTok ⟨[], (copyAt l i).1, (copyAt l i).2⟩).length = 2 := by simp [encTok, hc]
        rw [List.flatMap_append, List.length_append, List.flatMap_cons, List.length_append, h3]
        simp only [List.length_nil] at h1
        omega
      · split
        · rename_i ht
          have h1 := ih (i + 1) [l[i]] (by omega)
          have h3 : (encTok ⟨t, 0, 0⟩).length = t.length + 1 := by simp [encTok]
          rw [List.flatMap_cons, List.length_append, h3]
          simp only [List.length_singleton] at h1
          omega
        · have h1 := ih (i + 1) (t ++ [l[i]]) (by omega)
          rw [List.length_append, List.length_singleton] at h1
          omega
    · have := flush_enc t; omega
theorem compress_len (l : List UInt8) : (compress l).length ≤ 4001 := by
  unfold compress tokens
  split
  · simp
  · have := enc_len l l.length 0 [] (by omega)
    simp only [List.length_nil] at this
    omega

/-- A token as the document wants it. -/
def TokOk (y : Tok) : Prop := (y.len = 0 ∧ y.far = 0 ∧ 1 ≤ y.text.length ∧ y.text.length ≤ 127) ∨ (y.text = [] ∧ 4 ≤ y.len ∧ y.len ≤ 67 ∧ 1 ≤ y.far ∧ y.far ≤ 255)
theorem flush_ok (t : List UInt8) (ht : t.length ≤ 127) : ∀ y ∈ flush t, TokOk y := by
  intro y hy
  unfold flush at hy
  split at hy
  · cases hy
  · rename_i hne
    simp only [List.mem_singleton] at hy
    subst hy
    exact Or.inl ⟨rfl, rfl, List.length_pos_iff.2 hne, ht⟩
theorem toks_ok (l : List UInt8) : ∀ (d i : Nat) (t : List UInt8), l.length - i ≤ d → t.length ≤ 127 → ∀ y ∈ toksFrom l i t, TokOk y := by
  intro d
  induction d with
  | zero =>
    intro i t hd ht y hy
    rw [toksFrom, dif_neg (by omega)] at hy
    exact flush_ok t ht y hy
  | succ d ih =>
    intro i t hd ht y hy
    rw [toksFrom] at hy
    split at hy
    · rename_i hi
      split at hy
      · rename_i hc
        have hk := copyAt_ok l i hc
        rcases List.mem_append.1 hy with hy | hy
        · exact flush_ok t ht y hy
        · rcases List.mem_cons.1 hy with rfl | hy
          · exact Or.inr ⟨rfl, hk.1, hk.2.1, hk.2.2.1, hk.2.2.2.1⟩
          · exact ih _ [] (by omega) (by simp) y hy
      · split at hy
        · rename_i h127
          rcases List.mem_cons.1 hy with rfl | hy
          · exact Or.inl ⟨rfl, rfl, by simp only; omega, by simp only; omega⟩
          · exact ih _ _ (by omega) (by simp) y hy
        · exact ih _ _ (by omega) (by rw [List.length_append, List.length_singleton]; omega) y hy
    · exact flush_ok t ht y hy
theorem tokens_ok (l : List UInt8) : ∀ y ∈ tokens l, TokOk y := by
  unfold tokens
  split
  · intro y hy; cases hy
  · exact toks_ok l l.length 0 [] (by omega) (by simp)

/-- So many bytes more, each as one stands far ahead. -/
def copyOut (out : List UInt8) (far : Nat) : Nat → List UInt8
  | 0 => out
  | n + 1 => copyOut out far n ++ [(copyOut out far n).getD ((copyOut out far n).length - far) 0]
theorem copyOut_len (out : List UInt8) (far n : Nat) : (copyOut out far n).length = out.length + n := by
  induction n with
  | zero => rfl
  | succ n ih => rw [copyOut, List.length_append, List.length_singleton, ih]; omega
/-- What packed bytes make, from a place on. -/
def decFrom (s : List UInt8) (i : Nat) (out : List UInt8) : Option (List UInt8) :=
  if h : i < s.length then
    if hb : 1 ≤ s[i].toNat ∧ s[i].toNat ≤ 127 then
      if i + 1 + s[i].toNat ≤ s.length then decFrom s (i + 1 + s[i].toNat) (out ++ (s.drop (i + 1)).take s[i].toNat) else none
    else if s[i].toNat = 0 ∨ s.length ≤ i + 1 ∨ (s.getD (i + 1) 0).toNat = 0 ∨ out.length < (s.getD (i + 1) 0).toNat ∨ 2000 < out.length then none
    else decFrom s (i + 2) (copyOut out (s.getD (i + 1) 0).toNat (s[i].toNat - 124))
  else some out
termination_by s.length - i
/-- Expand. -/
def expandB (s : List UInt8) : Option (List UInt8) := match decFrom s 0 [] with
  | some out => if compress out = s then some out else none
  | none => none
def expand1 (s : List UInt8) : List UInt8 := (expandB s).getD []
def expand2 (s : List UInt8) : Bool := (expandB s).isSome
end Go.Proofs.Ytjgdjpjafhllhaa
