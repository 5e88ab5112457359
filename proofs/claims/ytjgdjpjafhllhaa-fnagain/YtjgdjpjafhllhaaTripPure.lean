/- Plain mathematics of packed texts: what is packed comes back. -/
import Derived.Test.YtjgdjpjafhllhaaTokPure
namespace Go.Proofs.Ytjgdjpjafhllhaa
set_option linter.unusedVariables false

/-- A token's bytes laid behind what is made. -/
def grow (out : List UInt8) (y : Tok) : List UInt8 := copyOut (out ++ y.text) y.far y.len
def mkAll (out : List UInt8) : List Tok → List UInt8
  | [] => out
  | y :: ys => mkAll (grow out y) ys
/-- Tokens that may stand behind what is made. -/
def Fits : List UInt8 → List Tok → Prop
  | _, [] => True
  | out, y :: ys => TokOk y ∧ (y.len = 0 ∨ y.far ≤ out.length) ∧ out.length ≤ 2000 ∧ Fits (grow out y) ys

theorem getD_take (l : List UInt8) (k j : Nat) (h : j < k) : (l.take k).getD j 0 = l.getD j 0 := by
  simp only [List.getD_eq_getElem?_getD, List.getElem?_take, if_pos h]
theorem take_more (l : List UInt8) (k : Nat) (h : k < l.length) : l.take (k + 1) = l.take k ++ [l.getD k 0] := by
  rw [List.take_add_one, List.getElem?_eq_getElem h, List.getD_eq_getElem?_getD, List.getElem?_eq_getElem h]; rfl
/-- A copy makes what stands there. -/
theorem copy_makes (l : List UInt8) (i f : Nat) (hf : 1 ≤ f) (hfi : f ≤ i) : ∀ n, n ≤ runLen l i f → i ≤ l.length → copyOut (l.take i) f n = l.take (i + n)
  | 0, _, _ => rfl
  | n + 1, h, hi => by
    have hs := runLen_same l i f n (by omega)
    have ih := copy_makes l i f hf hfi n (by omega) hi
    have hl : (l.take (i + n)).length = i + n := by rw [List.length_take]; omega
    rw [copyOut, ih, hl, getD_take _ _ _ (by omega), show i + (n + 1) = i + n + 1 by omega, take_more l (i + n) hs.1]
    simp only [List.getD_eq_getElem?_getD, hs.2]

theorem grow_text (out t : List UInt8) : grow out ⟨t, 0, 0⟩ = out ++ t := rfl
theorem fits_flush (out t : List UInt8) (ys : List Tok) (ht : t.length ≤ 127) (ho : out.length ≤ 2000) (h : Fits (out ++ t) ys) : Fits out (flush t ++ ys) ∧ mkAll out (flush t ++ ys) = mkAll (out ++ t) ys := by
  unfold flush
  split
  · rename_i e
    subst e
    simp at *
    exact h
  · rename_i e
    refine ⟨⟨Or.inl ⟨rfl, rfl, List.length_pos_iff.2 e, ht⟩, Or.inl rfl, ho, h⟩, rfl⟩
/-- Tokens make the text again. -/
theorem toks_make (l : List UInt8) (hl : l.length ≤ 2000) : ∀ (d i : Nat) (t out : List UInt8), l.length - i ≤ d → i ≤ l.length → t.length ≤ 127 → out ++ t = l.take i → Fits out (toksFrom l i t) ∧ mkAll out (toksFrom l i t) = l := by
  intro d
  induction d with
  | zero =>
    intro i t out hd hi ht ho
    have hlen := congrArg List.length ho
    simp only [List.length_append, List.length_take] at hlen
    rw [toksFrom, dif_neg (by omega)]
    have h := fits_flush out t [] ht (by omega) trivial
    rw [List.append_nil] at h
    refine ⟨h.1, h.2.trans ?_⟩
    rw [ho, show i = l.length by omega]
    exact List.take_length
  | succ d ih =>
    intro i t out hd hi ht ho
    have hlen := congrArg List.length ho
    simp only [List.length_append, List.length_take] at hlen
    rw [toksFrom]
    split
    · rename_i hil
      split
      · rename_i hc
        have hk := copyAt_ok l i hc
        have hm := copy_makes l i (copyAt l i).2 hk.2.2.1 hk.2.2.2.2.1 (copyAt l i).1 (Nat.le_of_eq hk.2.2.2.2.2.2) hi
        have h1 := ih (i + (copyAt l i).1) [] (l.take (i + (copyAt l i).1)) (by omega) hk.2.2.2.2.2.1 (by simp) (by simp)
        have hg : grow (out ++ t) ⟨[], (copyAt l i).1, (copyAt l i).2⟩ = l.take (i + (copyAt l i).1) := by
          unfold grow; rw [List.append_nil, ho]; exact hm
        have h2 := fits_flush out t (⟨[], (copyAt l i).1, (copyAt l i).2⟩ :: toksFrom l (i + (copyAt l i).1) []) ht (by omega) ⟨Or.inr ⟨rfl, hk.1, hk.2.1, hk.2.2.1, hk.2.2.2.1⟩, Or.inr (by rw [ho, List.length_take]; simp only; omega), by rw [ho, List.length_take]; omega, by rw [hg]; exact h1.1⟩
        refine ⟨h2.1, h2.2.trans ?_⟩
        rw [mkAll, hg]
        exact h1.2
      · have hone : l.take (i + 1) = l.take i ++ [l[i]] := by rw [take_more l i hil, List.getD_eq_getElem?_getD, List.getElem?_eq_getElem hil]; rfl
        split
        · rename_i h127
          have h1 := ih (i + 1) [l[i]] (l.take i) (by omega) (by omega) (by simp) hone.symm
          rw [← ho] at h1
          exact ⟨⟨Or.inl ⟨rfl, rfl, by simp only; omega, ht⟩, Or.inl rfl, by omega, h1.1⟩, h1.2⟩
        · exact ih (i + 1) (t ++ [l[i]]) out (by omega) (by omega) (by rw [List.length_append, List.length_singleton]; omega) (by rw [← List.append_assoc, ho, hone])
    · have h := fits_flush out t [] ht (by omega) trivial
      rw [List.append_nil] at h
      refine ⟨h.1, h.2.trans ?_⟩
      rw [ho, show i = l.length by omega]
      exact List.take_length
theorem tokens_make (l : List UInt8) (hl : l.length ≤ 2000) : Fits [] (tokens l) ∧ mkAll [] (tokens l) = l := by
  unfold tokens
  rw [if_neg (by omega)]
  exact toks_make l hl l.length 0 [] [] (by omega) (by omega) (by simp) (by simp)

theorem ofNat_small {n : Nat} (h : n < 256) : (UInt8.ofNat n).toNat = n := by simp [UInt8.toNat_ofNat']; omega
/-- One token is read back. -/
theorem dec_tok (pre suf out : List UInt8) (y : Tok) (hy : TokOk y) (hf : y.len = 0 ∨ y.far ≤ out.length) (ho : out.length ≤ 2000) : decFrom (pre ++ (encTok y ++ suf)) pre.length out = decFrom (pre ++ (encTok y ++ suf)) (pre.length + (encTok y).length) (grow out y) := by
  rcases hy with ⟨h1, h2, h3, h4⟩ | ⟨h1, h2, h3, h4, h5⟩
  · obtain ⟨t, n, f⟩ := y
    simp only at h1 h2 h3 h4
    subst h1 h2
    have e : encTok ⟨t, 0, 0⟩ = UInt8.ofNat t.length :: t := by simp [encTok]
    rw [e]
    have hlt : pre.length < (pre ++ (UInt8.ofNat t.length :: t ++ suf)).length := by simp
    have hb : (pre ++ (UInt8.ofNat t.length :: t ++ suf))[pre.length].toNat = t.length := by
      rw [List.getElem_append_right (Nat.le_refl _)]
      simp only [Nat.sub_self, List.cons_append, List.getElem_cons_zero]
      exact ofNat_small (by omega)
    rw [decFrom, dif_pos hlt, dif_pos (by rw [hb]; omega), if_pos (by rw [hb]; simp; omega)]
    rw [hb]
    congr 1
    · simp; omega
    · rw [grow_text]
      congr 1
      rw [List.drop_append, List.drop_eq_nil_of_le (show pre.length ≤ pre.length + 1 by omega)]
      simp
  · obtain ⟨t, n, f⟩ := y
    simp only at h1 h2 h3 h4 h5 hf
    subst h1
    have e : encTok ⟨[], n, f⟩ = [UInt8.ofNat (124 + n), UInt8.ofNat f] := by simp [encTok]; omega
    rw [e]
    have hlt : pre.length < (pre ++ ([UInt8.ofNat (124 + n), UInt8.ofNat f] ++ suf)).length := by simp
    have hb : (pre ++ ([UInt8.ofNat (124 + n), UInt8.ofNat f] ++ suf))[pre.length].toNat = 124 + n := by
      rw [List.getElem_append_right (Nat.le_refl _)]
      simp only [Nat.sub_self, List.cons_append, List.getElem_cons_zero]
      exact ofNat_small (by omega)
    have hb2 : ((pre ++ ([UInt8.ofNat (124 + n), UInt8.ofNat f] ++ suf)).getD (pre.length + 1) 0).toNat = f := by
      rw [List.getD_eq_getElem?_getD, List.getElem?_append_right (by omega), show pre.length + 1 - pre.length = 1 by omega]
      simp only [List.cons_append, List.getElem?_cons_succ, List.getElem?_cons_zero, Option.getD_some]
      exact ofNat_small (by omega)
    rw [decFrom, dif_pos hlt, dif_neg (by rw [hb]; omega), if_neg (by rw [hb, hb2]; simp; omega), hb, hb2]
    rw [show 124 + n - 124 = n by omega]
    unfold grow
    simp
/-- Tokens are read back. -/
theorem dec_toks (suf : List UInt8) : ∀ (ys : List Tok) (pre out : List UInt8), Fits out ys → decFrom (pre ++ (ys.flatMap encTok ++ suf)) pre.length out = decFrom (pre ++ (ys.flatMap encTok ++ suf)) (pre.length + (ys.flatMap encTok).length) (mkAll out ys)
  | [], pre, out, _ => by simp [mkAll]
  | y :: ys, pre, out, h => by
    obtain ⟨h1, h2, h3, h4⟩ := h
    have ih := dec_toks suf ys (pre ++ encTok y) (grow out y) h4
    have e : pre ++ ((y :: ys).flatMap encTok ++ suf) = pre ++ (encTok y ++ (ys.flatMap encTok ++ suf)) := by simp
    rw [e, dec_tok pre _ out y h1 h2 h3]
    rw [List.append_assoc, List.length_append] at ih
    rw [ih, mkAll]
    congr 1
    simp; omega
/-- What is packed comes back. -/
theorem dec_compress (l : List UInt8) (hl : l.length ≤ 2000) : decFrom (compress l) 0 [] = some l := by
  obtain ⟨h1, h2⟩ := tokens_make l hl
  have h := dec_toks [] (tokens l) [] [] h1
  simp only [List.nil_append, List.append_nil, List.length_nil, Nat.zero_add] at h
  unfold compress
  rw [h, h2, decFrom, dif_neg (by omega)]
theorem expand_compress (l : List UInt8) (hl : l.length ≤ 2000) : expand1 (compress l) = l ∧ expand2 (compress l) = true := by
  unfold expand1 expand2 expandB
  rw [dec_compress l hl]
  simp
/-- A zero behind it: read as no text. -/
theorem expand_more (l : List UInt8) (hl : l.length ≤ 2000) : expand2 (compress l ++ [0]) = false := by
  obtain ⟨h1, h2⟩ := tokens_make l hl
  have h := dec_toks [0] (tokens l) [] [] h1
  simp only [List.nil_append, List.length_nil, Nat.zero_add] at h
  have hn : decFrom (compress l ++ [0]) 0 [] = none := by
    unfold compress
    have hlt : ((tokens l).flatMap encTok).length < ((tokens l).flatMap encTok ++ [0]).length := by simp
    have hb : ((tokens l).flatMap encTok ++ [0])[((tokens l).flatMap encTok).length] = 0 := by rw [List.getElem_append_right (Nat.le_refl _)]; simp
    rw [h, decFrom, dif_pos hlt, dif_neg (by rw [hb]; decide), if_pos (Or.inl (by rw [hb]; rfl))]
  unfold expand2 expandB
  rw [hn]
  rfl
theorem encTok_len (y : Tok) : 1 ≤ (encTok y).length := by unfold encTok; split <;> simp
/-- A token that is cut is read as none. -/
theorem dec_tok_cut (pre out : List UInt8) (y : Tok) (hy : TokOk y) : decFrom (pre ++ (encTok y).dropLast) pre.length out = none ∨ (encTok y).dropLast = [] := by
  rcases hy with ⟨h1, h2, h3, h4⟩ | ⟨h1, h2, h3, h4, h5⟩
  · obtain ⟨t, n, f⟩ := y
    simp only at h1 h2 h3 h4
    subst h1 h2
    left
    obtain ⟨t', b, rfl⟩ : ∃ t' b, t = t' ++ [b] := ⟨t.dropLast, t.getLast (by intro h; rw [h] at h3; simp at h3), (List.dropLast_concat_getLast _).symm⟩
    have e : (encTok ⟨t' ++ [b], 0, 0⟩).dropLast = UInt8.ofNat (t'.length + 1) :: t' := by
      have : encTok ⟨t' ++ [b], 0, 0⟩ = (UInt8.ofNat (t'.length + 1) :: t') ++ [b] := by simp [encTok]
      rw [this, List.dropLast_concat]
    rw [List.length_append, List.length_singleton] at h3 h4
    rw [e]
    have hlt : pre.length < (pre ++ (UInt8.ofNat (t'.length + 1) :: t')).length := by simp
    have hb : (pre ++ (UInt8.ofNat (t'.length + 1) :: t'))[pre.length].toNat = t'.length + 1 := by
      rw [List.getElem_append_right (Nat.le_refl _)]
      simp only [Nat.sub_self, List.getElem_cons_zero]
      exact ofNat_small (by omega)
    rw [decFrom, dif_pos hlt, dif_pos (by rw [hb]; omega), if_neg (by rw [hb]; simp)]
  · obtain ⟨t, n, f⟩ := y
    simp only at h1 h2 h3 h4 h5
    subst h1
    left
    have e : (encTok ⟨[], n, f⟩).dropLast = [UInt8.ofNat (124 + n)] := by
      have : encTok ⟨[], n, f⟩ = [UInt8.ofNat (124 + n), UInt8.ofNat f] := by simp [encTok]; omega
      rw [this]; rfl
    rw [e]
    have hlt : pre.length < (pre ++ [UInt8.ofNat (124 + n)]).length := by simp
    have hb : (pre ++ [UInt8.ofNat (124 + n)])[pre.length].toNat = 124 + n := by
      rw [List.getElem_append_right (Nat.le_refl _)]
      simp only [Nat.sub_self, List.getElem_cons_zero]
      exact ofNat_small (by omega)
    rw [decFrom, dif_pos hlt, dif_neg (by rw [hb]; omega), if_pos (Or.inr (Or.inl (by simp)))]
theorem enc_two (y : Tok) (hy : TokOk y) : 2 ≤ (encTok y).length := by
  rcases hy with ⟨h1, h2, h3, h4⟩ | ⟨h1, h2, h3, h4, h5⟩
  · unfold encTok; rw [if_neg (by omega)]; simp only [List.length_cons]; omega
  · unfold encTok; rw [if_pos (by omega)]; simp
theorem dec_less : ∀ (ys : List Tok) (pre out : List UInt8), ys ≠ [] → Fits out ys → decFrom (pre ++ (ys.flatMap encTok).dropLast) pre.length out = none
  | [], _, _, h, _ => absurd rfl h
  | [y], pre, out, _, h => by
    have h2 := enc_two y h.1
    have e : ([y] : List Tok).flatMap encTok = encTok y := by simp
    rw [e]
    rcases dec_tok_cut pre out y h.1 with h3 | h3
    · exact h3
    · have := congrArg List.length h3
      rw [List.length_dropLast] at this
      simp at this
      omega
  | y :: z :: ys, pre, out, _, h => by
    obtain ⟨h1, h2, h3, h4⟩ := h
    have ih := dec_less (z :: ys) (pre ++ encTok y) (grow out y) (by simp) h4
    have hz := enc_two z h4.1
    have hne : (z :: ys).flatMap encTok ≠ [] := by
      intro h
      have := congrArg List.length h
      rw [List.flatMap_cons, List.length_append, List.length_nil] at this
      omega
    rw [List.flatMap_cons, List.dropLast_append_of_ne_nil hne, dec_tok pre _ out y h1 h2 h3]
    rw [List.append_assoc, List.length_append] at ih
    exact ih
/-- The last byte struck: read as no text. -/
theorem expand_less (l : List UInt8) (hl : l.length ≤ 2000) (h0 : l ≠ []) : expand2 ((compress l).dropLast) = false := by
  obtain ⟨h1, h2⟩ := tokens_make l hl
  have hne : tokens l ≠ [] := by intro h; rw [h] at h2; exact h0 h2.symm
  have hn := dec_less (tokens l) [] [] hne h1
  simp only [List.nil_append, List.length_nil] at hn
  unfold expand2 expandB compress
  rw [hn]
  rfl
/-- What is read is no longer than a text may be, and is packed so. -/
theorem expand_ok (s : List UInt8) (h : expand2 s = true) : compress (expand1 s) = s ∧ (expand1 s).length ≤ 2000 := by
  unfold expand2 expandB at h
  unfold expand1 expandB
  cases hd : decFrom s 0 [] with
  | none => rw [hd] at h; cases h
  | some out =>
    rw [hd] at h
    by_cases hc : compress out = s
    · simp only [if_pos hc, Option.getD_some]
      refine ⟨hc, ?_⟩
      by_cases hl : out.length ≤ 2000
      · exact hl
      · have : compress out = [] := by unfold compress tokens; rw [if_pos (by omega)]; rfl
        rw [hc] at this
        subst this
        rw [decFrom, dif_neg (by simp)] at hd
        cases hd
        simp
    · simp [if_neg hc] at h
theorem expand_no (s : List UInt8) (h : expand2 s = false) : expand1 s = [] := by
  unfold expand2 at h
  unfold expand1
  cases hd : expandB s with
  | none => rfl
  | some out => rw [hd] at h; cases h
theorem flush_len (t : List UInt8) : ((flush t).flatMap encTok).length = if t = [] then 0 else t.length + 1 := by
  unfold flush
  split
  · rfl
  · simp [encTok]
/-- What is packed is hardly longer than it was. -/
theorem toks_len (l : List UInt8) : ∀ (d i : Nat) (t : List UInt8), l.length - i ≤ d → t.length ≤ 127 → ((toksFrom l i t).flatMap encTok).length ≤ (l.length - i + t.length) + 1 + (l.length - i + t.length) / 127 := by
  intro d
  induction d with
  | zero =>
    intro i t hd ht
    rw [toksFrom, dif_neg (by omega), flush_len]
    split <;> omega
  | succ d ih =>
    intro i t hd ht
    rw [toksFrom]
    split
    · rename_i hi
      split
      · rename_i hc
        have hk := copyAt_ok l i hc
        have h1 := ih (i + (copyAt l i).1) [] (by omega) (by simp)
        have h3 : (encTok ⟨[], (copyAt l i).1, (copyAt l i).2⟩).length = 2 := by simp [encTok, hc]
        rw [List.flatMap_append, List.length_append, List.flatMap_cons, List.length_append, h3, flush_len]
        simp only [List.length_nil] at h1
        split
        · rename_i e; subst e; simp only [List.length_nil] at *; omega
        · omega
      · split
        · rename_i h127
          have h1 := ih (i + 1) [l[i]] (by omega) (by simp)
          have h3 : (encTok ⟨t, 0, 0⟩).length = t.length + 1 := by simp [encTok]
          rw [List.flatMap_cons, List.length_append, h3]
          simp only [List.length_singleton] at h1
          omega
        · have h1 := ih (i + 1) (t ++ [l[i]]) (by omega) (by rw [List.length_append, List.length_singleton]; omega)
          rw [List.length_append, List.length_singleton] at h1
          omega
    · rw [flush_len]
      split <;> omega
theorem compress_hardly (l : List UInt8) : (compress l).length ≤ l.length + 1 + l.length / 5 + l.length / 127 := by
  unfold compress tokens
  split
  · simp
  · have := toks_len l l.length 0 [] (by omega) (by simp)
    simp only [List.length_nil] at this
    omega

/-- A byte that stands nowhere ahead is told. -/
theorem run_none (l : List UInt8) (i far : Nat) (h : l[i]? ≠ l[i - far]?) : runLen l i far = 0 := by
  unfold runLen
  exact runFrom_stop l i far 0 67 (fun hc => h (by simpa using hc.2))
theorem best_none (l : List UInt8) (i : Nat) : ∀ f, f ≤ i → (∀ g, 1 ≤ g → g ≤ f → runLen l i g < 4) → bestTo l i f = (0, 0)
  | 0, _, _ => rfl
  | f + 1, hf, h => by
    rw [bestTo, if_neg (by have := h (f + 1) (by omega) (by omega); omega)]
    exact best_none l i f (by omega) (fun g h1 h2 => h g h1 (by omega))
theorem copy_none (l : List UInt8) (i : Nat) (h : ∀ j, j < i → l[i]? ≠ l[j]?) : copyAt l i = (0, 0) := by
  unfold copyAt
  exact best_none l i _ (by omega) (fun g h1 h2 => by rw [run_none l i g (h (i - g) (by omega))]; decide)
/-- The best copy of those up to a Far stays, where none farther is longer. -/
theorem best_stays (l : List UInt8) (i f : Nat) : ∀ d, (∀ g, f < g → g ≤ f + d → runLen l i g ≤ (bestTo l i f).1) → bestTo l i (f + d) = bestTo l i f
  | 0, _ => rfl
  | d + 1, h => by
    have ih := best_stays l i f d (fun g h1 h2 => h g h1 (by omega))
    rw [show f + (d + 1) = f + d + 1 by omega, bestTo, ih, if_neg (by have := h (f + d + 1) (by omega) (by omega); omega)]
theorem best_is (l : List UInt8) (i f m n : Nat) (hf : 1 ≤ f) (hm : f ≤ m) (hn : 4 ≤ n) (h1 : ∀ g, 1 ≤ g → g < f → runLen l i g < n) (h2 : runLen l i f = n) (h3 : ∀ g, f < g → g ≤ m → runLen l i g ≤ n) : bestTo l i m = (n, f) := by
  obtain ⟨e, rfl⟩ : ∃ e, f = e + 1 := ⟨f - 1, by omega⟩
  have hb : (bestTo l i e).1 < n := by
    rcases bestTo_ok l i e with h | ⟨_, h5, h6, h7⟩
    · rw [h]; simp only; omega
    · rw [h7]; exact h1 _ h5 (by omega)
  have h0 : bestTo l i (e + 1) = (n, e + 1) := by rw [bestTo, h2, if_pos ⟨hn, hb⟩]
  obtain ⟨d, rfl⟩ : ∃ d, m = e + 1 + d := ⟨m - (e + 1), by omega⟩
  rw [best_stays l i (e + 1) d (fun g h4 h5 => by rw [h0]; exact h3 g h4 h5), h0]
/-- A run, as long as may be. -/
theorem runFrom_all (l : List UInt8) (i far : Nat) : ∀ f n m, n ≤ m → m ≤ n + f → (∀ j, n ≤ j → j < m → i + j < l.length ∧ l[i + j]? = l[i + j - far]?) → (m = n + f ∨ ¬ (i + m < l.length ∧ l[i + m]? = l[i + m - far]?)) → runFrom l i far n f = m
  | 0, n, m, h1, h2, _, _ => by simp only [runFrom]; omega
  | f + 1, n, m, h1, h2, h3, h4 => by
    by_cases e : n = m
    · subst e
      rcases h4 with h4 | h4
      · omega
      · exact runFrom_stop l i far n (f + 1) h4
    · rw [runFrom, if_pos (h3 n (Nat.le_refl _) (by omega))]
      exact runFrom_all l i far f (n + 1) m (by omega) (by omega) (fun j h5 h6 => h3 j (by omega) h6) (by rcases h4 with h4 | h4; exact Or.inl (by omega); exact Or.inr h4)
theorem runLen_is (l : List UInt8) (i far m : Nat) (hm : m ≤ 67) (h : ∀ j, j < m → i + j < l.length ∧ l[i + j]? = l[i + j - far]?) (he : m = 67 ∨ i + m = l.length ∨ l[i + m]? ≠ l[i + m - far]?) : runLen l i far = m := by
  unfold runLen
  refine runFrom_all l i far 67 0 m (by omega) (by omega) (fun j _ hj => h j hj) ?_
  rcases he with h | h | h
  · exact Or.inl (by omega)
  · exact Or.inr (by omega)
  · exact Or.inr (fun hc => h hc.2)
theorem runLen_end (l : List UInt8) (i far : Nat) (hi : i ≤ l.length) : runLen l i far ≤ l.length - i := by
  cases h : runLen l i far with
  | zero => omega
  | succ n => have := (runLen_same l i far n (by omega)).1; omega
/-- Bytes that stand nowhere ahead are told, one behind the other. -/
theorem toks_told (l : List UInt8) (m : Nat) (hm : m ≤ 127) (hml : m ≤ l.length) (h : ∀ i, i < m → copyAt l i = (0, 0)) : ∀ d i, m - i = d → i ≤ m → toksFrom l i (l.take i) = toksFrom l m (l.take m)
  | 0, i, hd, hi => by rw [show i = m by omega]
  | d + 1, i, hd, hi => by
    have hil : i < l.length := by omega
    have hone : l.take (i + 1) = l.take i ++ [l[i]] := by rw [take_more l i hil, List.getD_eq_getElem?_getD, List.getElem?_eq_getElem hil]; rfl
    rw [toksFrom, dif_pos hil, dif_neg (by rw [h i (by omega)]; decide), if_neg (by rw [List.length_take]; omega), ← hone]
    exact toks_told l m hm hml h d (i + 1) (by omega) (by omega)
end Go.Proofs.Ytjgdjpjafhllhaa
