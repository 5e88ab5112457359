/- Plain mathematics of packed texts: a text in which one part comes again and again. -/
import Derived.Test.YtjgdjpjafhllhaaTripPure
namespace Go.Proofs.Ytjgdjpjafhllhaa
set_option linter.unusedVariables false

/-- A part of p bytes, no two alike, again and again. -/
structure Per (l : List UInt8) (p : Nat) (b : Nat → UInt8) : Prop where
  one : 1 ≤ p
  small : p ≤ 127
  long : p ≤ l.length
  at_ : ∀ k, k < l.length → l[k]? = some (b (k % p))
  inj : ∀ x y, x < p → y < p → b x = b y → x = y

theorem Per.same {l : List UInt8} {p : Nat} {b : Nat → UInt8} (h : Per l p b) {x y : Nat} (hx : x < l.length) (hy : y < l.length) : l[x]? = l[y]? ↔ x % p = y % p := by
  rw [h.at_ x hx, h.at_ y hy]
  constructor
  · intro e
    have hp := h.one
    exact h.inj _ _ (Nat.mod_lt _ (by omega)) (Nat.mod_lt _ (by omega)) (by simpa using e)
  · intro e; rw [e]
theorem Per.told {l : List UInt8} {p : Nat} {b : Nat → UInt8} (h : Per l p b) (i : Nat) (hi : i < p) : copyAt l i = (0, 0) := by
  have := h.long
  refine copy_none l i (fun j hj e => ?_)
  have e2 := (h.same (by omega) (by omega)).1 e
  rw [Nat.mod_eq_of_lt hi, Nat.mod_eq_of_lt (by omega)] at e2
  omega
theorem Per.run {l : List UInt8} {p : Nat} {b : Nat → UInt8} (h : Per l p b) (i : Nat) (hi : i ≤ l.length) (hpi : p ≤ i) : runLen l i p = min 67 (l.length - i) := by
  refine runLen_is l i p _ (by omega) (fun j hj => ⟨by omega, ?_⟩) (by omega)
  refine (h.same (by omega) (by omega)).2 ?_
  have := h.one
  conv => lhs; rw [show i + j = i + j - p + p by omega]
  rw [Nat.add_mod_right]
theorem Per.less {l : List UInt8} {p : Nat} {b : Nat → UInt8} (h : Per l p b) (i g : Nat) (hi : i < l.length) (hpi : p ≤ i) (h1 : 1 ≤ g) (h2 : g < p) : runLen l i g = 0 := by
  refine run_none l i g (fun e => ?_)
  have e2 := (h.same hi (by omega)).1 e
  have h3 : (i - g) % p = i % p := e2.symm
  have hp := h.one
  have h4 := Nat.div_add_mod i p
  have h5 := Nat.div_add_mod (i - g) p
  have h6 : p * (i / p) - p * ((i - g) / p) = g := by omega
  rw [← Nat.mul_sub] at h6
  cases hq : i / p - (i - g) / p with
  | zero => rw [hq] at h6; omega
  | succ q => rw [hq, Nat.mul_succ] at h6; omega
/-- The copy at each place behind the part. -/
theorem Per.copy {l : List UInt8} {p : Nat} {b : Nat → UInt8} (h : Per l p b) (i : Nat) (hi : i < l.length) (hpi : p ≤ i) : copyAt l i = if 4 ≤ min 67 (l.length - i) then (min 67 (l.length - i), p) else (0, 0) := by
  have hs := h.small
  have hall : ∀ g, runLen l i g ≤ min 67 (l.length - i) := fun g => by
    have := runLen_le l i g; have := runLen_end l i g (by omega); omega
  unfold copyAt
  split
  · rename_i h4
    exact best_is l i p _ _ h.one (by omega) h4 (fun g h1 h2 => by rw [h.less i g hi hpi h1 h2]; omega) (h.run i (by omega) hpi) (fun g _ _ => hall g)
  · exact best_none l i _ (by omega) (fun g _ _ => by have := hall g; omega)
/-- Where no copy comes any more the rest is told. -/
theorem toks_rest (l : List UInt8) : ∀ (d i : Nat) (t : List UInt8), l.length - i = d → i ≤ l.length → t.length + (l.length - i) ≤ 127 → (∀ j, i ≤ j → j < l.length → copyAt l j = (0, 0)) → toksFrom l i t = flush (t ++ l.drop i)
  | 0, i, t, hd, hi, ht, h => by
    rw [toksFrom, dif_neg (by omega), List.drop_eq_nil_of_le (by omega), List.append_nil]
  | d + 1, i, t, hd, hi, ht, h => by
    have hil : i < l.length := by omega
    rw [toksFrom, dif_pos hil, dif_neg (by rw [h i (by omega) hil]; decide), if_neg (by omega)]
    rw [toks_rest l d (i + 1) (t ++ [l[i]]) (by omega) (by omega) (by rw [List.length_append, List.length_singleton]; omega) (fun j h1 h2 => h j (by omega) h2)]
    rw [List.append_assoc, List.drop_eq_getElem_cons hil]
    rfl
/-- How many tokens so many bytes make. -/
def cnt (m : Nat) : Nat := m / 67 + if 0 < m % 67 then 1 else 0
theorem cnt_small (m : Nat) (h1 : 0 < m) (h2 : m ≤ 67) : cnt m = 1 := by
  unfold cnt
  by_cases e : m = 67
  · subst e; rfl
  · rw [if_pos (by omega)]; omega
theorem cnt_more (m : Nat) (h : 67 ≤ m) : cnt m = 1 + cnt (m - 67) := by
  unfold cnt
  obtain ⟨k, rfl⟩ : ∃ k, m = k + 67 := ⟨m - 67, by omega⟩
  rw [Nat.add_sub_cancel, Nat.add_mod_right]
  omega
theorem Per.toks {l : List UInt8} {p : Nat} {b : Nat → UInt8} (h : Per l p b) : ∀ (d i : Nat), l.length - i ≤ d → i ≤ l.length → p ≤ i → (toksFrom l i []).length = cnt (l.length - i) ∧ ∀ y ∈ toksFrom l i [], 0 < y.len → y.far = p := by
  intro d
  induction d with
  | zero =>
    intro i hd hi hpi
    rw [toksFrom, dif_neg (by omega), show l.length - i = 0 by omega]
    exact ⟨rfl, fun y hy => by simp [flush] at hy⟩
  | succ d ih =>
    intro i hd hi hpi
    by_cases hil : i < l.length
    · by_cases h4 : 4 ≤ l.length - i
      · have hc := h.copy i hil hpi
        rw [if_pos (by omega)] at hc
        have h1 := ih (i + min 67 (l.length - i)) (by omega) (by omega) (by omega)
        rw [toksFrom, dif_pos hil, hc]
        simp only
        rw [dif_pos (by omega)]
        refine ⟨?_, ?_⟩
        · have hf : (flush []).length = 0 := rfl
          rw [List.length_append, List.length_cons, h1.1, hf]
          by_cases h67 : 67 ≤ l.length - i
          · rw [cnt_more _ h67, show l.length - (i + min 67 (l.length - i)) = l.length - i - 67 by omega]; omega
          · rw [cnt_small (l.length - i) (by omega) (by omega), show l.length - (i + min 67 (l.length - i)) = 0 by omega]; rfl
        · intro y hy hl
          rcases List.mem_append.1 hy with hy | hy
          · cases hy
          · rcases List.mem_cons.1 hy with rfl | hy
            · rfl
            · exact h1.2 y hy hl
      · have hr := toks_rest l _ i [] rfl hi (by simp only [List.length_nil]; omega) (fun j h1 h2 => by rw [h.copy j h2 (by omega), if_neg (by omega)])
        rw [hr, List.nil_append]
        have hne : l.drop i ≠ [] := by
          intro e
          have := congrArg List.length e
          rw [List.length_drop, List.length_nil] at this
          omega
        unfold flush
        rw [if_neg hne]
        refine ⟨?_, fun y hy hl => ?_⟩
        · rw [cnt_small _ (by omega) (by omega)]; rfl
        · simp only [List.mem_singleton] at hy
          subst hy
          simp at hl
    · rw [toksFrom, dif_neg hil, show l.length - i = 0 by omega]
      exact ⟨rfl, fun y hy => by simp [flush] at hy⟩
/-- Its tokens: the part, and copies from p ahead. -/
theorem Per.tokens {l : List UInt8} {p : Nat} {b : Nat → UInt8} (h : Per l p b) (hl : l.length ≤ 2000) (hm : 4 ≤ l.length - p) : tokens l = ⟨l.take p, 0, 0⟩ :: ⟨[], min 67 (l.length - p), p⟩ :: toksFrom l (p + min 67 (l.length - p)) [] := by
  have h1 := h.one
  have h0 := toks_told l p h.small h.long (fun i hi => h.told i hi) p 0 (by omega) (by omega)
  rw [List.take_zero] at h0
  have hc := h.copy p (by omega) (Nat.le_refl _)
  rw [if_pos (by omega)] at hc
  unfold Go.Proofs.Ytjgdjpjafhllhaa.tokens
  rw [if_neg (by omega), h0, toksFrom, dif_pos (by omega), hc]
  simp only
  rw [dif_pos (by omega)]
  have hne : l.take p ≠ [] := by
    intro e
    have := congrArg List.length e
    rw [List.length_take, List.length_nil] at this
    omega
  unfold flush
  rw [if_neg hne]
  rfl
theorem Per.count {l : List UInt8} {p : Nat} {b : Nat → UInt8} (h : Per l p b) (hl : l.length ≤ 2000) (hm : 4 ≤ l.length - p) : (Go.Proofs.Ytjgdjpjafhllhaa.tokens l).length = 1 + cnt (l.length - p) := by
  rw [h.tokens hl hm]
  have h1 := h.toks l.length (p + min 67 (l.length - p)) (by omega) (by omega) (by omega)
  rw [List.length_cons, List.length_cons, h1.1]
  by_cases h67 : 67 ≤ l.length - p
  · rw [cnt_more _ h67, show l.length - (p + min 67 (l.length - p)) = l.length - p - 67 by omega]; omega
  · rw [cnt_small (l.length - p) (by omega) (by omega), show l.length - (p + min 67 (l.length - p)) = 0 by omega]; rfl
theorem Per.far {l : List UInt8} {p : Nat} {b : Nat → UInt8} (h : Per l p b) (hl : l.length ≤ 2000) (hm : 4 ≤ l.length - p) : ∀ y ∈ Go.Proofs.Ytjgdjpjafhllhaa.tokens l, 0 < y.len → y.far = p := by
  rw [h.tokens hl hm]
  intro y hy hlen
  rcases List.mem_cons.1 hy with rfl | hy
  · simp at hlen
  · rcases List.mem_cons.1 hy with rfl | hy
    · rfl
    · exact (h.toks l.length (p + min 67 (l.length - p)) (by omega) (by omega) (by omega)).2 y hy hlen
/-- One copy to the end. -/
theorem Per.two {l : List UInt8} {p : Nat} {b : Nat → UInt8} (h : Per l p b) (hm : 4 ≤ l.length - p) (h67 : l.length - p ≤ 67) : Go.Proofs.Ytjgdjpjafhllhaa.tokens l = [⟨l.take p, 0, 0⟩, ⟨[], l.length - p, p⟩] := by
  have := h.small
  rw [h.tokens (by omega) hm, show min 67 (l.length - p) = l.length - p by omega, toksFrom, dif_neg (by omega)]
  rfl
/-- One byte again and again. -/
theorem per_zeros (n : Nat) (hn : 1 ≤ n) : Per (List.replicate n 0) 1 (fun _ => 0) :=
  ⟨by omega, by omega, by simpa using hn, fun k hk => by rw [List.length_replicate] at hk; rw [List.getElem?_replicate, if_pos hk], fun x y hx hy _ => by omega⟩
/-- A list of bytes no two of which are alike, twice or thrice. -/
theorem per_times (s : List UInt8) (hinj : ∀ x y, x < s.length → y < s.length → s.getD x 0 = s.getD y 0 → x = y) (h1 : 1 ≤ s.length) (h2 : s.length ≤ 127) : Per (s ++ s) s.length (fun k => s.getD k 0) ∧ Per (s ++ s ++ s) s.length (fun k => s.getD k 0) := by
  have hg : ∀ k, k < s.length → s[k]? = some (s.getD k 0) := by
    intro k hk
    rw [List.getD_eq_getElem?_getD, List.getElem?_eq_getElem hk]; rfl
  have h2' : ∀ k, k < s.length + s.length → (s ++ s)[k]? = some (s.getD (k % s.length) 0) := by
    intro k hk
    by_cases hlt : k < s.length
    · rw [List.getElem?_append_left hlt, Nat.mod_eq_of_lt hlt, hg k hlt]
    · rw [List.getElem?_append_right (by omega), Nat.mod_eq_sub_mod (by omega), Nat.mod_eq_of_lt (by omega), hg _ (by omega)]
  refine ⟨⟨h1, h2, by simp, fun k hk => h2' k (by simpa using hk), hinj⟩, ⟨h1, h2, by simp, fun k hk => ?_, hinj⟩⟩
  simp only [List.length_append] at hk
  by_cases hlt : k < s.length + s.length
  · rw [List.getElem?_append_left (by simpa using hlt), h2' k hlt]
  · rw [List.getElem?_append_right (by simp; omega), List.length_append, Nat.mod_eq_sub_mod (by omega), Nat.mod_eq_sub_mod (by omega), Nat.mod_eq_of_lt (by omega), Nat.sub_sub, hg _ (by omega)]
end Go.Proofs.Ytjgdjpjafhllhaa
