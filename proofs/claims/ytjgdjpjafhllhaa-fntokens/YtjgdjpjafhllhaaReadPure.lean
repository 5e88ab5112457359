/- Plain mathematics of reading token by token, as the program does. -/
import Derived.Test.YtjgdjpjafhllhaaTripPure
namespace Go.Proofs.Ytjgdjpjafhllhaa
set_option linter.unusedVariables false

/-- A token read at a place, and the place behind it. -/
def readTok (l : List UInt8) (a : Nat) : Option (Tok × Nat) :=
  if (l.getD a 0).toNat = 0 ∨ 191 < (l.getD a 0).toNat then none
  else if (l.getD a 0).toNat ≤ 127 then
    if a + 1 + (l.getD a 0).toNat ≤ l.length then some (⟨(l.drop (a + 1)).take (l.getD a 0).toNat, 0, 0⟩, a + 1 + (l.getD a 0).toNat) else none
  else if a + 1 < l.length ∧ (l.getD (a + 1) 0).toNat ≠ 0 then some (⟨[], (l.getD a 0).toNat - 124, (l.getD (a + 1) 0).toNat⟩, a + 2) else none


theorem getD_lt (l : List UInt8) (a : Nat) (h : (l.getD a 0).toNat ≠ 0) : a < l.length := by
  by_cases hl : a < l.length
  · exact hl
  · exact absurd (by rw [List.getD_eq_getElem?_getD, List.getElem?_eq_none (by omega)]; rfl) h
theorem readTok_ok {l : List UInt8} {a b : Nat} {y : Tok} (h : readTok l a = some (y, b)) : TokOk y ∧ a < b ∧ b ≤ l.length := by
  unfold readTok at h
  split at h
  · cases h
  · rename_i h0
    have hl := getD_lt l a (fun e => h0 (.inl e))
    split at h
    · rename_i h127
      split at h
      · rename_i hf
        cases h
        refine ⟨.inl ⟨rfl, rfl, ?_, ?_⟩, by omega, hf⟩ <;> (simp only; rw [List.length_take, List.length_drop]; omega)
      · cases h
    · rename_i h127
      split at h
      · rename_i hf
        cases h
        have := (l.getD (a + 1) 0).toNat_lt
        exact ⟨.inr ⟨rfl, by simp only; omega, by simp only; omega, by simp only; omega, by simp only; omega⟩, by omega, by omega⟩
      · cases h
theorem getD_drop (l : List UInt8) (a : Nat) (c : UInt8) (r : List UInt8) (h : l.drop a = c :: r) : l.getD a 0 = c ∧ a < l.length ∧ l.drop (a + 1) = r := by
  have hl : a < l.length := by
    by_cases hl : a < l.length
    · exact hl
    · rw [List.drop_eq_nil_of_le (by omega)] at h; cases h
  rw [List.drop_eq_getElem_cons hl] at h
  cases h
  exact ⟨by rw [List.getD_eq_getElem?_getD, List.getElem?_eq_getElem hl]; rfl, hl, rfl⟩
/-- A token's bytes are read as that token. -/
theorem read_enc (l : List UInt8) (a : Nat) (y : Tok) (r : List UInt8) (hy : TokOk y) (h : l.drop a = encTok y ++ r) : readTok l a = some (y, a + (encTok y).length) ∧ l.drop (a + (encTok y).length) = r := by
  have hd : l.drop (a + (encTok y).length) = r := by rw [← List.drop_drop, h]; exact List.drop_left ..
  refine ⟨?_, hd⟩
  rcases hy with ⟨h1, h2, h3, h4⟩ | ⟨h1, h2, h3, h4, h5⟩
  · obtain ⟨t, n, f⟩ := y
    simp only at h1 h2 h3 h4
    subst h1 h2
    have e : encTok ⟨t, 0, 0⟩ = UInt8.ofNat t.length :: t := by simp [encTok]
    rw [e] at h ⊢
    obtain ⟨g1, g2, g3⟩ := getD_drop l a _ (t ++ r) h
    have g4 : (l.getD a 0).toNat = t.length := by rw [g1]; exact ofNat_small (by omega)
    have g5 : a + 1 + t.length ≤ l.length := by
      have := congrArg List.length g3
      rw [List.length_drop, List.length_append] at this
      omega
    unfold readTok
    rw [g4, if_neg (by omega), if_pos h4, if_pos g5, g3]
    rw [List.take_left]
    simp only [List.length_cons]
    rw [show a + 1 + t.length = a + (t.length + 1) by omega]
  · obtain ⟨t, n, f⟩ := y
    simp only at h1 h2 h3 h4 h5
    subst h1
    have e : encTok ⟨[], n, f⟩ = [UInt8.ofNat (124 + n), UInt8.ofNat f] := by simp [encTok]; omega
    rw [e] at h ⊢
    obtain ⟨g1, g2, g3⟩ := getD_drop l a _ _ h
    obtain ⟨k1, k2, k3⟩ := getD_drop l (a + 1) _ _ g3
    have g4 : (l.getD a 0).toNat = 124 + n := by rw [g1]; exact ofNat_small (by omega)
    have k4 : (l.getD (a + 1) 0).toNat = f := by rw [k1]; exact ofNat_small (by omega)
    unfold readTok
    rw [g4, if_neg (by omega), if_neg (by omega), k4, if_pos ⟨k2, by omega⟩]
    simp

/-- A text of which these are the packed bytes. -/
def Packs (l x : List UInt8) : Prop := x.length ≤ 2000 ∧ compress x = l
/-- What is left to read makes, behind what is made, any text of which these are the packed bytes. -/
def TokLeft (l : List UInt8) (a : Nat) (out : List UInt8) : Prop := ∀ x, Packs l x → ∃ ys, l.drop a = ys.flatMap encTok ∧ Fits out ys ∧ mkAll out ys = x
theorem left_new (l : List UInt8) : TokLeft l 0 [] := by
  rintro x ⟨h1, rfl⟩
  exact ⟨tokens x, rfl, tokens_make x h1⟩
theorem left_step {l out : List UInt8} {a : Nat} (h : TokLeft l a out) (ha : a < l.length) (x : List UInt8) (hx : Packs l x) : ∃ y ys, readTok l a = some (y, a + (encTok y).length) ∧ l.drop (a + (encTok y).length) = ys.flatMap encTok ∧ Fits out (y :: ys) ∧ mkAll out (y :: ys) = x := by
  obtain ⟨ys, h1, h2, h3⟩ := h x hx
  cases ys with
  | nil =>
    have := congrArg List.length h1
    rw [List.length_drop] at this
    simp at this
    omega
  | cons y ys =>
    rw [List.flatMap_cons] at h1
    obtain ⟨k1, k2⟩ := read_enc l a y _ h2.1 h1
    exact ⟨y, ys, k1, k2, h2, h3⟩
theorem left_none {l out : List UInt8} {a : Nat} (h : TokLeft l a out) (ha : a < l.length) (hr : readTok l a = none) (x : List UInt8) : ¬ Packs l x := by
  intro hx
  obtain ⟨y, ys, h1, _⟩ := left_step h ha x hx
  rw [hr] at h1
  cases h1
theorem left_far {l out : List UInt8} {a b : Nat} {y : Tok} (h : TokLeft l a out) (ha : a < l.length) (hr : readTok l a = some (y, b)) (hf : out.length < y.far) (x : List UInt8) : ¬ Packs l x := by
  intro hx
  obtain ⟨y', ys, h1, _, h2, _⟩ := left_step h ha x hx
  rw [hr] at h1
  cases h1
  obtain ⟨k1, k2, _⟩ := h2
  rcases k1 with ⟨_, k, _⟩ | ⟨_, k, _⟩ <;> omega
theorem left_next {l out : List UInt8} {a b : Nat} {y : Tok} (h : TokLeft l a out) (ha : a < l.length) (hr : readTok l a = some (y, b)) : TokLeft l b (grow out y) := by
  intro x hx
  obtain ⟨y', ys, h1, h2, h3, h4⟩ := left_step h ha x hx
  rw [hr] at h1
  cases h1
  exact ⟨ys, h2, h3.2.2.2, h4⟩
theorem grow_len (out : List UInt8) (y : Tok) : (grow out y).length = out.length + y.text.length + y.len := by unfold grow; rw [copyOut_len, List.length_append]
theorem mkAll_ge : ∀ (ys : List Tok) (out : List UInt8), out.length ≤ (mkAll out ys).length
  | [], out => Nat.le_refl _
  | y :: ys, out => by
    have h1 := mkAll_ge ys (grow out y)
    have h2 := grow_len out y
    rw [mkAll]; omega
theorem left_long {l out : List UInt8} {a : Nat} (h : TokLeft l a out) (hl : 2000 < out.length) (x : List UInt8) : ¬ Packs l x := by
  intro hx
  obtain ⟨ys, _, _, h3⟩ := h x hx
  have h1 := mkAll_ge ys out
  rw [h3] at h1
  have := hx.1
  omega
theorem left_end {l out : List UInt8} {a : Nat} (h : TokLeft l a out) (ha : ¬ a < l.length) (x : List UInt8) (hx : Packs l x) : out = x := by
  obtain ⟨ys, h1, h2, h3⟩ := h x hx
  cases ys with
  | nil => exact h3
  | cons y ys =>
    have h4 := congrArg List.length h1
    have h5 := encTok_len y
    rw [List.length_drop, List.flatMap_cons, List.length_append] at h4
    omega
/-- Expand by what is packed of which text. -/
theorem expand_yes {l x : List UInt8} (h : Packs l x) : expand1 l = x ∧ expand2 l = true := by
  obtain ⟨h1, rfl⟩ := h
  exact expand_compress x h1
theorem expand_not {l : List UInt8} (h : ∀ x, ¬ Packs l x) : expand1 l = [] ∧ expand2 l = false := by
  have h2 : expand2 l = false := by
    cases he : expand2 l
    · rfl
    · have := expand_ok l he
      exact absurd ⟨this.2, this.1⟩ (h _)
  exact ⟨expand_no l h2, h2⟩
end Go.Proofs.Ytjgdjpjafhllhaa
