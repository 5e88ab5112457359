/- What is read from a key: what stands ahead of the first byte 0, ahead of the second one, and behind it. -/
import Derived.Test.YtejoiaijlaaekaaCellPure
import Derived.Lib.Bytealg
namespace Go.Proofs.Ytejoiaijlaaekaa
open Go.RowKit
set_option linter.unusedVariables false

def cut1 (l : List UInt8) : List UInt8 := l.takeWhile (· != 0)
def cut2 (l : List UInt8) : List UInt8 := l.drop ((cut1 l).length + 1)
theorem cut1_zero : ∀ {r x : List UInt8}, (0 : UInt8) ∉ r → cut1 (r ++ 0 :: x) = r
  | [], x, _ => by simp [cut1]
  | a :: as, x, h => by
    have ha : a ≠ 0 := fun e => h (by simp [e])
    have ih := cut1_zero (r := as) (x := x) (fun hm => h (by simp [hm]))
    unfold cut1 at ih ⊢
    rw [List.cons_append, List.takeWhile_cons_of_pos (by simpa using ha), ih]
theorem cut2_zero {r x : List UInt8} (h : (0 : UInt8) ∉ r) : cut2 (r ++ 0 :: x) = x := by
  unfold cut2
  rw [cut1_zero h, List.drop_append]
  simp
theorem cut_index : ∀ l : List UInt8, (Lib.indexByte l 0 = -1 ∧ cut1 l = l ∧ cut2 l = []) ∨ ∃ k : Nat, Lib.indexByte l 0 = k ∧ k < l.length ∧ cut1 l = l.take k ∧ cut2 l = l.drop (k + 1)
  | [] => .inl ⟨by simp [Lib.indexByte], by simp [cut1], by simp [cut2, cut1]⟩
  | a :: as => by
    by_cases ha : a = 0
    · subst ha
      exact .inr ⟨0, by simp [Lib.indexByte], by simp, by simp [cut1], by simp [cut2, cut1]⟩
    · have h1 : cut1 (a :: as) = a :: cut1 as := by unfold cut1; rw [List.takeWhile_cons_of_pos (by simpa using ha)]
      have h2 : cut2 (a :: as) = cut2 as := by unfold cut2; rw [h1]; simp
      have ha' : (a == 0) = false := by simpa using ha
      rcases cut_index as with ⟨e1, e2, e3⟩ | ⟨k, e1, e2, e3, e4⟩
      · exact .inl ⟨by simp [Lib.indexByte, ha', e1], by rw [h1, e2], by rw [h2, e3]⟩
      · refine .inr ⟨k + 1, ?_, by simp; omega, by rw [h1, e3]; simp, by rw [h2, e4]; simp⟩
        unfold Lib.indexByte
        rw [ha', e1]
        have : ((k : Int) == -1) = false := by simp
        simp [this]
/-- How many bytes stand ahead of the first byte 0. -/
theorem cut1_at {l : List UInt8} {k : Nat} (hk : k ≤ l.length) (h : ∀ j, j < k → ∃ c, l[j]? = some c ∧ c ≠ 0) (he : k = l.length ∨ l[k]? = some 0) : cut1 l = l.take k := by
  induction l generalizing k with
  | nil => simp [cut1]
  | cons a as ih =>
    cases k with
    | zero =>
      rcases he with he | he
      · simp at he
      · simp at he
        subst he
        simp [cut1]
    | succ k =>
      obtain ⟨c, hc, hne⟩ := h 0 (by omega)
      simp at hc
      subst hc
      have := ih (k := k) (by simpa using hk) (fun j hj => by obtain ⟨d, hd, h0⟩ := h (j + 1) (by omega); exact ⟨d, by simpa using hd, h0⟩) (by rcases he with he | he; exact .inl (by simpa using he); exact .inr (by simpa using he))
      unfold cut1 at this ⊢
      rw [List.takeWhile_cons_of_pos (by simpa using hne), this, List.take_succ_cons]

theorem getFix_back (n : Nat) (h : n ≤ 1000000000) : getFix (fixB n 4) 0 4 = n := by
  unfold getFix
  rw [if_pos (by simp [fix_length])]
  simp only [Int.toNat_zero, List.drop_zero]
  rw [show (4 : Int).toNat = 4 from rfl, List.take_of_length_le (by simp [fix_length]), fixVal_fix, Nat.mod_eq_of_lt (by omega)]
theorem getFix_bd (l : List UInt8) : -1 ≤ getFix l 0 4 ∧ getFix l 0 4 < 4294967296 := by
  unfold getFix
  by_cases h : (1 : Int) ≤ 4 ∧ (4 : Int) ≤ 4 ∧ (0 : Int) ≤ 0 ∧ (0 : Int) + 4 ≤ l.length
  · rw [if_pos h]
    have := fixVal_lt ((l.drop (0 : Int).toNat).take (4 : Int).toNat)
    have h2 : ((l.drop (0 : Int).toNat).take (4 : Int).toNat).length ≤ 4 := List.length_take_le _ _
    have h3 : 2 ^ (8 * ((l.drop (0 : Int).toNat).take (4 : Int).toNat).length) ≤ 2 ^ 32 := Nat.pow_le_pow_right (by omega) (by omega)
    omega
  · rw [if_neg h]
    omega
def rdTime (l : List UInt8) : Int := 1000000000 - getFix (cut2 (cut2 l)).reverse 0 4
theorem rd_key {r c : List UInt8} {t : Int} (h : keyOk r c t = true) : cut1 (key r c t) = r ∧ cut1 (cut2 (key r c t)) = c ∧ rdTime (key r c t) = t := by
  obtain ⟨a1, a2, a3⟩ := keyOk_parts h
  have := time_bd a3
  unfold rdTime key
  rw [cut1_zero (name_zero a1), cut2_zero (name_zero a1), cut1_zero (name_zero a2), cut2_zero (name_zero a2), List.reverse_reverse, getFix_back _ (by omega)]
  exact ⟨rfl, rfl, by omega⟩
theorem read_impl_yes {l : List UInt8} (hne : l ≠ []) (h : keyOf (cut1 l) (cut1 (cut2 l)) (rdTime l) = l) : ReadIs l (cut1 l) (cut1 (cut2 l)) (rdTime l) := by
  have hk : keyOk (cut1 l) (cut1 (cut2 l)) (rdTime l) = true := keyOf_ok (by rw [h]; exact hne)
  exact .inl ⟨hk, by rw [keyOf_yes hk] at h; exact h.symm⟩
theorem read_impl_no {l : List UInt8} (h : l = [] ∨ keyOf (cut1 l) (cut1 (cut2 l)) (rdTime l) ≠ l) : ReadIs l [] [] (-1) := by
  refine .inr ⟨rfl, rfl, rfl, fun r c t hk hl => ?_⟩
  rcases h with h | h
  · exact key_ne r c t (by rw [← hl]; exact h)
  · obtain ⟨e1, e2, e3⟩ := rd_key hk
    apply h
    rw [hl, e1, e2, e3, keyOf_yes hk]

theorem read_spec_few {l : List UInt8} (h : l.length ≤ (cut1 l).length + 5) : ReadIs l [] [] (-1) := by
  refine .inr ⟨rfl, rfl, rfl, fun r c t hk hl => ?_⟩
  obtain ⟨e1, _, _⟩ := rd_key hk
  rw [← hl] at e1
  have := key_len r c t
  rw [← hl] at this
  rw [e1] at h
  omega
/-- The parts of a text of so many bytes ahead of the first byte 0. -/
def sp2 (l : List UInt8) (i : Nat) : List UInt8 := (l.drop (i + 1)).take (l.length - 5 - (i + 1))
def sp3 (l : List UInt8) : Int := 1000000000 - fixVal (l.drop (l.length - 4)).reverse
theorem read_spec_yes {l : List UInt8} (hne : l ≠ []) {r c : List UInt8} {t : Int} (h : keyOf r c t = l) : ReadIs l r c t := by
  have hk : keyOk r c t = true := keyOf_ok (by rw [h]; exact hne)
  exact .inl ⟨hk, by rw [keyOf_yes hk] at h; exact h.symm⟩
theorem read_spec_no {l : List UInt8} (h : keyOf (cut1 l) (sp2 l (cut1 l).length) (sp3 l) ≠ l) : ReadIs l [] [] (-1) := by
  refine .inr ⟨rfl, rfl, rfl, fun r c t hk hl => ?_⟩
  obtain ⟨e1, e2, e3⟩ := rd_key hk
  obtain ⟨a1, a2, a3⟩ := keyOk_parts hk
  have htb := time_bd a3
  have hlen := key_len r c t
  rw [← hl] at e1 hlen
  apply h
  have h2 : sp2 l r.length = c := by
    unfold sp2
    rw [hlen, hl]
    unfold key
    rw [List.drop_append, List.drop_eq_nil_of_le (by omega), show r.length + 1 - r.length = 1 by omega]
    simp only [List.nil_append, List.drop_succ_cons, List.drop_zero]
    rw [show r.length + c.length + 6 - 5 - (r.length + 1) = c.length by omega, List.take_append]
    simp
  have h3 : sp3 l = t := by
    unfold sp3
    have hd : l.drop (l.length - 4) = (fixB (1000000000 - t).toNat 4).reverse := by
      have e : key r c t = (r ++ 0 :: (c ++ [0])) ++ (fixB (1000000000 - t).toNat 4).reverse := by unfold key; simp
      rw [hlen, hl, e, List.drop_append, List.drop_eq_nil_of_le (by simp; omega)]
      have : r.length + c.length + 6 - 4 - (r ++ 0 :: (c ++ [0])).length = 0 := by simp; omega
      rw [this]
      simp
    rw [hd, List.reverse_reverse, fixVal_fix, Nat.mod_eq_of_lt (by omega)]
    omega
  rw [e1, h2, h3, keyOf_yes hk, hl]
/-- Four bytes, the highest one first. -/
theorem four_val (a b c d : UInt8) : fixVal [a, b, c, d].reverse = a.toNat * 16777216 + b.toNat * 65536 + c.toNat * 256 + d.toNat := by
  simp [fixVal]
  omega
end Go.Proofs.Ytejoiaijlaaekaa
