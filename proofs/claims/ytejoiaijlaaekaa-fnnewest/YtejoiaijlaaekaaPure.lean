/- Plain mathematics of texts: how many bytes two lists begin alike with, and which of two stands ahead. No condition. -/
import GoSem.Op.String
namespace Go.Proofs.Ytejoiaijlaaekaa

def shared : List UInt8 → List UInt8 → Nat
  | a :: as, b :: bs => if a = b then shared as bs + 1 else 0
  | _, _ => 0

theorem shared_le_left : ∀ a b : List UInt8, shared a b ≤ a.length
  | [], _ => by simp [shared]
  | a :: as, [] => by simp [shared]
  | a :: as, b :: bs => by
    have := shared_le_left as bs
    unfold shared
    split <;> simp <;> omega

theorem shared_le_right : ∀ a b : List UInt8, shared a b ≤ b.length
  | [], _ => by simp [shared]
  | a :: as, [] => by simp [shared]
  | a :: as, b :: bs => by
    have := shared_le_right as bs
    unfold shared
    split <;> simp <;> omega

/-- A count is 'shared' where all ahead of it is alike and there it ends or parts. -/
theorem shared_eq : ∀ (k : Nat) (a b : List UInt8), k ≤ a.length → k ≤ b.length → (∀ i, i < k → a[i]? = b[i]?) →
    (k = a.length ∨ k = b.length ∨ a[k]? ≠ b[k]?) → shared a b = k
  | 0, a, b, _, _, _, he => by
    match a, b with
    | [], _ => simp [shared]
    | _ :: _, [] => simp [shared]
    | x :: as, y :: bs =>
      simp at he
      simp [shared, he]
  | k + 1, a, b, ha, hb, hl, he => by
    match a, b with
    | [], _ => simp at ha
    | _ :: _, [] => simp at hb
    | x :: as, y :: bs =>
      have h0 := hl 0 (by omega)
      simp at h0
      subst h0
      have := shared_eq k as bs (by simpa using ha) (by simpa using hb) (fun i hi => by simpa using hl (i + 1) (by omega)) (by simpa using he)
      simp [shared, this]

/-- Which of two lists stands ahead, by how far they begin alike. -/
def ahead (a b : List UInt8) : Bool :=
  if shared a b < a.length ∧ shared a b < b.length then decide ((a.getD (shared a b) 0).toNat < (b.getD (shared a b) 0).toNat) else decide (a.length < b.length)

theorem ahead_def (a b : List UInt8) : ahead a b = if shared a b < a.length ∧ shared a b < b.length then decide ((a.getD (shared a b) 0).toNat < (b.getD (shared a b) 0).toNat) else decide (a.length < b.length) := rfl

theorem ahead_less : ∀ a b : List UInt8, Op.bytesLess a b = ahead a b
  | [], [] => by simp [Op.bytesLess, ahead]
  | a :: as, [] => by simp [Op.bytesLess, ahead]
  | [], b :: bs => by simp [Op.bytesLess, ahead]
  | a :: as, b :: bs => by
    have ih := ahead_less as bs
    unfold Op.bytesLess
    by_cases h : a = b
    · subst h
      rw [ih]
      unfold ahead
      have e : shared (a :: as) (a :: bs) = shared as bs + 1 := by simp [shared]
      rw [e]
      simp [UInt8.lt_irrefl]
    · have e : shared (a :: as) (b :: bs) = 0 := by simp [shared, h]
      simp [ahead, e, h, UInt8.lt_iff_toNat_lt]

theorem less_irrefl : ∀ a : List UInt8, Op.bytesLess a a = false
  | [] => by simp [Op.bytesLess]
  | a :: as => by simp [Op.bytesLess, less_irrefl as]

theorem less_asymm : ∀ a b : List UInt8, Op.bytesLess a b = true → Op.bytesLess b a = false
  | [], [], h => by simp [Op.bytesLess] at h
  | a :: as, [], h => by simp [Op.bytesLess] at h
  | [], b :: bs, _ => by simp [Op.bytesLess]
  | a :: as, b :: bs, h => by
    simp only [Op.bytesLess, Bool.or_eq_true, decide_eq_true_eq, Bool.and_eq_true, beq_iff_eq] at h
    simp only [Op.bytesLess, Bool.or_eq_false_iff, decide_eq_false_iff_not, Bool.and_eq_false_iff]
    rcases h with h | ⟨rfl, h⟩
    · rw [UInt8.lt_iff_toNat_lt] at h
      refine ⟨by rw [UInt8.lt_iff_toNat_lt]; omega, Or.inl ?_⟩
      simp only [beq_eq_false_iff_ne, ne_eq]
      rintro rfl
      omega
    · exact ⟨by rw [UInt8.lt_iff_toNat_lt]; omega, Or.inr (less_asymm as bs h)⟩

theorem less_total : ∀ a b : List UInt8, a ≠ b → Op.bytesLess a b = false → Op.bytesLess b a = true
  | [], [], h, _ => absurd rfl h
  | a :: as, [], _, _ => by simp [Op.bytesLess]
  | [], b :: bs, _, h => by simp [Op.bytesLess] at h
  | a :: as, b :: bs, hne, h => by
    simp only [Op.bytesLess, Bool.or_eq_false_iff, decide_eq_false_iff_not, Bool.and_eq_false_iff, beq_eq_false_iff_ne] at h
    simp only [Op.bytesLess, Bool.or_eq_true, decide_eq_true_eq, Bool.and_eq_true, beq_iff_eq]
    by_cases e : a = b
    · subst e
      refine Or.inr ⟨rfl, less_total as bs (fun e => hne (by rw [e])) ?_⟩
      rcases h.2 with h2 | h2
      · exact absurd rfl h2
      · exact h2
    · have h1 := h.1
      rw [UInt8.lt_iff_toNat_lt] at h1
      rw [UInt8.lt_iff_toNat_lt]
      have : a.toNat ≠ b.toNat := fun e2 => e (UInt8.toNat_inj.1 e2)
      exact Or.inl (by omega)

theorem less_more : ∀ (a : List UInt8) (x : UInt8) (xs : List UInt8), Op.bytesLess a (a ++ x :: xs) = true
  | [], x, xs => by simp [Op.bytesLess]
  | a :: as, x, xs => by simp [Op.bytesLess, less_more as x xs]

theorem ahead_more (a : List UInt8) (x : UInt8) : ahead a (a ++ [x]) = true ∧ ahead (a ++ [x]) a = false := by
  rw [← ahead_less, ← ahead_less]
  exact ⟨less_more a x [], less_asymm _ _ (less_more a x [])⟩

/-- Of two texts one is ahead, or they are one. -/
theorem ahead_three (a b : List UInt8) : (ahead a b = true ∧ ahead b a = false ∧ a ≠ b) ∨ (ahead a b = false ∧ ahead b a = true ∧ a ≠ b) ∨ (ahead a b = false ∧ ahead b a = false ∧ a = b) := by
  rw [← ahead_less, ← ahead_less]
  by_cases e : a = b
  · subst e; exact Or.inr (Or.inr ⟨less_irrefl a, less_irrefl a, rfl⟩)
  · cases h : Op.bytesLess a b
    · exact Or.inr (Or.inl ⟨rfl, less_total a b e h, e⟩)
    · exact Or.inl ⟨rfl, less_asymm a b h, e⟩

theorem shared_self : ∀ a : List UInt8, shared a a = a.length
  | [] => by simp [shared]
  | a :: as => by simp [shared, shared_self as]
theorem shared_comm : ∀ a b : List UInt8, shared a b = shared b a
  | [], [] => rfl
  | a :: as, [] => by simp [shared]
  | [], b :: bs => by simp [shared]
  | a :: as, b :: bs => by
    unfold shared
    by_cases e : a = b
    · subst e; simp [shared_comm as bs]
    · rw [if_neg e, if_neg (fun h => e h.symm)]
theorem shared_more : ∀ a b : List UInt8, shared (a ++ b) a = a.length
  | [], [] => rfl
  | [], b :: bs => by simp [shared]
  | a :: as, b => by simp [shared, shared_more as b]
theorem shared_take : ∀ a b : List UInt8, a.take (shared a b) = b.take (shared a b)
  | [], [] => rfl
  | a :: as, [] => by simp [shared]
  | [], b :: bs => by simp [shared]
  | a :: as, b :: bs => by
    unfold shared
    by_cases e : a = b
    · subst e; simp [shared_take as bs]
    · rw [if_neg e]; simp
theorem shared_part : ∀ a b : List UInt8, shared a b < a.length → shared a b < b.length → a.getD (shared a b) 0 ≠ b.getD (shared a b) 0
  | [], [], h, _ => by simp at h
  | a :: as, [], _, h => by simp at h
  | [], b :: bs, h, _ => by simp at h
  | a :: as, b :: bs, h1, h2 => by
    unfold shared at h1 h2 ⊢
    by_cases e : a = b
    · subst e
      simp only [if_true] at h1 h2 ⊢
      simpa using shared_part as bs (by simpa using h1) (by simpa using h2)
    · rw [if_neg e]; simpa using e

end Go.Proofs.Ytejoiaijlaaekaa
