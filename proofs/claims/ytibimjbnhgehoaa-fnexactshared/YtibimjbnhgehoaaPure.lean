/- Plain mathematics of texts: how many bytes two lists begin alike with, and which of two stands ahead. No condition. -/
import GoSem.Op.String
namespace Go.Proofs.Ytibimjbnhgehoaa

def shared : List UInt8 → List UInt8 → Nat
  | a :: as, b :: bs => if a = b then shared as bs + 1 else 0
  | _, _ => 0

theorem shared_le_left : ∀ a b : List UInt8, shared a b ≤ a.length
  | [], _ => by simp [shared]
  | a :: as, [] => by simp [shared]
  | a :: as, b :: bs => by
    have := shared_le_left as bs
    unfold shared
    split <;> simp <;> omega

theorem shared_le_right : ∀ a b : List UInt8, shared a b ≤ b.length
  | [], _ => by simp [shared]
  | a :: as, [] => by simp [shared]
  | a :: as, b :: bs => by
    have := shared_le_right as bs
    unfold shared
    split <;> simp <;> omega

/-- A count is 'shared' where all ahead of it is alike and there it ends or parts. -/
theorem shared_eq : ∀ (k : Nat) (a b : List UInt8), k ≤ a.length → k ≤ b.length → (∀ i, i < k → a[i]? = b[i]?) →
    (k = a.length ∨ k = b.length ∨ a[k]? ≠ b[k]?) → shared a b = k
  | 0, a, b, _, _, _, he => by
    match a, b with
    | [], _ => simp [shared]
    | _ :: _, [] => simp [shared]
    | x :: as, y :: bs =>
      simp at he
      simp [shared, he]
  | k + 1, a, b, ha, hb, hl, he => by
    match a, b with
    | [], _ => simp at ha
    | _ :: _, [] => simp at hb
    | x :: as, y :: bs =>
      have h0 := hl 0 (by omega)
      simp at h0
      subst h0
      have := shared_eq k as bs (by simpa using ha) (by simpa using hb) (fun i hi => by simpa using hl (i + 1) (by omega)) (by simpa using he)
      simp [shared, this]

/-- Which of two lists stands ahead, by how far they begin alike. -/
def ahead (a b : List UInt8) : Bool :=
  if shared a b < a.length ∧ shared a b < b.length then decide ((a.getD (shared a b) 0).toNat < (b.getD (shared a b) 0).toNat) else decide (a.length < b.length)

theorem ahead_def (a b : List UInt8) : ahead a b = if shared a b < a.length ∧ shared a b < b.length then decide ((a.getD (shared a b) 0).toNat < (b.getD (shared a b) 0).toNat) else decide (a.length < b.length) := rfl

theorem ahead_less : ∀ a b : List UInt8, Op.bytesLess a b = ahead a b
  | [], [] => by simp [Op.bytesLess, ahead]
  | a :: as, [] => by simp [Op.bytesLess, ahead]
  | [], b :: bs => by simp [Op.bytesLess, ahead]
  | a :: as, b :: bs => by
    have ih := ahead_less as bs
    unfold Op.bytesLess
    by_cases h : a = b
    · subst h
      rw [ih]
      unfold ahead
      have e : shared (a :: as) (a :: bs) = shared as bs + 1 := by simp [shared]
      rw [e]
      simp [UInt8.lt_irrefl]
    · have e : shared (a :: as) (b :: bs) = 0 := by simp [shared, h]
      simp [ahead, e, h, UInt8.lt_iff_toNat_lt]

end Go.Proofs.Ytibimjbnhgehoaa
