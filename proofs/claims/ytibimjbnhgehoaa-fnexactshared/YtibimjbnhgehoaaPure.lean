/- Plain mathematics of texts: how many bytes two lists begin alike with. No condition. -/
namespace Go.Proofs.Ytibimjbnhgehoaa

def shared : List UInt8 → List UInt8 → Nat
  | a :: as, b :: bs => if a = b then shared as bs + 1 else 0
  | _, _ => 0

theorem shared_le_left : ∀ a b : List UInt8, shared a b ≤ a.length
  | [], _ => by simp [shared]
  | a :: as, [] => by simp [shared]
  | a :: as, b :: bs => by
    have := shared_le_left as bs
    unfold shared
    split <;> simp <;> omega

theorem shared_le_right : ∀ a b : List UInt8, shared a b ≤ b.length
  | [], _ => by simp [shared]
  | a :: as, [] => by simp [shared]
  | a :: as, b :: bs => by
    have := shared_le_right as bs
    unfold shared
    split <;> simp <;> omega

/-- A count is 'shared' where all ahead of it is alike and there it ends or parts. -/
theorem shared_eq : ∀ (k : Nat) (a b : List UInt8), k ≤ a.length → k ≤ b.length → (∀ i, i < k → a[i]? = b[i]?) →
    (k = a.length ∨ k = b.length ∨ a[k]? ≠ b[k]?) → shared a b = k
  | 0, a, b, _, _, _, he => by
    match a, b with
    | [], _ => simp [shared]
    | _ :: _, [] => simp [shared]
    | x :: as, y :: bs =>
      simp at he
      simp [shared, he]
  | k + 1, a, b, ha, hb, hl, he => by
    match a, b with
    | [], _ => simp at ha
    | _ :: _, [] => simp at hb
    | x :: as, y :: bs =>
      have h0 := hl 0 (by omega)
      simp at h0
      subst h0
      have := shared_eq k as bs (by simpa using ha) (by simpa using hb) (fun i hi => by simpa using hl (i + 1) (by omega)) (by simpa using he)
      simp [shared, this]

end Go.Proofs.Ytibimjbnhgehoaa
