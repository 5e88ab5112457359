/- How long a block is. -/
import Derived.Test.YtgonnibakkabjaaBlockMore
import Derived.Test.YtgonnibakkabjaaGotPure
namespace Go.Proofs.Ytgonnibakkabjaa
open Go.RowKit
set_option linter.unusedVariables false

theorem entries_most (e : Nat) : ∀ (xs : List Cel) (i : Nat) (last : List UInt8), (∀ x ∈ xs, cellOk x = true) → (entries e i last xs).length ≤ 71 * xs.length
  | [], _, _, _ => by simp [entries]
  | x :: r, i, last, h => by
    have h1 := entry_len (e := e) (i := i) (last := last) (h x (by simp))
    have h2 := entries_most e r (i + 1) (celKey x) (fun y hy => h y (by simp [hy]))
    rw [entries, List.length_append, List.length_cons]
    omega
theorem put_most (xs : List Cel) (every : Int) : (putBlock xs every).length ≤ 73 * xs.length + 2 := by
  by_cases h : putBlock xs every = []
  · rw [h]; simp
  · obtain ⟨e, _, _, _, _, hok, hb⟩ := block_ok h
    obtain ⟨s1, s2⟩ := starts_len e xs 0 0 []
    have h3 := entries_most e xs 0 [] (all_ok hok)
    have hL : (block xs e).length = (entries e 0 [] xs).length + (startsB e 0 0 [] xs).length + 2 := by
      have : block xs e = (entries e 0 [] xs ++ startsB e 0 0 [] xs) ++ fixB ((startsB e 0 0 [] xs).length / 2) 2 := by unfold block; simp
      rw [this, List.length_append, List.length_append, fix_length]
    rw [hb, hL]
    omega

/-- How many starts a block has. -/
theorem starts_many (e : Nat) (h1 : 1 ≤ e) (h16 : e ≤ 16) : ∀ (xs : List Cel) (i pos : Nat) (last : List UInt8), (startsB e i pos last xs).length + 2 * ((i + e - 1) / e) = 2 * ((i + xs.length + e - 1) / e)
  | [], i, pos, last => by simp [startsB]
  | x :: r, i, pos, last => by
    have ih := starts_many e h1 h16 r (i + 1) (pos + (entry e i last x).length) (celKey x)
    have hs : (startsB e i pos last (x :: r)).length = (if i % e = 0 then 2 else 0) + (startsB e (i + 1) (pos + (entry e i last x).length) (celKey x) r).length := by
      rw [startsB, List.length_append]
      congr 1
      split
      · rw [fix_length]
      · rfl
    rw [hs, List.length_cons]
    generalize (startsB e (i + 1) (pos + (entry e i last x).length) (celKey x) r).length = L at ih ⊢
    have he : e = 1 ∨ e = 2 ∨ e = 3 ∨ e = 4 ∨ e = 5 ∨ e = 6 ∨ e = 7 ∨ e = 8 ∨ e = 9 ∨ e = 10 ∨ e = 11 ∨ e = 12 ∨ e = 13 ∨ e = 14 ∨ e = 15 ∨ e = 16 := by omega
    rcases he with rfl | rfl | rfl | rfl | rfl | rfl | rfl | rfl | rfl | rfl | rfl | rfl | rfl | rfl | rfl | rfl <;> split <;> omega
end Go.Proofs.Ytgonnibakkabjaa
