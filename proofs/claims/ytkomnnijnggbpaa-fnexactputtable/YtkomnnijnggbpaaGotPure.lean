/- What a block is read as: there is one answer, of fifty right cells at most. -/
import Derived.Test.YtkomnnijnggbpaaRdPure
import Derived.Test.YtkomnnijnggbpaaCellA
namespace Go.Proofs.Ytkomnnijnggbpaa
open Go.RowKit
set_option linter.unusedVariables false

theorem got_some (s : List UInt8) (every : Int) : ∃ r ok, Got s every r ok := by
  by_cases h : ∃ xs, putBlock xs every = s ∧ s ≠ []
  · obtain ⟨xs, h1, h2⟩ := h
    exact ⟨xs, true, .inl ⟨rfl, h1, h2⟩⟩
  · refine ⟨[], false, .inr ⟨rfl, rfl, fun xs hx => ?_⟩⟩
    by_cases hs : s = []
    · exact hs
    · exact absurd ⟨xs, hx, hs⟩ h
theorem got_few {s : List UInt8} {every : Int} {r : List Cel} {ok : Bool} (h : Got s every r ok) : r.length ≤ 50 ∧ cellsOk r = true := by
  rcases h with ⟨rfl, h1, h2⟩ | ⟨rfl, rfl, h1⟩
  · obtain ⟨e, _, _, _, h50, hok, _⟩ := block_ok (xs := r) (every := every) (by rw [h1]; exact h2)
    exact ⟨h50, hok⟩
  · exact ⟨by simp, rfl⟩
theorem ok_small {x : Cel} (h : cellOk x = true) : x.row.size ≤ 16 ∧ x.col.size ≤ 16 ∧ x.value.size ≤ 30 := by
  unfold cellOk at h
  simp only [Bool.and_eq_true, decide_eq_true_eq] at h
  obtain ⟨⟨⟨⟨h1, h2⟩, h3⟩, h4⟩, h5⟩ := h
  have e1 : x.row.data.toList.length = x.row.size := by simp
  have e2 : x.col.data.toList.length = x.col.size := by simp
  have := (name_parts h1).2.2
  have := (name_parts h2).2.2
  omega
theorem fit_ok {xs : List Cel} (h : cellsOk xs = true) : Fit xs := fun y hy => by
  have := ok_small (all_ok h y hy)
  unfold maxLen
  omega
theorem got_fit {s : List UInt8} {every : Int} {r : List Cel} {ok : Bool} (h : Got s every r ok) : Fit r := fit_ok (got_few h).2
end Go.Proofs.Ytkomnnijnggbpaa
