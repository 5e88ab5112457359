/- Lists of texts that can be read. -/
import Derived.Test.YtkomnnijnggbpaaRows1
import Derived.Test.YtkomnnijnggbpaaPureA
namespace Go.Proofs.Ytkomnnijnggbpaa
open Go.RowKit
set_option linter.unusedVariables false

/-- A list of texts that can be read. -/
def StrAt (w : World) (a : Option Addr) (n c : Nat) (xs : List ByteArray) : Prop := xs.length = n ∧ n ≤ c ∧ ∀ (k : Nat) (x : ByteArray), xs[k]? = some x → ∃ g, a = some ⟨g, 0, none⟩ ∧ w.cell? ⟨g, k, none⟩ = some (.string x)
theorem StrAt.below {w w' : World} {a : Option Addr} {n c : Nat} {xs : List ByteArray} (h : StrAt w a n c xs) (hb : Below w.heap.size w w') : StrAt w' a n c xs :=
  ⟨h.1, h.2.1, fun k x hk => by obtain ⟨g, e, hc⟩ := h.2.2 k x hk; exact ⟨g, e, (hb.cell (p := ⟨g, k, none⟩) (cell_lt hc)).trans hc⟩⟩
theorem str_row {B : Nat} {w : World} {a : Option Addr} {n c : Nat} {xs : List ByteArray} (h : w.ownsRow B 9 1 (.slice a n c) xs.length (xs.map Value.string)) : StrAt w a n c xs := by
  rcases h.2 with ⟨h0, hn⟩ | ⟨g, cap, cur, h1, _, hc, hn, _, hs, ht⟩
  · cases h0
    refine ⟨hn, Nat.le_refl _, fun k x hk => ?_⟩
    have := (List.getElem?_eq_some_iff.1 hk).1
    omega
  · cases h1
    refine ⟨rfl, hn, fun k x hk => ⟨g, rfl, ?_⟩⟩
    have hk' := (List.getElem?_eq_some_iff.1 hk).1
    have h2 : w.cell? ⟨g, k, none⟩ = cur[k]? := by simp [World.cell?, hc]
    have h3 : (xs.map Value.string)[k]? = some (.string x) := by rw [List.getElem?_map, hk]; rfl
    rw [← ht, List.getElem?_take, if_pos (by omega)] at h3
    rw [h2, ← Array.getElem?_toList]
    exact h3
theorem str_form {B : Nat} {w : World} {v : Value} {xs : List ByteArray} (h : w.ownsRow B 9 1 v xs.length (xs.map Value.string)) : ∃ ad cap, v = .slice ad xs.length cap := by
  rcases h.2 with ⟨h0, hn⟩ | ⟨g, cap, cur, h1, _⟩
  · exact ⟨none, 0, by rw [h0, hn]⟩
  · exact ⟨_, _, h1⟩
/-- Texts that are no longer than texts may be. -/
def FitS (xs : List ByteArray) : Prop := ∀ x ∈ xs, x.size ≤ maxLen
def lists (xs : List ByteArray) : List (List UInt8) := xs.map (fun x => x.data.toList)
theorem lists_len (xs : List ByteArray) : (lists xs).length = xs.length := by unfold lists; simp
theorem lists_at {xs : List ByteArray} {k : Nat} {x : ByteArray} (h : xs[k]? = some x) : (lists xs)[k]? = some x.data.toList := by unfold lists; rw [List.getElem?_map, h]; rfl
theorem take_next {α : Type} {l : List α} {k : Nat} {x : α} (h : l[k]? = some x) : l.take (k + 1) = l.take k ++ [x] := by
  obtain ⟨hi, rfl⟩ := List.getElem?_eq_some_iff.1 h
  rw [List.take_succ_eq_append_getElem hi]
end Go.Proofs.Ytkomnnijnggbpaa
