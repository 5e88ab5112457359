/- Contract of the model's Expand. -/
import Derived.Test.YtkomnnijnggbpaaZ0
import Derived.Test.YtkomnnijnggbpaaSpecCompress
import Derived.BigQuiet
namespace Go.Proofs.Ytkomnnijnggbpaa
open Go.RowKit
set_option linter.unusedVariables false

def ExpOut (w : World) (l : List UInt8) (e : Ending) (w' : World) : Prop := e = .returned (.tuple #[.string ⟨(expand1 l).toArray⟩, .bool (expand2 l)]) ∧ Below w.heap.size w w'

theorem ret_exp {a b : ByteArray} {c d : Bool} (h1 : a = b) (h2 : c = d) : Ending.returned (.tuple #[.string a, .bool c]) = .returned (.tuple #[.string b, .bool d]) := by rw [h1, h2]
theorem BRow.form {w0 w : World} {v : Value} {xs : List UInt8} (t : BRow w0 w v xs) : ∃ (a : Option Addr) (c : Nat), v = .slice a xs.length c ∧ ∀ j, j < xs.length → ∃ g, a = some ⟨g, 0, none⟩ ∧ xs.length ≤ c ∧ w.cell? ⟨g, j, none⟩ = some (u8v (xs.getD j 0)) := by
 rcases t.row.2 with ⟨h0, hn⟩ | ⟨g, cap, cur, h1, _, _, hc, _⟩
 · exact ⟨none, 0, by rw [hn]; exact h0, fun j hj => by omega⟩
 · subst h1
   exact ⟨_, cap, rfl, fun j hj => ⟨g, rfl, hc, t.cell j hj⟩⟩

theorem BRow.later {w0 w w' : World} {v : Value} {xs : List UInt8} (t : BRow w0 w v xs) (hb : Below w.heap.size w w') : BRow w0 w' v xs := by
 refine ⟨?_, t.below.trans (hb.mono t.below.size)⟩
 refine ⟨t.row.1, ?_⟩
 rcases t.row.2 with h2 | ⟨g, cap, cur, h1, h2, h3, r⟩
 · exact .inl h2
 · exact .inr ⟨g, cap, cur, h1, h2, (hb.block g ((Array.getElem?_eq_some_iff.1 h3).1)).trans h3, r⟩
theorem ne_false (A : ByteArray) : (!A.toList == A.toList) = false := by simp
theorem ne_true {A B : ByteArray} (h : A.data.toList ≠ B.data.toList) : (!A.toList == B.toList) = true := by rw [ByteArray.toList_eq, ByteArray.toList_eq]; simpa using h
end Go.Proofs.Ytkomnnijnggbpaa
