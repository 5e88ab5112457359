/- A text's bytes in a block of the call's own: written into, and read again. -/
import Derived.Test.YtjcgbpjgoacdjaaZ0
import Derived.Laws.IdiomStrings
namespace Go.Proofs.Ytjcgbpjgoacdjaa
open Go.RowKit
set_option linter.unusedVariables false

structure Buf (w0 w : World) (g : Nat) (xs : List UInt8) : Prop where
 block : ∃ (cs : Array Value) (n : Nat), w.heap[g]? = some (.cells cs 5 (n, n + 1)) ∧ xs.length ≤ n ∧ xs.length ≤ cs.size ∧ ∀ j, j < xs.length → cs[j]? = some (u8v (xs.getD j 0))
 own : w0.heap.size ≤ g
 below : Below w0.heap.size w0 w

theorem Buf.cell {w0 w : World} {g : Nat} {xs : List UInt8} (t : Buf w0 w g xs) (j : Nat) (hj : j < xs.length) : w.cell? ⟨g, j, none⟩ = some (u8v (xs.getD j 0)) := by
 obtain ⟨cs, n, hb, h1, h2, h3⟩ := t.block
 have := h3 j hj
 simp [World.cell?, hb, this]
theorem Buf.frozen {w0 w : World} {g : Nat} {xs : List UInt8} (t : Buf w0 w g xs) (j : Nat) (hj : j < xs.length) : w.frozen? ⟨g, j, none⟩ = false := by
 obtain ⟨cs, n, hb, h1, h2, h3⟩ := t.block
 simp [World.frozen?, hb]
 omega
theorem Buf.set {w0 w : World} {g : Nat} {xs : List UInt8} (t : Buf w0 w g xs) (k : Nat) (c : UInt8) {v : Value} (hv : v = u8v c) : Buf w0 (w.setCell ⟨g, k, none⟩ v) g (xs.set k c) := by
 subst hv
 obtain ⟨cs, n, hb, h1, h2, h3⟩ := t.block
 refine ⟨⟨cs.setIfInBounds k (u8v c), n, ?_, by simpa using h1, by simpa using h2, ?_⟩, t.own, t.below.trans ((Below.refl _ _).setCell t.own _)⟩
 · rw [set_block _ hb]
 · intro j hj
   rw [List.length_set] at hj
   rw [Array.getElem?_setIfInBounds]
   by_cases e : k = j
   · subst e
     rw [if_pos rfl, if_pos (by omega)]
     simp [hj]
   · rw [if_neg e, h3 j hj]
     simp [e]
theorem Buf.drewN {w0 w : World} {g : Nat} {xs : List UInt8} (t : Buf w0 w g xs) (n : Nat) : Buf w0 (w.drewN n) g xs := ⟨t.block, t.own, t.below.trans (below_draws n)⟩
theorem Buf.str {w0 w : World} {g c n : Nat} {xs : List UInt8} (t : Buf w0 w g xs) (hn : xs.length = n) :
   (convert 22 9 (.slice (some ⟨g, 0, none⟩) n c)).run Try.prog w = .ok (.string ⟨xs.toArray⟩) w := str_of_cells xs hn t.cell

theorem buf_new (w : World) (s : ByteArray) : ∃ cap W, (convert 9 22 (.string s)).run Try.prog w = .ok (.slice (some ⟨w.heap.size, 0, none⟩) s.size cap) W ∧ Buf w W w.heap.size s.data.toList ∧ s.size ≤ cap := by
 have hrun := run_bytes_of_string (P := Try.prog) w 9 22 5 s Try.underlying9 Try.underlying22 Try.underlying5
 have hcap : s.size ≤ grownCap w s.size 0 5 := grownCap_ge _ _ _ _
 refine ⟨_, _, hrun, ⟨⟨bytesRow s (grownCap w s.size 0 5), (bytesRow s (grownCap w s.size 0 5)).size, ?_, ?_, ?_, ?_⟩, Nat.le_refl _, ?_⟩, hcap⟩
 · show (w.heap.push _)[w.heap.size]? = _
   simp
 · simp [bytesRow]
 · simp [bytesRow]
 · intro j hj
   have hj' : j < s.size := by simpa using hj
   unfold bytesRow
   rw [Array.getElem?_append_left (by simpa using hj')]
   simp [u8v, hj']
 · exact ⟨rfl, rfl, rfl, by simp, fun k hk => by
     show (w.heap.push _)[k]? = _
     rw [Array.getElem?_push, if_neg (by omega)]⟩
end Go.Proofs.Ytjcgbpjgoacdjaa
