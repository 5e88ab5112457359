/- Lists of texts that a call makes: rows of its own. -/
import Derived.Test.YtkomnnijnggbpaaProg
import Derived.Test.YtkomnnijnggbpaaPureA
import Derived.RangeFuncBox
namespace Go.Proofs.Ytkomnnijnggbpaa
open Go.RowKit
set_option linter.unusedVariables false

theorem infoStr : (Try.prog.info? 9).map (fun i => (i.zero, i.size, i.bytes)) = some (some (.string ⟨#[]⟩), 1, 16) := by kernel_rfl

theorem ownsRow_base {W : World} {b b' e size n : Nat} {v : Value} {xs : List Value} (h : W.ownsRow b e size v n xs) (hb : b' ≤ b) : W.ownsRow b' e size v n xs := by
  refine ⟨h.1, ?_⟩
  rcases h.2 with h2 | ⟨g, cap, cur, h1, h2, r⟩
  · exact .inl h2
  · exact .inr ⟨g, cap, cur, h1, by omega, r⟩

/-- A list of texts in a new row of its own. -/
def ToldStr (w : World) (xs : List ByteArray) (e : Ending) (W' : World) : Prop :=
  ∃ v, e = .returned v ∧ W'.ownsRow w.heap.size 9 1 v xs.length (xs.map Value.string) ∧ Below w.heap.size w W'

/-- A row lies on where its block lies on. -/
theorem row_below {W W' : World} {B b e size n : Nat} {v : Value} {xs : List Value} (h : W.ownsRow b e size v n xs) (hb : Below B W W') (hlt : ∀ k, v.ownBlock = some k → k < B) : W'.ownsRow b e size v n xs := by
  refine ⟨h.1, ?_⟩
  rcases h.2 with h2 | ⟨g, cap, cur, h1, h2, h3, r⟩
  · exact .inl h2
  · subst h1
    exact .inr ⟨g, cap, cur, rfl, h2, (hb.block g (hlt g rfl)).trans h3, r⟩

/-- A list of texts in the making, in a row of the call's own; all that lay ahead of the call as it lay. -/
structure RowAt (w0 w : World) (v : Value) (xs : List ByteArray) : Prop where
  row : w.ownsRow w0.heap.size 9 1 v xs.length (xs.map Value.string)
  below : Below w0.heap.size w0 w

theorem RowAt.push {w0 w w' : World} {v v' : Value} {xs : List ByteArray} (t : RowAt w0 w v xs) (o : Obj) (x : ByteArray)
    (hown : w'.ownsRow w0.heap.size 9 1 v' (xs.length + 1) (xs.map Value.string ++ [.string x])) (hg : (w.alloc o).grownBy w' v.ownBlock) :
    ∃ g c, v' = .slice (some ⟨g, 0, none⟩) (xs.length + 1) c ∧ RowAt w0 w' v' (xs ++ [x]) := by
  obtain ⟨g, c, rfl⟩ := ownsRow_succ hown
  refine ⟨g, c, rfl, by simpa using hown, ?_⟩
  exact (t.below.alloc t.below.size o).grown hg (by have := t.below.size; simp; omega) (fun k hk => (t.row.lt k hk).1)

theorem wp_pushS {w0 w : World} {v : Value} {xs : List ByteArray} (y : ByteArray) {ops : Array Oper} {rest : List Oper} {o : Oper} {act : Act} {Q : Exit → Act → World → Prop} (hgd : o.guard = none) (s x : Operand)
    (hop : o.op = .call { callee := .builtin .append, args := #[s, x], argTypes := #[58, 58] })
    (hs : act.eval s = v) (hx : act.eval x = .slice (some ⟨w.heap.size, 0, none⟩) 1 1) (t : RowAt w0 w v xs) (hl : xs.length < 1000000000)
    (hk : ∀ g c w', RowAt w0 w' (.slice (some ⟨g, 0, none⟩) (xs.length + 1) c) (xs ++ [y]) → wpList Try.prog ops Q rest (act.put o.dst (.slice (some ⟨g, 0, none⟩) (xs.length + 1) c)) w') :
    wpList Try.prog ops Q (o :: rest) act (w.alloc (.cells #[.string y] 9)) := by
  obtain ⟨ti, hti, hz0, hz1, hz2⟩ := info_parts infoStr
  refine wpList_append_own _ hgd s x 58 hop w0.heap.size 9 ti (.string ⟨#[]⟩) 1 16 Try.underlying58 hti hz0 hz1 hz2 rfl (by decide) _ xs.length (xs.map Value.string) hs (t.row.alloc _)
    ⟨w.heap.size, 0, none⟩ 1 1 [.string y] hx rfl (cell_one_new _ _ _) (fun u hu => by simp at hu; subst hu; rfl) (by unfold maxLen; omega) (by omega) (by have := t.below.size; simp; omega) ?_
  intro v' w' hown hg _
  obtain ⟨g, c, rfl, t'⟩ := t.push _ y hown hg
  exact hk g c w' t'

theorem row_made (w : World) : RowAt w (w.alloc (.cells #[] 9)) (.slice (some ⟨w.heap.size, 0, none⟩) 0 0) [] :=
  ⟨World.ownsRow_made w #[] 0 (Nat.le_refl _) (by unfold maxLen; omega) (by simp), (Below.refl _ w).alloc (Nat.le_refl _) _⟩
end Go.Proofs.Ytkomnnijnggbpaa
