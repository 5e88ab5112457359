/- Lists of tokens that a call makes: rows of its own. -/
import Derived.Test.YtkomnnijnggbpaaProg
import Derived.Test.YtkomnnijnggbpaaPureA
import Derived.RangeFuncBox
namespace Go.Proofs.Ytkomnnijnggbpaa
open Go.RowKit
set_option linter.unusedVariables false

theorem infoTok : (Try.prog.info? 103).map (fun i => (i.zero, i.size, i.bytes)) = some (some (.agg #[.string ⟨#[]⟩, .int .i64 0, .int .i64 0]), 3, 32) := by kernel_rfl

/-- A token's cells. -/
def tokCells (t : Tok) : List Value := [.string ⟨t.text.toArray⟩, .int .i64 t.len, .int .i64 t.far]
theorem tokCells_len (xs : List Tok) : (xs.flatMap tokCells).length = xs.length * 3 := by
  induction xs with
  | nil => rfl
  | cons t xs ih => rw [List.flatMap_cons, List.length_append, ih, List.length_cons]; simp [tokCells]; omega

/-- Tokens in the making, in a row of the call's own; all that lay ahead of the call as it lay. -/
structure TRow (w0 w : World) (v : Value) (xs : List Tok) : Prop where
  row : w.ownsRow w0.heap.size 103 3 v xs.length (xs.flatMap tokCells)
  below : Below w0.heap.size w0 w

theorem TRow.push {w0 w w' : World} {v v' : Value} {xs : List Tok} (t : TRow w0 w v xs) (o : Obj) (x : Tok)
    (hown : w'.ownsRow w0.heap.size 103 3 v' (xs.length + 1) (xs.flatMap tokCells ++ tokCells x)) (hg : (w.alloc o).grownBy w' v.ownBlock) :
    ∃ g c, v' = .slice (some ⟨g, 0, none⟩) (xs.length + 1) c ∧ TRow w0 w' v' (xs ++ [x]) := by
  obtain ⟨g, c, rfl⟩ := ownsRow_succ hown
  refine ⟨g, c, rfl, by simpa using hown, ?_⟩
  exact (t.below.alloc t.below.size o).grown hg (by have := t.below.size; simp; omega) (fun k hk => (t.row.lt k hk).1)

theorem wp_pushT {w0 w : World} {v : Value} {xs : List Tok} (y : Tok) {S : ByteArray} {A B : Int} (hS : S.data.toList = y.text) (hA : A = y.len) (hB : B = y.far) {ops : Array Oper} {rest : List Oper} {o : Oper} {act : Act} {Q : Exit → Act → World → Prop} (hgd : o.guard = none) (s x : Operand)
    (hop : o.op = .call { callee := .builtin .append, args := #[s, x], argTypes := #[100, 100] })
    (hs : act.eval s = v) {ad : Nat} (hx : act.eval x = .slice (some ⟨ad, 0, none⟩) 1 1) (had : ad = w.heap.size) (t : TRow w0 w v xs) (hl : xs.length < 1000000)
    (hk : ∀ g c w', TRow w0 w' (.slice (some ⟨g, 0, none⟩) (xs.length + 1) c) (xs ++ [y]) → (w.alloc (.cells #[.string S, .int .i64 A, .int .i64 B] 103)).grownBy w' v.ownBlock → wpList Try.prog ops Q rest (act.put o.dst (.slice (some ⟨g, 0, none⟩) (xs.length + 1) c)) w') :
    wpList Try.prog ops Q (o :: rest) act (w.alloc (.cells #[.string S, .int .i64 A, .int .i64 B] 103)) := by
  subst hA hB had
  have hS' : S = ⟨y.text.toArray⟩ := bytes_ext (by rw [hS])
  subst hS'
  obtain ⟨ti, hti, hz0, hz1, hz2⟩ := info_parts infoTok
  refine wpList_append_own _ hgd s x 100 hop w0.heap.size 103 ti (.agg #[.string ⟨#[]⟩, .int .i64 0, .int .i64 0]) 3 32 Try.underlying100 hti hz0 hz1 hz2 rfl (by decide) _ xs.length (xs.flatMap tokCells) hs (t.row.alloc _)
    ⟨w.heap.size, 0, none⟩ 1 1 (tokCells y) hx rfl ?_ (fun u hu => by simp [tokCells] at hu; rcases hu with rfl | rfl | rfl <;> rfl) (by unfold maxLen; omega) (by omega) (by have := t.below.size; simp; omega) ?_
  · intro j u hj
    have hadd : (⟨w.heap.size, 0, none⟩ : Addr).add j = ⟨w.heap.size, j, none⟩ := by unfold Addr.add; split <;> simp_all
    rw [hadd]
    have hb : (w.alloc (.cells #[.string ⟨y.text.toArray⟩, .int .i64 y.len, .int .i64 y.far] 103)).heap[w.heap.size]? = some (.cells #[.string ⟨y.text.toArray⟩, .int .i64 y.len, .int .i64 y.far] 103 (0, 0)) := by
      show (w.heap.push _)[w.heap.size]? = _
      simp
    simp only [World.cell?, hb]
    simpa [tokCells] using hj
  · intro v' w' hown hg _
    obtain ⟨g, c, rfl, t'⟩ := t.push _ y hown hg
    exact hk g c w' t' hg

theorem trow_made (w : World) : TRow w (w.alloc (.cells #[] 103)) (.slice (some ⟨w.heap.size, 0, none⟩) 0 0) [] :=
  ⟨World.ownsRow_made w #[] 0 (Nat.le_refl _) (by unfold maxLen; omega) (by simp), (Below.refl _ w).alloc (Nat.le_refl _) _⟩
theorem trow_nil (w : World) : TRow w w (.slice none 0 0) [] := ⟨World.ownsRow_nil _ _ _ _, Below.refl _ _⟩
theorem TRow.old {w0 w : World} {v : Value} {xs : List Tok} (t : TRow w0 w v xs) : ∀ k, v.ownBlock = some k → k < w.heap.size := fun k hk => (t.row.lt k hk).2
/-- A block that isn't the row's is kept by what is put behind. -/
theorem kept_cell {W W' : World} {row : Option Nat} (hg : W.grownBy W' row) {b : Nat} (hb : b < W.heap.size) (hne : some b ≠ row) (j : Nat) : W'.cell? ⟨b, j, none⟩ = W.cell? ⟨b, j, none⟩ := World.cell?_of_block (w := W) (hg.block b hb hne)
/-- What is made behind a row leaves it. -/
theorem TRow.later {w0 w w' : World} {v : Value} {xs : List Tok} (t : TRow w0 w v xs) (hb : Below w.heap.size w w') : TRow w0 w' v xs := by
  refine ⟨?_, t.below.trans (hb.mono t.below.size)⟩
  refine ⟨t.row.1, ?_⟩
  rcases t.row.2 with h2 | ⟨g, cap, cur, h1, h2, h3, r⟩
  · exact .inl h2
  · exact .inr ⟨g, cap, cur, h1, h2, (hb.block g ((Array.getElem?_eq_some_iff.1 h3).1)).trans h3, r⟩
theorem tok_cell (xs : List Tok) : ∀ (k j : Nat) (y : Tok), xs[k]? = some y → j < 3 → (xs.flatMap tokCells)[k * 3 + j]? = (tokCells y)[j]? := by
  induction xs with
  | nil => intro k j y h; simp at h
  | cons a l ih =>
    intro k j y h hj
    rw [List.flatMap_cons]
    cases k with
    | zero =>
      simp at h
      subst h
      rw [Nat.zero_mul, Nat.zero_add, List.getElem?_append_left (by simp [tokCells]; omega)]
    | succ k =>
      have ha : (tokCells a).length = 3 := rfl
      rw [List.getElem?_append_right (by rw [ha]; omega), ha, show (k + 1) * 3 + j - 3 = k * 3 + j by omega]
      exact ih k j y (by simpa using h) hj
/-- The cells of a token in a list. -/
theorem list_cells {w : World} {gl : Nat} {cur : Array Value} {xs : List Tok} (hb : w.heap[gl]? = some (.cells cur 103 (0, 0))) (hc : cur.toList.take (xs.length * 3) = xs.flatMap tokCells) (k : Nat) (y : Tok) (hk : xs[k]? = some y) :
    w.cell? ⟨gl, k * 3, none⟩ = some (.string ⟨y.text.toArray⟩) ∧ w.cell? ⟨gl, k * 3 + 1, none⟩ = some (.int .i64 y.len) ∧ w.cell? ⟨gl, k * 3 + 2, none⟩ = some (.int .i64 y.far) := by
  have hkl := (List.getElem?_eq_some_iff.1 hk).1
  have h : ∀ j, j < 3 → w.cell? ⟨gl, k * 3 + j, none⟩ = (tokCells y)[j]? := fun j hj => by
    have h1 := tok_cell xs k j y hk hj
    rw [← hc, List.getElem?_take, if_pos (by omega)] at h1
    simp only [World.cell?, hb]
    simpa using h1
  exact ⟨h 0 (by omega), h 1 (by omega), h 2 (by omega)⟩
end Go.Proofs.Ytkomnnijnggbpaa
