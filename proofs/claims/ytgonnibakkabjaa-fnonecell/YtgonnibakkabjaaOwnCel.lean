/- A list of cells in a row of its own; cells put behind it. -/
import Derived.Test.YtgonnibakkabjaaCellA
import Derived.Test.YtgonnibakkabjaaDraws
import Derived.Laws.AppendOwn
import Derived.RangeFuncBox
namespace Go.Proofs.Ytgonnibakkabjaa
open Go.RowKit
set_option linter.unusedVariables false

/-- A list of cells in a row of its own. -/
def OwnC (B : Nat) (w : World) (v : Value) (ys : List Cel) : Prop := w.ownsRow B 38 5 v ys.length (ys.flatMap celCells)
theorem OwnC.row {B : Nat} {w : World} {a : Option Addr} {n c : Nat} {ys : List Cel} (h : OwnC B w (.slice a n c) ys) : CelRow w a n c ys := by
  rcases h.2 with ⟨h0, hn⟩ | ⟨g, cap, cur, h1, _, h3, hc, _, hs, ht⟩
  · cases h0
    refine ⟨hn, Nat.le_refl _, fun k y hk => ?_⟩
    have := (List.getElem?_eq_some_iff.1 hk).1
    omega
  · cases h1
    refine ⟨rfl, hc, fun k y hk => ⟨g, rfl, ?_⟩⟩
    have hk' := (List.getElem?_eq_some_iff.1 hk).1
    have hj : ∀ j, j < 5 → w.cell? ⟨g, k * 5 + j, none⟩ = (celCells y)[j]? := fun j hj => by
      have h1 := cel_cell ys k j y hk hj
      rw [← ht, List.getElem?_take, if_pos (by omega)] at h1
      simp only [World.cell?, h3]
      simpa using h1
    exact ⟨hj 0 (by omega), hj 1 (by omega), hj 2 (by omega), hj 3 (by omega), hj 4 (by omega)⟩
theorem OwnC.grown {B p : Nat} {w w' : World} {v : Value} {ys : List Cel} (h : OwnC B w v ys) (hg : w.grownBy w' (some p)) (hp : p < B) : OwnC B w' v ys := by
  refine World.ownsRow.kept h hg ?_
  cases hv : v.ownBlock with
  | none => exact .inl rfl
  | some k =>
    refine .inr (fun e => ?_)
    have := (h.lt k hv).1
    cases e
    omega
theorem OwnC.below {B : Nat} {w w' : World} {v : Value} {ys : List Cel} (h : OwnC B w v ys) (hb : Below w.heap.size w w') : OwnC B w' v ys := by
  refine World.ownsRow.kept h (grown_of_below hb) ?_
  cases hv : v.ownBlock <;> simp
theorem OwnC.new {B : Nat} {w : World} {v : Value} {ys : List Cel} (h : OwnC B w v ys) (o : Obj) : OwnC B (w.alloc o) v ys := World.ownsRow.alloc h o
theorem OwnC.lt {B : Nat} {w : World} {v : Value} {ys : List Cel} (h : OwnC B w v ys) {k : Nat} (hk : v.ownBlock = some k) : B ≤ k ∧ k < w.heap.size := World.ownsRow.lt h k hk
theorem own_base {B B' : Nat} {w : World} {v : Value} {ys : List Cel} (h : OwnC B w v ys) (hb : B' ≤ B) : OwnC B' w v ys := by
  refine ⟨h.1, ?_⟩
  rcases h.2 with h2 | ⟨g, cap, cur, h1, h2, r⟩
  · exact .inl h2
  · exact .inr ⟨g, cap, cur, h1, Nat.le_trans hb h2, r⟩
theorem celCells_one (ys : List Cel) : ∀ u ∈ ys.flatMap celCells, u.oneCell' = true := by
  intro u hu
  obtain ⟨y, _, hy⟩ := List.mem_flatMap.1 hu
  simp only [celCells, List.mem_cons, List.not_mem_nil, or_false] at hy
  rcases hy with rfl | rfl | rfl | rfl | rfl <;> rfl

/-- Cells put behind a row. -/
theorem op_pushC {B : Nat} {w : World} {v : Value} {xs : List Cel} (ys : List Cel) {ad : Addr} {c : Nat} {o : Oper} {act : Act} {K : Act → World → Prop} {Q : Exit → Act → World → Prop} (s x : Operand)
    (hop : o.op = .call { callee := .builtin .append, args := #[s, x], argTypes := #[24, 24] })
    (hs : act.eval s = v) {m : Nat} (hx : act.eval x = .slice (some ad) m c) (hm : ys.length = m) (hb : ∀ j u, (ys.flatMap celCells)[j]? = some u → w.cell? (ad.add j) = some u) (h : OwnC B w v xs) (hB : B ≤ w.heap.size) (hl : xs.length + ys.length < 1000)
    (hk : ∀ v' w', OwnC B w' v' (xs ++ ys) → w.grownBy w' v.ownBlock → K (act.put o.dst v') w') : o.wp Try.prog act w K Q := by
  subst hm
  obtain ⟨ti, hti, hz0, hz1, hz2⟩ := info_parts infoCel
  refine wp_append_own _ s x 24 hop B 38 ti (.agg #[.string ⟨#[]⟩, .string ⟨#[]⟩, .int .i64 0, .bool false, .string ⟨#[]⟩]) 5 64 Try.underlying24 hti hz0 hz1 hz2 rfl (by decide) v xs.length (xs.flatMap celCells) hs h
    ad ys.length c (ys.flatMap celCells) hx (celCells_len ys) hb (celCells_one ys) (by unfold maxLen; omega) (by omega) hB ?_
  intro v' w' hown hg _
  refine hk v' w' ?_ hg
  unfold OwnC
  rw [List.length_append, List.flatMap_append]
  exact hown
end Go.Proofs.Ytgonnibakkabjaa
