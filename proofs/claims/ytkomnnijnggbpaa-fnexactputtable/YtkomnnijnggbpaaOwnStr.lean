/- Lists of texts in rows of their own, and texts put behind them. -/
import Derived.Test.YtkomnnijnggbpaaStrRow
import Derived.Test.YtkomnnijnggbpaaPureA
import Derived.Laws.AppendOwn
namespace Go.Proofs.Ytkomnnijnggbpaa
open Go.RowKit
set_option linter.unusedVariables false

def OwnS (B : Nat) (w : World) (v : Value) (xs : List ByteArray) : Prop := w.ownsRow B 9 1 v xs.length (xs.map Value.string)
section
variable {B : Nat} {w w' : World} {v : Value} {xs : List ByteArray}
theorem OwnS.form (h : OwnS B w v xs) : ∃ ad cap, v = .slice ad xs.length cap := str_form h
theorem OwnS.row {a : Option Addr} {n c : Nat} (h : OwnS B w (.slice a n c) xs) : StrAt w a n c xs := by
  obtain ⟨ad, cap, e⟩ := h.form
  cases e
  exact str_row h
theorem OwnS.below (h : OwnS B w v xs) (hb : Below w.heap.size w w') : OwnS B w' v xs := by
  refine World.ownsRow.kept h (grown_of_below hb) ?_
  cases hv : v.ownBlock <;> simp
theorem OwnS.new (h : OwnS B w v xs) (o : Obj) : OwnS B (w.alloc o) v xs := World.ownsRow.alloc h o
theorem OwnS.lt (h : OwnS B w v xs) {k : Nat} (hk : v.ownBlock = some k) : B ≤ k ∧ k < w.heap.size := World.ownsRow.lt h k hk
theorem owns_made (w : World) : OwnS w.heap.size (w.alloc (.cells #[] 9)) (.slice (some ⟨w.heap.size, 0, none⟩) 0 0) [] := World.ownsRow_made w #[] 0 (Nat.le_refl _) (by unfold maxLen; omega) (by simp)
theorem owns_base {B' : Nat} (h : OwnS B w v xs) (hb : B' ≤ B) : OwnS B' w v xs := by
  refine ⟨h.1, ?_⟩
  rcases h.2 with h2 | ⟨g, cap, cur, h1, h2, r⟩
  · exact .inl h2
  · exact .inr ⟨g, cap, cur, h1, Nat.le_trans hb h2, r⟩
theorem OwnS.grown {p : Nat} (h : OwnS B w v xs) (hg : w.grownBy w' (some p)) (hp : p < B) : OwnS B w' v xs := by
  refine World.ownsRow.kept h hg ?_
  cases hv : v.ownBlock with
  | none => exact .inl rfl
  | some k =>
    refine .inr (fun e => ?_)
    have := (h.lt hv).1
    cases e
    omega
end
/-- Texts put behind a row. -/
theorem op_pushW {B : Nat} {w : World} {v : Value} {xs : List ByteArray} (ys : List ByteArray) {ad : Addr} {c : Nat} {o : Oper} {act : Act} {K : Act → World → Prop} {Q : Exit → Act → World → Prop} (s x : Operand)
    (hop : o.op = .call { callee := .builtin .append, args := #[s, x], argTypes := #[58, 58] })
    (hs : act.eval s = v) {m : Nat} (hx : act.eval x = .slice (some ad) m c) (hm : ys.length = m) (hb : ∀ j u, (ys.map Value.string)[j]? = some u → w.cell? (ad.add j) = some u) (h : OwnS B w v xs) (hB : B ≤ w.heap.size) (hl : xs.length + ys.length < 4194304)
    (hk : ∀ v' w', OwnS B w' v' (xs ++ ys) → w.grownBy w' v.ownBlock → K (act.put o.dst v') w') : o.wp Try.prog act w K Q := by
  subst hm
  obtain ⟨ti, hti, hz0, hz1, hz2⟩ := info_parts infoStr
  refine wp_append_own _ s x 58 hop B 9 ti (.string ⟨#[]⟩) 1 16 Try.underlying58 hti hz0 hz1 hz2 rfl (by decide) v xs.length (xs.map Value.string) hs h
    ad ys.length c (ys.map Value.string) hx (by simp) hb (by simp [Value.oneCell']) (by unfold maxLen; omega) (by omega) hB ?_
  intro v' w' hown hg _
  refine hk v' w' ?_ hg
  unfold OwnS
  rw [List.length_append, List.map_append]
  exact hown
theorem new_text (w : World) (x : ByteArray) : ∀ j u, ([x].map Value.string)[j]? = some u → (w.alloc (.cells #[.string x] 9)).cell? ((⟨w.heap.size, 0, none⟩ : Addr).add j) = some u := by
  intro j u hj
  have e : (⟨w.heap.size, 0, none⟩ : Addr).add j = ⟨w.heap.size, j, none⟩ := by
    unfold Addr.add; split
    · subst_vars; rfl
    · simp
  rw [e]
  have hb : (w.alloc (.cells #[.string x] 9)).heap[w.heap.size]? = some (.cells #[.string x] 9 (0, 0)) := by
    show (w.heap.push _)[w.heap.size]? = _
    simp
  simp only [World.cell?, hb]
  simpa using hj
/-- A list of texts in the making, and a cursor. -/
structure Keyed (w W : World) (T p : Nat) (a : Option Addr) (len cap : Nat) (zs : List Int) (i : Nat) (h : Int) (v : Value) (xs : List ByteArray) : Prop where
  own : OwnS w.heap.size W v xs
  cur : CurAt W T p a len cap zs i h
  grow : w.grownBy W (some p)
section
variable {w W W' : World} {T p : Nat} {a : Option Addr} {len cap : Nat} {zs : List Int} {i i' : Nat} {h h' : Int} {v v' : Value} {xs xs' : List ByteArray}
theorem Keyed.draw (d : Keyed w W T p a len cap zs i h v xs) (hp : p < w.heap.size) (hg : W.grownBy W' (some p)) (cu : CurAt W' T p a len cap zs i' h') : Keyed w W' T p a len cap zs i' h' v xs := ⟨d.own.grown hg hp, cu, d.grow.trans hg⟩
theorem Keyed.new (d : Keyed w W T p a len cap zs i h v xs) (o : Obj) : Keyed w (W.alloc o) T p a len cap zs i h v xs := ⟨d.own.new o, d.cur.new o, d.grow.trans (World.grownBy_alloc _ _ _)⟩
theorem Keyed.below (d : Keyed w W T p a len cap zs i h v xs) (hb : Below W.heap.size W W') : Keyed w W' T p a len cap zs i h v xs :=
  ⟨d.own.below hb, d.cur.below hb, ⟨hb.os.trans d.grow.os, hb.tape.trans d.grow.tape, hb.output.trans d.grow.output, Nat.le_trans d.grow.size hb.size, fun k hk hne => (hb.block k (by have := d.grow.size; omega)).trans (d.grow.block k hk hne)⟩⟩
theorem Keyed.push (d : Keyed w W T p a len cap zs i h v xs) (hp : p < w.heap.size) (hr : ∀ x, a = some x → x.block < w.heap.size ∨ len = 0) (o : OwnS w.heap.size W' v' xs') (gr : W.grownBy W' v.ownBlock) : Keyed w W' T p a len cap zs i h v' xs' := by
  have hb : ∀ k, v.ownBlock = some k → w.heap.size ≤ k := fun k e => (d.own.lt e).1
  refine ⟨o, d.cur.kept gr (fun e => ?_) (fun x hx => ?_), ⟨gr.os.trans d.grow.os, gr.tape.trans d.grow.tape, gr.output.trans d.grow.output, Nat.le_trans d.grow.size gr.size, fun k hk hne => (gr.block k (Nat.lt_of_lt_of_le hk d.grow.size) (fun e => ?_)).trans (d.grow.block k hk hne)⟩⟩
  · have := hb p e.symm
    omega
  · rcases hr x hx with h1 | h1
    · refine .inl (fun e => ?_)
      have := hb _ e.symm
      omega
    · exact .inr h1
  · have := hb k e.symm
    omega
end
end Go.Proofs.Ytkomnnijnggbpaa
