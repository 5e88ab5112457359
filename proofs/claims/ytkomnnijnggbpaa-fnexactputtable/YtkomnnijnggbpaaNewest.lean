/- The program's Newest: the first cell of a column that is no newer than asked. -/
import Derived.Test.YtkomnnijnggbpaaTimes
import Derived.Test.YtkomnnijnggbpaaCellsOkI
import Derived.Test.YtkomnnijnggbpaaCellA
namespace Go.Proofs.Ytkomnnijnggbpaa
open Go.RowKit Go.Shelf
set_option linter.unusedVariables false
attribute [local go_sem] Oper.semAt_some

theorem three_belowN (w : World) (o o' o'' : Obj) : Below w.heap.size w (((w.alloc o).alloc o').alloc o'') := (two_below0 w o o').alloc (by simp; omega) o''
/-- What Newest answers. -/
def NewOut (w : World) (r : Option Cel) (e : Ending) (w' : World) : Prop :=
  (match r with
  | some x => e = .returned (.tuple #[celVal x, .bool true])
  | none => e = .returned (.tuple #[celVal zeroC, .bool false])) ∧ Below w.heap.size w w'
theorem res_cells2 {P : Program} {fn : Func} {p q : Tmp} {ty ty2 : TypeId} {v : Value} (h : fn.results = #[.cell p ty, .cell q ty2]) (tmps : Array Value) (w : World) (g g2 : Nat) (t : TypeId) (cs : Array Value) (fr : Nat × Nat) (d : TypeDesc)
    (hp : tmps.getD p undef = .pointer (some ⟨g, 0, none⟩)) (hq : tmps.getD q undef = .pointer (some ⟨g2, 0, none⟩)) (hg : w.heap[g]? = some (.cells cs t fr)) (hv : (loadVar ty2 ⟨g2, 0, none⟩).run P w = .ok v w)
    (hu : P.underlying ty = some d) (hd : (match d with | .struct _ | .array _ _ => true | _ => false) = true) (hi : (P.info? ty).map (·.size) = some cs.size) :
    (results fn tmps).run P w = .ok (.tuple #[.agg cs, v]) w := by
  have hp' : tmps[p]?.getD undef = .pointer (some ⟨g, 0, none⟩) := by simpa using hp
  have hq' : tmps[q]?.getD undef = .pointer (some ⟨g2, 0, none⟩) := by simpa using hq
  simp [results, h, hp', hq', asAddr, run_loadVar_row w g t ty cs fr d hg hu hd hi, hv]
theorem load_bool {w : World} {g : Nat} {b : Bool} {fr : Nat × Nat} (h : w.heap[g]? = some (.cells #[.bool b] 4 fr)) : (loadVar 4 ⟨g, 0, none⟩).run Try.prog w = .ok (.bool b) w := by
  have hc : w.cell? ⟨g, 0, none⟩ = some (.bool b) := by simp [World.cell?, h]
  simp [loadVar, go_sem, hc]

theorem fits_col (R C : ByteArray) (t : Int) (xs : List Cel) : xs.find? (fits R.data.toList C.data.toList t) = (xs.filter (ofCol R C)).find? (fun x => decide (x.time ≤ t)) := by
  rw [List.find?_filter]
  congr 1
  funext x
  unfold fits ofCol
  rw [Bool.eq_iff_iff]
  simp
theorem find_none_all {xs : List Cel} {t : Int} (h : ∀ x ∈ xs, t < x.time) : xs.find? (fun x => decide (x.time ≤ t)) = none := by
  rw [List.find?_eq_none]
  intro x hx
  have := h x hx
  simp
  omega
theorem find_some_pre {pre all : List Cel} {x : Cel} {t : Int} (hp : pre ++ [x] <+: all) (h : ∀ y ∈ pre, t < y.time) (hx : x.time ≤ t) : all.find? (fun x => decide (x.time ≤ t)) = some x := by
  obtain ⟨r, rfl⟩ := hp
  rw [List.find?_append, List.find?_append, find_none_all h]
  simp [hx]

/-- What the loop holds between two rounds: no cell of those that were told is early enough; all that lay ahead as it lay. -/
def Seeking (w0 w : World) (t : Int) (pre : List Cel) (W : World) : Prop := (∀ x ∈ pre, t < x.time) ∧ Below w.heap.size w W
/-- Where the loop is left: the last cell that was told is the one. -/
def Found (w0 w : World) (t : Int) (c : Code) (pre : List Cel) (W : World) : Prop :=
  ∃ p x, c = .ret ∧ pre = p ++ [x] ∧ (∀ y ∈ p, t < y.time) ∧ x.time ≤ t ∧ Below w0.heap.size w0 W ∧ W.heap[w0.heap.size + 1]? = some (.cells (celCells x).toArray 36 (0, 0)) ∧ W.heap[w0.heap.size + 2]? = some (.cells #[.bool true] 4 (0, 0))
theorem seeking_own (w0 w : World) (t : Int) : OwnFrom w.heap.size (Seeking w0 w t) := fun _ _ _ _ hs hg hr => ⟨hs.1, hs.2.grown hg hs.2.size (fun k e => (hr k e).1)⟩
theorem found_own (w0 w : World) (t : Int) (hw : w0.heap.size + 3 ≤ w.heap.size) (c : Code) : OwnFrom w.heap.size (Found w0 w t c) := by
  rintro _ X Y row ⟨p, x, h1, h2, h3, h4, h5, h6, h7⟩ hg hr
  have far : ∀ k, k < w.heap.size → some k ≠ row := fun k hk e => by have := (hr k e.symm).1; omega
  exact ⟨p, x, h1, h2, h3, h4, h5.grown hg h5.size (fun k e => by have := (hr k e).1; omega), (hg.block _ (Array.getElem?_eq_some_iff.1 h6).1 (far _ (by omega))).trans h6, (hg.block _ (Array.getElem?_eq_some_iff.1 h7).1 (far _ (by omega))).trans h7⟩

/-- The three blocks that Newest begins with: the time, the cell and the truth that it answers. -/
structure Three (w : World) (t : Int) (W : World) : Prop where
  below : Below w.heap.size w W
  one : W.heap[w.heap.size]? = some (.cells #[.int .i64 t] 3 (0, 0))
  two : W.heap[w.heap.size + 1]? = some (.cells #[.string ⟨#[]⟩, .string ⟨#[]⟩, .int .i64 0, .bool false, .string ⟨#[]⟩] 36 (0, 0))
  three : W.heap[w.heap.size + 1 + 1]? = some (.cells #[.bool false] 4 (0, 0))
  size : w.heap.size + 3 ≤ W.heap.size
theorem three_facts (w : World) (t : Int) : Three w t (((w.alloc (.cells #[.int .i64 t] 3)).alloc (.cells #[.string ⟨#[]⟩, .string ⟨#[]⟩, .int .i64 0, .bool false, .string ⟨#[]⟩] 36)).alloc (.cells #[.bool false] 4)) := by
  refine ⟨three_belowN w _ _ _, ?_, alloc_at3 w _ _ _, ?_, by simp⟩
  · rw [alloc_old _ _ (by simp; omega), alloc_old _ _ (by simp), alloc_at]
  · have := alloc_at ((w.alloc (.cells #[.int .i64 t] 3)).alloc (.cells #[.string ⟨#[]⟩, .string ⟨#[]⟩, .int .i64 0, .bool false, .string ⟨#[]⟩] 36)) (.cells #[.bool false] 4)
    simpa using this
theorem Three.later {w : World} {t : Int} {W W' : World} (h : Three w t W) (hb : Below W.heap.size W W') : Three w t W' :=
  ⟨h.below.trans (hb.mono h.below.size), (hb.block _ (by have := h.size; omega)).trans h.one, (hb.block _ (by have := h.size; omega)).trans h.two, (hb.block _ (by have := h.size; omega)).trans h.three, Nat.le_trans h.size hb.size⟩
theorem blk1 {w : World} {g T : Nat} {v : Value} (h : w.heap[g]? = some (.cells #[v] T (0, 0))) : w.cell? ⟨g, 0, none⟩ = some v ∧ w.frozen? ⟨g, 0, none⟩ = false := by
  constructor
  · simp [World.cell?, h]
  · simp [World.frozen?, h]
/-- The answer, laid. -/
def laid6 (W : World) (g : Nat) (v0 v1 v2 v3 v4 v5 : Value) : World :=
  (((((W.setCell ⟨g + 1, 0, none⟩ v0).setCell ⟨g + 1, 1, none⟩ v1).setCell ⟨g + 1, 2, none⟩ v2).setCell ⟨g + 1, 3, none⟩ v3).setCell ⟨g + 1, 4, none⟩ v4).setCell ⟨g + 1 + 1, 0, none⟩ v5
theorem laid6_block (W : World) (g : Nat) (v0 v1 v2 v3 v4 v5 : Value) (k : Nat) (h1 : k ≠ g + 1) (h2 : k ≠ g + 1 + 1) : (laid6 W g v0 v1 v2 v3 v4 v5).heap[k]? = W.heap[k]? := by
  unfold laid6
  rw [Below.heap_setCell _ _ _ _ h2, Below.heap_setCell _ _ _ _ h1, Below.heap_setCell _ _ _ _ h1, Below.heap_setCell _ _ _ _ h1, Below.heap_setCell _ _ _ _ h1, Below.heap_setCell _ _ _ _ h1]
theorem laid6_keeps (W : World) (g : Nat) (v0 v1 v2 v3 v4 v5 : Value) : KeepsOthers W (laid6 W g v0 v1 v2 v3 v4 v5) :=
  (((((KeepsOthers.setCell _ _ _).trans (KeepsOthers.setCell _ _ _)).trans (KeepsOthers.setCell _ _ _)).trans (KeepsOthers.setCell _ _ _)).trans (KeepsOthers.setCell _ _ _)).trans (KeepsOthers.setCell _ _ _)
theorem laid6_at {w : World} {t : Int} {W : World} (z : Three w t W) (v0 v1 v2 v3 v4 v5 : Value) :
    Below w.heap.size w (laid6 W w.heap.size v0 v1 v2 v3 v4 v5) ∧ (laid6 W w.heap.size v0 v1 v2 v3 v4 v5).heap[w.heap.size + 1]? = some (.cells #[v0, v1, v2, v3, v4] 36 (0, 0)) ∧ (laid6 W w.heap.size v0 v1 v2 v3 v4 v5).heap[w.heap.size + 1 + 1]? = some (.cells #[v5] 4 (0, 0)) := by
  refine ⟨(set5_below z.below (by omega) v0 v1 v2 v3 v4).setCell (show w.heap.size ≤ w.heap.size + 1 + 1 by omega) v5, ?_, ?_⟩
  · unfold laid6
    rw [Below.heap_setCell _ _ _ _ (show w.heap.size + 1 ≠ w.heap.size + 1 + 1 by omega)]
    exact set5 z.two v0 v1 v2 v3 v4
  · have hne : w.heap.size + 1 + 1 ≠ w.heap.size + 1 := by omega
    unfold laid6
    rw [set_block v5 (w := ((((W.setCell ⟨w.heap.size + 1, 0, none⟩ v0).setCell ⟨w.heap.size + 1, 1, none⟩ v1).setCell ⟨w.heap.size + 1, 2, none⟩ v2).setCell ⟨w.heap.size + 1, 3, none⟩ v3).setCell ⟨w.heap.size + 1, 4, none⟩ v4) (cs := #[.bool false]) (T := 4) (fz := (0, 0)) (by
      rw [Below.heap_setCell _ _ _ _ hne, Below.heap_setCell _ _ _ _ hne, Below.heap_setCell _ _ _ _ hne, Below.heap_setCell _ _ _ _ hne, Below.heap_setCell _ _ _ _ hne]
      exact z.three)]
    rfl
theorem times_new {w : World} {t : Int} {W : World} (z : Three w t W) {a : Option Addr} {m c : Nat} {xs : List Cel} (r : CelRow W a m c xs) (R C : ByteArray) :
    TimesAt ((W.alloc (.cells #[.slice a m c] 24)).alloc (.cells #[.string R, .string C, .int .i64 0, .bool false, .string ⟨#[]⟩] 36)) ((W.alloc (.cells #[.slice a m c] 24)).alloc (.cells #[.string R, .string C, .int .i64 0, .bool false, .string ⟨#[]⟩] 36)).heap.size W.heap.size (W.heap.size + 1) a m c xs R C := by
  refine ⟨?_, (blk5 (alloc_at2 W _ _)).1, r.below (two_below0 W _ _), (by simp; omega), (by simp), fun hne x hx => ?_, Nat.le_refl _⟩
  · exact (blk1 ((alloc_old _ _ (by simp)).trans (alloc_at W _))).1
  · cases xs with
    | nil => exact absurd rfl hne
    | cons y ys =>
      obtain ⟨g, e, h5⟩ := r.2.2 0 y rfl
      rw [e] at hx
      cases hx
      have := h5.lt
      simp
      omega

end Go.Proofs.Ytkomnnijnggbpaa
