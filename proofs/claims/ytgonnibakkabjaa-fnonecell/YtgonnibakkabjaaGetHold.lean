/- What GetBlock's loop holds. -/
import Derived.Test.YtgonnibakkabjaaCellsIn
import Derived.Test.YtgonnibakkabjaaOwnCel
namespace Go.Proofs.Ytgonnibakkabjaa
open Go.RowKit Go.Shelf
set_option linter.unusedVariables false

/-- What GetBlock's loop holds: the two blocks of its answer, the list's box and row, the loop's record. -/
structure GB (w : World) (p l d : Nat) (r : Loop) (pre : List Cel) (W : World) : Prop where
  r4 : W.heap[w.heap.size]? = some (.cells #[.slice none 0 0] 24 (0, 0))
  r5 : W.heap[w.heap.size + 1]? = some (.cells #[.bool false] 4 (0, 0))
  box : ∃ v, W.heap[p]? = some (.cells #[v] 24 (0, 0)) ∧ OwnC (p + 1) W v pre
  lt : w.heap.size + 1 < p ∧ p < d ∧ l = d + 1
  below : Below w.heap.size w W
  loop : W.heap[l]? = some (.loop r)
  dfr : W.heap[d]? = some (.deferred (some []))
  few : pre.length ≤ 50
theorem OwnC.apart {B : Nat} {W : World} {v : Value} {ys : List Cel} (h : OwnC B W v ys) {k : Nat} {o : Obj} (hk : W.heap[k]? = some o) (hn : ∀ cs fz, o ≠ .cells cs 38 fz) : v.ownBlock ≠ some k := by
  intro e
  rcases h.2 with ⟨h0, _⟩ | ⟨g, cap, cur, h1, _, h3, _⟩
  · rw [h0] at e; cases e
  · rw [h1] at e
    cases e
    rw [hk] at h3
    cases h3
    exact hn _ _ rfl
theorem OwnC.keep {B : Nat} {W W' : World} {v : Value} {ys : List Cel} (h : OwnC B W v ys) (hk : ∀ (g : Nat) (cs : Array Value), W.heap[g]? = some (Obj.cells cs 38 (0, 0)) → W'.heap[g]? = some (Obj.cells cs 38 (0, 0))) : OwnC B W' v ys := by
  refine ⟨h.1, ?_⟩
  rcases h.2 with h2 | ⟨g, cap, cur, h1, h2, h3, r⟩
  · exact .inl h2
  · exact .inr ⟨g, cap, cur, h1, h2, hk g cur h3, r⟩
theorem gb_abides {w : World} {p l d : Nat} {r : Loop} {B : Nat} (hB : w.heap.size ≤ B) : AbidesT 74 B (GB w p l d r) := by
  rintro s W W' row ⟨h4, h5, ⟨v, hb, ho⟩, hlt, hbl, hl, hd, hf⟩ hg hr
  have hr' : ∀ j, row = some j → ∃ cs fz, W.heap[j]? = some (Obj.cells cs 74 fz) := fun j e => (hr j e).2
  exact ⟨keptT hg hr' h4 (fun _ _ h => by cases h), keptT hg hr' h5 (fun _ _ h => by cases h), ⟨v, keptT hg hr' hb (fun _ _ h => by cases h), ho.keep (fun g cs hc => keptT hg hr' hc (fun _ _ h => by cases h))⟩, hlt, hbl.grown hg hbl.size (fun k e => by have := (hr k e).1; omega), keptT hg hr' hl (fun _ _ h => by cases h), keptT hg hr' hd (fun _ _ h => by cases h), hf⟩
/-- The loop's record is written. -/
theorem GB.turn {w : World} {p l d : Nat} {r : Loop} {pre : List Cel} {W : World} (h : GB w p l d r pre W) (r' : Loop) : GB w p l d r' pre (W.putObj l (.loop r')) := by
  obtain ⟨h4, h5, ⟨v, hb, ho⟩, hlt, hbl, hl, hd, hf⟩ := h
  have no : ∀ (k : Nat) (o : Obj), W.heap[k]? = some o → k ≠ l → (W.putObj l (.loop r')).heap[k]? = some o := fun k o hk hne => (World.putObj_heap_other hne).trans hk
  have noC : ∀ (k : Nat) (cs : Array Value) (T : TypeId) (fz : Nat × Nat), W.heap[k]? = some (Obj.cells cs T fz) → (W.putObj l (.loop r')).heap[k]? = some (Obj.cells cs T fz) := fun k cs T fz hk => no k _ hk (fun e => by rw [e, hl] at hk; cases hk)
  exact ⟨noC _ _ _ _ h4, noC _ _ _ _ h5, ⟨v, noC _ _ _ _ hb, ho.keep (fun g cs hc => noC _ _ _ _ hc)⟩, hlt, hbl.trans (belowK_b (w := w) (Nat.le_refl _) W l _ _ (by omega) hl rfl rfl), World.putObj_heap_same (Array.getElem?_eq_some_iff.1 hl).1, no _ _ hd (by omega), hf⟩
/-- Something is made. -/
theorem GB.under {w : World} {p l d : Nat} {r : Loop} {pre : List Cel} {W W' : World} (h : GB w p l d r pre W) (hb : Below W.heap.size W W') : GB w p l d r pre W' := by
  obtain ⟨h4, h5, ⟨v, hx, ho⟩, hlt, hbl, hl, hd, hf⟩ := h
  have no : ∀ (k : Nat) (o : Obj), W.heap[k]? = some o → W'.heap[k]? = some o := fun k o hk => (hb.block k (Array.getElem?_eq_some_iff.1 hk).1).trans hk
  exact ⟨no _ _ h4, no _ _ h5, ⟨v, no _ _ hx, ho.below hb⟩, hlt, hbl.trans (hb.mono hbl.size), no _ _ hl, no _ _ hd, hf⟩
/-- A cell is put behind, and the box has the row. -/
theorem GB.put {w : World} {p l d : Nat} {r : Loop} {pre : List Cel} {x : Cel} {v v' : Value} {W W' : World} (h : GB w p l d r pre W) (hb : W.heap[p]? = some (.cells #[v] 24 (0, 0))) (hg : W.grownBy W' v.ownBlock) (ho : OwnC (p + 1) W v pre) (ho' : OwnC (p + 1) W' v' (pre ++ [x])) (hf : pre.length < 50) :
    GB w p l d r (pre ++ [x]) (W'.setCell ⟨p, 0, none⟩ v') := by
  obtain ⟨h4, h5, _, hlt, hbl, hl, hd, _⟩ := h
  have no : ∀ (k : Nat) (o : Obj), W.heap[k]? = some o → (∀ cs fz, o ≠ .cells cs 38 fz) → W'.heap[k]? = some o := fun k o hk hn => (hg.block k (Array.getElem?_eq_some_iff.1 hk).1 (fun e => ho.apart hk hn e.symm)).trans hk
  have st : ∀ (k : Nat) (o : Obj), W'.heap[k]? = some o → k ≠ p → (W'.setCell ⟨p, 0, none⟩ v').heap[k]? = some o := fun k o hk hne => (Below.heap_setCell _ _ _ _ hne).trans hk
  have b1 := no _ _ hb (fun _ _ e => by cases e)
  refine ⟨st _ _ (no _ _ h4 (fun _ _ e => by cases e)) (by omega), st _ _ (no _ _ h5 (fun _ _ e => by cases e)) (by omega), ⟨v', ?_, ?_⟩, hlt, ?_, st _ _ (no _ _ hl (fun _ _ e => by cases e)) (by omega), st _ _ (no _ _ hd (fun _ _ e => by cases e)) (by omega), by simp; omega⟩
  · rw [set_block v' b1]; rfl
  · exact ho'.keep (fun g cs hc => st _ _ hc (fun e => by rw [e, b1] at hc; cases hc))
  · refine (hbl.grown hg hbl.size (fun k e => ?_)).setCell (show w.heap.size ≤ p by omega) _
    have := (ho.lt e).1
    omega
theorem keepT_refl (W : World) : KeepT W W := ⟨fun _ _ _ _ h _ _ => h, Nat.le_refl _⟩
theorem KeepT.trans {X Y Z : World} (h : KeepT X Y) (k : KeepT Y Z) : KeepT X Z := ⟨fun j cs T fz hj h1 h2 => k.1 j cs T fz (h.1 j cs T fz hj h1 h2) h1 h2, Nat.le_trans h.2 k.2⟩
theorem keepT_below {W W' : World} (h : Below W.heap.size W W') : KeepT W W' := ⟨fun j cs T fz hj _ _ => (h.block j (Array.getElem?_eq_some_iff.1 hj).1).trans hj, h.size⟩
theorem keepT_turn {W : World} {l : Nat} {r : Loop} (hl : W.heap[l]? = some (.loop r)) (r' : Loop) : KeepT W (W.putObj l (.loop r')) := ⟨fun j cs T fz hj _ _ => (World.putObj_heap_other (fun e => by rw [e, hl] at hj; cases hj)).trans hj, by simp⟩
theorem keepT_set {W : World} {p : Nat} {v : Value} (hb : W.heap[p]? = some (.cells #[v] 24 (0, 0))) (v' : Value) : KeepT W (W.setCell ⟨p, 0, none⟩ v') := ⟨fun j cs T fz hj _ h2 => (Below.heap_setCell _ _ _ _ (fun e => by
    have e' : j = p := e
    rw [e', hb] at hj
    cases hj
    exact h2 rfl)).trans hj, by simp⟩
theorem keepT_grow {B : Nat} {W W' : World} {v : Value} {ys : List Cel} (ho : OwnC B W v ys) (hg : W.grownBy W' v.ownBlock) : KeepT W W' :=
  ⟨fun j cs T fz hj h1 _ => (hg.block j (Array.getElem?_eq_some_iff.1 hj).1 (fun e => ho.apart hj (fun _ _ e' => by cases e'; exact h1 rfl) e.symm)).trans hj, hg.size⟩
/-- What stands where a round has returned: nothing is told. -/
structure Stp (w : World) (l d : Nat) (r : Loop) (W : World) : Prop where
  r4 : W.heap[w.heap.size]? = some (.cells #[.slice none 0 0] 24 (0, 0))
  r5 : W.heap[w.heap.size + 1]? = some (.cells #[.bool false] 4 (0, 0))
  below : Below w.heap.size w W
  loop : W.heap[l]? = some (.loop r)
  dfr : W.heap[d]? = some (.deferred (some []))
  lt : w.heap.size + 1 < d ∧ l = d + 1
/-- The answer is laid. -/
theorem GB.lay {w : World} {p l d : Nat} {r : Loop} {pre : List Cel} {W : World} (h : GB w p l d r pre W) (v : Value) (b : Bool) :
    ((W.setCell ⟨w.heap.size, 0, none⟩ v).setCell ⟨w.heap.size + 1, 0, none⟩ (.bool b)).heap[w.heap.size]? = some (.cells #[v] 24 (0, 0)) ∧ ((W.setCell ⟨w.heap.size, 0, none⟩ v).setCell ⟨w.heap.size + 1, 0, none⟩ (.bool b)).heap[w.heap.size + 1]? = some (.cells #[.bool b] 4 (0, 0)) ∧
    Below w.heap.size w ((W.setCell ⟨w.heap.size, 0, none⟩ v).setCell ⟨w.heap.size + 1, 0, none⟩ (.bool b)) ∧ (∀ (k : Nat) (o : Obj), W.heap[k]? = some o → k ≠ w.heap.size → k ≠ w.heap.size + 1 → ((W.setCell ⟨w.heap.size, 0, none⟩ v).setCell ⟨w.heap.size + 1, 0, none⟩ (.bool b)).heap[k]? = some o) := by
  have no : ∀ (k : Nat) (o : Obj), W.heap[k]? = some o → k ≠ w.heap.size → k ≠ w.heap.size + 1 → ((W.setCell ⟨w.heap.size, 0, none⟩ v).setCell ⟨w.heap.size + 1, 0, none⟩ (.bool b)).heap[k]? = some o := fun k o hk h1 h2 => (Below.heap_setCell _ _ _ _ h2).trans ((Below.heap_setCell _ _ _ _ h1).trans hk)
  refine ⟨?_, ?_, (h.below.setCell (Nat.le_refl _) _).setCell (show w.heap.size ≤ w.heap.size + 1 by omega) _, no⟩
  · rw [Below.heap_setCell _ _ _ _ (show w.heap.size ≠ w.heap.size + 1 by omega), set_block v h.r4]
    rfl
  · rw [set_block (w := W.setCell ⟨w.heap.size, 0, none⟩ v) _ ((Below.heap_setCell _ _ _ _ (show w.heap.size + 1 ≠ w.heap.size by omega)).trans h.r5)]
    rfl
theorem GB.stop {w : World} {p l d : Nat} {r : Loop} {pre : List Cel} {W : World} (h : GB w p l d r pre W) (r' : Loop) :
    ((W.setCell ⟨w.heap.size, 0, none⟩ (.slice none 0 0)).setCell ⟨w.heap.size + 1, 0, none⟩ (.bool false)).heap[l]? = some (.loop r) ∧ Stp w l d r' (((W.setCell ⟨w.heap.size, 0, none⟩ (.slice none 0 0)).setCell ⟨w.heap.size + 1, 0, none⟩ (.bool false)).putObj l (.loop r')) := by
  obtain ⟨h4, h5, hb, no⟩ := h.lay (.slice none 0 0) false
  have lt := h.lt
  have hl := no l _ h.loop (by omega) (by omega)
  have hd := no d _ h.dfr (by omega) (by omega)
  exact ⟨hl, (World.putObj_heap_other (by omega)).trans h4, (World.putObj_heap_other (by omega)).trans h5, hb.trans (belowK_b (w := w) (Nat.le_refl _) _ l _ _ (by omega) hl rfl rfl), World.putObj_heap_same (Array.getElem?_eq_some_iff.1 hl).1, (World.putObj_heap_other (by omega)).trans hd, by omega, by omega⟩
/-- The rounds' deferred calls are taken; what is answered. -/
theorem GB.answer {w : World} {p l d : Nat} {r : Loop} {pre : List Cel} {W : World} (h : GB w p l d r pre W) (v : Value) (b : Bool) {W3 : World} (hW : (W.setCell ⟨w.heap.size, 0, none⟩ v).setCell ⟨w.heap.size + 1, 0, none⟩ (.bool b) = W3) :
    W3.heap[d]? = some (.deferred (some [])) ∧ (W3.putObj d (.deferred none)).heap[w.heap.size]? = some (.cells #[v] 24 (0, 0)) ∧ (W3.putObj d (.deferred none)).heap[w.heap.size + 1]? = some (.cells #[.bool b] 4 (0, 0)) ∧ Below w.heap.size w (W3.putObj d (.deferred none)) ∧
    (∀ u ys, OwnC (p + 1) W u ys → OwnC w.heap.size (W3.putObj d (.deferred none)) u ys) := by
  obtain ⟨h4, h5, hb, no⟩ := h.lay v b
  rw [hW] at h4 h5 hb no
  have lt := h.lt
  have hd := no d _ h.dfr (by omega) (by omega)
  refine ⟨hd, (World.putObj_heap_other (by omega)).trans h4, (World.putObj_heap_other (by omega)).trans h5, hb.trans (belowK_b (w := w) (Nat.le_refl _) _ d _ _ (by omega) hd rfl rfl), fun u ys ho => ?_⟩
  refine own_base (B := p + 1) (ho.keep (fun g cs hc => ?_)) (by omega)
  have k1 : g ≠ w.heap.size := fun e => by rw [e, h.r4] at hc; cases hc
  have k2 : g ≠ w.heap.size + 1 := fun e => by rw [e, h.r5] at hc; cases hc
  have k3 : g ≠ d := fun e => by rw [e, h.dfr] at hc; cases hc
  exact (World.putObj_heap_other k3).trans (no g _ hc k1 k2)
theorem new5 (W : World) (R C : ByteArray) (t : Int) (G : Bool) (V : ByteArray) : ∀ j u, (celCells ⟨R, C, t, G, V⟩)[j]? = some u → (W.alloc (.cells #[.string R, .string C, .int .i64 t, .bool G, .string V] 38)).cell? ((⟨W.heap.size, 0, none⟩ : Addr).add j) = some u := by
  intro j u hj
  have e : (⟨W.heap.size, 0, none⟩ : Addr).add j = ⟨W.heap.size, j, none⟩ := by
    unfold Addr.add; split
    · subst_vars; rfl
    · simp
  rw [e]
  simp only [World.cell?, alloc_at]
  simpa [celCells] using hj
end Go.Proofs.Ytgonnibakkabjaa
