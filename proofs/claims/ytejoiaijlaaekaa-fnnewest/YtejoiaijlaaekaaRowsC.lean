/- Lists of cells in memory, five values a cell. -/
import Derived.Test.YtejoiaijlaaekaaCellCells
namespace Go.Proofs.Ytejoiaijlaaekaa
open Go.RowKit
set_option linter.unusedVariables false

/-- A cell's five values in a block. -/
def Cel5 (w : World) (g k : Nat) (y : Cel) : Prop :=
  w.cell? ⟨g, k * 5, none⟩ = some (.string y.row) ∧ w.cell? ⟨g, k * 5 + 1, none⟩ = some (.string y.col) ∧ w.cell? ⟨g, k * 5 + 2, none⟩ = some (.int .i64 y.time) ∧ w.cell? ⟨g, k * 5 + 3, none⟩ = some (.bool y.gone) ∧ w.cell? ⟨g, k * 5 + 4, none⟩ = some (.string y.value)
theorem Cel5.below {w w' : World} {g k : Nat} {y : Cel} (h : Cel5 w g k y) (hb : Below w.heap.size w w') : Cel5 w' g k y := by
  have hA := cell_lt h.1
  obtain ⟨h0, h1, h2, h3, h4⟩ := h
  exact ⟨(hb.cell (p := ⟨g, k * 5, none⟩) hA).trans h0, (hb.cell (p := ⟨g, k * 5 + 1, none⟩) hA).trans h1, (hb.cell (p := ⟨g, k * 5 + 2, none⟩) hA).trans h2, (hb.cell (p := ⟨g, k * 5 + 3, none⟩) hA).trans h3, (hb.cell (p := ⟨g, k * 5 + 4, none⟩) hA).trans h4⟩
theorem Cel5.lt {w : World} {g k : Nat} {y : Cel} (h : Cel5 w g k y) : g < w.heap.size := cell_lt h.1
/-- A list of cells in a block. -/
def CelRow (w : World) (a : Option Addr) (n c : Nat) (xs : List Cel) : Prop := xs.length = n ∧ n ≤ c ∧ ∀ (k : Nat) (y : Cel), xs[k]? = some y → ∃ g, a = some ⟨g, 0, none⟩ ∧ Cel5 w g k y
theorem CelRow.below {w w' : World} {a : Option Addr} {n c : Nat} {xs : List Cel} (h : CelRow w a n c xs) (hb : Below w.heap.size w w') : CelRow w' a n c xs :=
  ⟨h.1, h.2.1, fun k y hk => by obtain ⟨g, e, hc⟩ := h.2.2 k y hk; exact ⟨g, e, hc.below hb⟩⟩
theorem CelRow.drewN {w : World} {a : Option Addr} {n c : Nat} {xs : List Cel} (h : CelRow w a n c xs) (m : Nat) : CelRow (w.drewN m) a n c xs := h
/-- Cells whose texts are no longer than texts may be. -/
def Fit (xs : List Cel) : Prop := ∀ y ∈ xs, y.row.size ≤ maxLen ∧ y.col.size ≤ maxLen ∧ y.value.size ≤ maxLen
theorem Fit.at {xs : List Cel} (h : Fit xs) {k : Nat} {y : Cel} (hk : xs[k]? = some y) : y.row.size ≤ maxLen ∧ y.col.size ≤ maxLen ∧ y.value.size ≤ maxLen := h y (List.mem_of_getElem? hk)

/-- A cell's values. -/
def celCells (y : Cel) : List Value := [.string y.row, .string y.col, .int .i64 y.time, .bool y.gone, .string y.value]
def zeroC : Cel := ⟨⟨#[]⟩, ⟨#[]⟩, 0, false, ⟨#[]⟩⟩
theorem infoCel : (Try.prog.info? 30).map (fun i => (i.zero, i.size, i.bytes)) = some (some (.agg #[.string ⟨#[]⟩, .string ⟨#[]⟩, .int .i64 0, .bool false, .string ⟨#[]⟩]), 5, 64) := by kernel_rfl
theorem celCells_len (xs : List Cel) : (xs.flatMap celCells).length = xs.length * 5 := by
  induction xs with
  | nil => rfl
  | cons t xs ih => rw [List.flatMap_cons, List.length_append, ih, List.length_cons]; simp [celCells]; omega
theorem cel_cell (xs : List Cel) : ∀ (k j : Nat) (y : Cel), xs[k]? = some y → j < 5 → (xs.flatMap celCells)[k * 5 + j]? = (celCells y)[j]? := by
  induction xs with
  | nil => intro k j y h; simp at h
  | cons a l ih =>
    intro k j y h hj
    rw [List.flatMap_cons]
    cases k with
    | zero =>
      simp at h
      subst h
      rw [Nat.zero_mul, Nat.zero_add, List.getElem?_append_left (by simp [celCells]; omega)]
    | succ k =>
      have ha : (celCells a).length = 5 := rfl
      rw [List.getElem?_append_right (by rw [ha]; omega), ha, show (k + 1) * 5 + j - 5 = k * 5 + j by omega]
      exact ih k j y (by simpa using h) hj
/-- Five values laid over those of a cell. -/
theorem cel_set (y : Cel) : ∀ (xs : List Cel) (i : Nat), i < xs.length → (((((xs.flatMap celCells).set (i * 5) (.string y.row)).set (i * 5 + 1) (.string y.col)).set (i * 5 + 2) (.int .i64 y.time)).set (i * 5 + 3) (.bool y.gone)).set (i * 5 + 4) (.string y.value) = (xs.set i y).flatMap celCells
  | [], i, h => by simp at h
  | a :: l, 0, _ => by simp [celCells]
  | a :: l, i + 1, h => by
    have ih := cel_set y l i (by simpa using h)
    have e : ∀ j, (i + 1) * 5 + j = (celCells a).length + (i * 5 + j) := fun j => by simp [celCells]; omega
    have e0 : (i + 1) * 5 = (celCells a).length + (i * 5) := by simp [celCells]; omega
    rw [List.flatMap_cons, List.set_cons_succ, List.flatMap_cons, e 1, e 2, e 3, e 4, e0]
    simp only [List.set_append_right _ _ (Nat.le_add_right _ _), Nat.add_sub_cancel_left]
    rw [ih]
/-- Cells in a block of their own, from its head. -/
def CelBlock (w : World) (g : Nat) (xs : List Cel) : Prop := w.heap[g]? = some (.cells (xs.flatMap celCells).toArray 30 (0, 0))
theorem CelBlock.cell {w : World} {g : Nat} {xs : List Cel} (h : CelBlock w g xs) {k : Nat} {y : Cel} (hk : xs[k]? = some y) : Cel5 w g k y := by
  have hc : ∀ j, j < 5 → w.cell? ⟨g, k * 5 + j, none⟩ = (celCells y)[j]? := fun j hj => by
    have h1 := cel_cell xs k j y hk hj
    unfold CelBlock at h
    simp only [World.cell?, h]
    simpa using h1
  exact ⟨hc 0 (by omega), hc 1 (by omega), hc 2 (by omega), hc 3 (by omega), hc 4 (by omega)⟩
theorem CelBlock.frozen {w : World} {g : Nat} {xs : List Cel} (h : CelBlock w g xs) (j : Nat) : w.frozen? ⟨g, j, none⟩ = false := by
  unfold CelBlock at h
  simp [World.frozen?, h]
theorem CelBlock.row {w : World} {g : Nat} {xs : List Cel} (h : CelBlock w g xs) {n : Nat} (hn : xs.length = n) : CelRow w (some ⟨g, 0, none⟩) n n xs := ⟨hn, Nat.le_refl _, fun k y hk => ⟨g, rfl, h.cell hk⟩⟩
theorem CelBlock.below {w w' : World} {g : Nat} {xs : List Cel} (h : CelBlock w g xs) (hb : Below w.heap.size w w') : CelBlock w' g xs := (hb.block g (Array.getElem?_eq_some_iff.1 h).1).trans h
theorem CelBlock.set {w : World} {g : Nat} {xs : List Cel} (h : CelBlock w g xs) (y : Cel) {i : Nat} (hi : i < xs.length) :
    CelBlock (((((w.setCell ⟨g, i * 5, none⟩ (.string y.row)).setCell ⟨g, i * 5 + 1, none⟩ (.string y.col)).setCell ⟨g, i * 5 + 2, none⟩ (.int .i64 y.time)).setCell ⟨g, i * 5 + 3, none⟩ (.bool y.gone)).setCell ⟨g, i * 5 + 4, none⟩ (.string y.value)) g (xs.set i y) := by
  unfold CelBlock at h ⊢
  rw [set_block _ (set_block _ (set_block _ (set_block _ (set_block (w := w) _ h)))), ← cel_set y xs i hi]
  simp
theorem set5i_below {B : Nat} {w0 w : World} (h : Below B w0 w) {r : Nat} (hr : B ≤ r) (k : Nat) (v0 v1 v2 v3 v4 : Value) :
    Below B w0 (((((w.setCell ⟨r, k, none⟩ v0).setCell ⟨r, k + 1, none⟩ v1).setCell ⟨r, k + 2, none⟩ v2).setCell ⟨r, k + 3, none⟩ v3).setCell ⟨r, k + 4, none⟩ v4) :=
  ((((h.setCell hr _).setCell hr _).setCell hr _).setCell hr _).setCell hr _
theorem cels_made (n : Nat) (w : World) (hn : n ≤ 1048576) : ∃ W, (Instr.makeSlice 36 (.int .i64 n) (.int .i64 n)).run Try.prog w = .ok (.slice (some ⟨w.heap.size, 0, none⟩) n n) W ∧ CelBlock W w.heap.size (List.replicate n zeroC) ∧ Below w.heap.size w W := by
  obtain ⟨ti, hti, hz0, hz1, hz2⟩ := info_parts infoCel
  have h := run_makeSlice (P := Try.prog) w 36 30 ti (.agg #[.string ⟨#[]⟩, .string ⟨#[]⟩, .int .i64 0, .bool false, .string ⟨#[]⟩]) Try.underlying36 hti hz0 .i64 .i64 n n (by omega) (by omega) (by rw [hz1]; simp; omega) (by rw [hz2]; omega) (by omega)
  rw [hz1, Int.toNat_natCast] at h
  have e : (Value.agg #[.string ⟨#[]⟩, .string ⟨#[]⟩, .int .i64 0, .bool false, .string ⟨#[]⟩]).cells = (celCells zeroC).toArray := rfl
  have e2 : madeCells (celCells zeroC).toArray (n * 5) = ((List.replicate n zeroC).flatMap celCells).toArray := by
    apply Array.ext_getElem?
    intro j
    by_cases hj : j < n * 5
    · have h1 := cel_cell (List.replicate n zeroC) (j / 5) (j % 5) zeroC (by rw [List.getElem?_replicate, if_pos (by omega)]) (by omega)
      rw [show j / 5 * 5 + j % 5 = j by omega] at h1
      have h5 : j % 5 < 5 := by omega
      simp only [List.getElem?_toArray, h1]
      simp [madeCells, hj, celCells, h5]
    · rw [Array.getElem?_eq_none (by simp [madeCells]; omega), Array.getElem?_eq_none (by simp only [List.size_toArray, celCells_len, List.length_replicate]; omega)]
  rw [e, e2] at h
  exact ⟨_, h, alloc_at w _, one_below w _⟩
end Go.Proofs.Ytejoiaijlaaekaa
