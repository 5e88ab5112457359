/- Cells in memory: five values in a block. -/
import Derived.Test.YtejoiaijlaaekaaProg
import Derived.Test.YtejoiaijlaaekaaBase
import Derived.Test.YtejoiaijlaaekaaCellPure
import Derived.Laws.Rows
namespace Go.Proofs.Ytejoiaijlaaekaa
open Go.RowKit
set_option linter.unusedVariables false

theorem sizeCel : (Try.prog.info? 30).map (·.size) = some 5 := by kernel_rfl
theorem alloc_at (w : World) (o : Obj) : (w.alloc o).heap[w.heap.size]? = some o := by
  show (w.heap.push o)[w.heap.size]? = some o
  simp
theorem alloc_old (w : World) (o : Obj) {i : Nat} (h : i < w.heap.size) : (w.alloc o).heap[i]? = w.heap[i]? := by
  show (w.heap.push o)[i]? = w.heap[i]?
  rw [Array.getElem?_push, if_neg (Nat.ne_of_lt h)]
theorem alloc_at2 (w : World) (o o' : Obj) : ((w.alloc o).alloc o').heap[w.heap.size + 1]? = some o' := by
  have := alloc_at (w.alloc o) o'
  rwa [World.size_alloc] at this
theorem alloc_at3 (w : World) (o o' o'' : Obj) : (((w.alloc o).alloc o').alloc o'').heap[w.heap.size + 1]? = some o' := by
  rw [alloc_old _ _ (by simp)]
  exact alloc_at2 w o o'
/-- Five values laid over a block of five. -/
theorem set5 {w : World} {r T : Nat} {fz : Nat × Nat} {a b c d e : Value} (h : w.heap[r]? = some (.cells #[a, b, c, d, e] T fz)) (v0 v1 v2 v3 v4 : Value) :
    (((((w.setCell ⟨r, 0, none⟩ v0).setCell ⟨r, 1, none⟩ v1).setCell ⟨r, 2, none⟩ v2).setCell ⟨r, 3, none⟩ v3).setCell ⟨r, 4, none⟩ v4).heap[r]? = some (.cells #[v0, v1, v2, v3, v4] T fz) := by
  rw [set_block _ (set_block _ (set_block _ (set_block _ (set_block (w := w) _ h))))]
  rfl
theorem set5_below {B : Nat} {w0 w : World} (h : Below B w0 w) {r : Nat} (hr : B ≤ r) (v0 v1 v2 v3 v4 : Value) :
    Below B w0 (((((w.setCell ⟨r, 0, none⟩ v0).setCell ⟨r, 1, none⟩ v1).setCell ⟨r, 2, none⟩ v2).setCell ⟨r, 3, none⟩ v3).setCell ⟨r, 4, none⟩ v4) :=
  ((((h.setCell hr _).setCell hr _).setCell hr _).setCell hr _).setCell hr _
/-- An answer of a struct in a block and a truth in a slot. -/
theorem res_cell_bool {P : Program} {fn : Func} {p q : Tmp} {ty : TypeId} {b : Bool} (h : fn.results = #[.cell p ty, .tmp q]) (tmps : Array Value) (w : World) (g : Nat) (t : TypeId) (cs : Array Value) (fr : Nat × Nat) (d : TypeDesc)
    (hp : tmps.getD p undef = .pointer (some ⟨g, 0, none⟩)) (hq : tmps.getD q undef = .bool b) (hg : w.heap[g]? = some (.cells cs t fr))
    (hu : P.underlying ty = some d) (hd : (match d with | .struct _ | .array _ _ => true | _ => false) = true) (hi : (P.info? ty).map (·.size) = some cs.size) :
    (results fn tmps).run P w = .ok (.tuple #[.agg cs, .bool b]) w := by
  have hp' : tmps[p]?.getD undef = .pointer (some ⟨g, 0, none⟩) := by simpa using hp
  have hq' : tmps[q]?.getD undef = .bool b := by simpa using hq
  simp [results, h, hp', hq', asAddr, run_loadVar_row w g t ty cs fr d hg hu hd hi]
theorem one_below (w : World) (o : Obj) : Below w.heap.size w (w.alloc o) := (Below.refl _ w).alloc (Nat.le_refl _) o
theorem two_below0 (w : World) (o o' : Obj) : Below w.heap.size w ((w.alloc o).alloc o') := ((Below.refl _ w).alloc (Nat.le_refl _) o).alloc (by simp) o'
theorem two_below (w : World) (o o' : Obj) (n : Nat) : Below w.heap.size w (((w.alloc o).alloc o').drewN n) := (two_below0 w o o').trans (below_draws n)
/-- Two blocks of five values each. -/
def Two5 (A B : Nat) (a0 a1 a2 a3 a4 b0 b1 b2 b3 b4 : Value) (w : World) : Prop :=
  w.cell? ⟨A, 0, none⟩ = some a0 ∧ w.cell? ⟨A, 1, none⟩ = some a1 ∧ w.cell? ⟨A, 2, none⟩ = some a2 ∧ w.cell? ⟨A, 3, none⟩ = some a3 ∧ w.cell? ⟨A, 4, none⟩ = some a4 ∧
  w.cell? ⟨B, 0, none⟩ = some b0 ∧ w.cell? ⟨B, 1, none⟩ = some b1 ∧ w.cell? ⟨B, 2, none⟩ = some b2 ∧ w.cell? ⟨B, 3, none⟩ = some b3 ∧ w.cell? ⟨B, 4, none⟩ = some b4
theorem Two5.lt {A B : Nat} {a0 a1 a2 a3 a4 b0 b1 b2 b3 b4 : Value} {w : World} (h : Two5 A B a0 a1 a2 a3 a4 b0 b1 b2 b3 b4 w) : A < w.heap.size ∧ B < w.heap.size := ⟨cell_lt h.1, cell_lt h.2.2.2.2.2.1⟩
theorem Two5.below {A B : Nat} {a0 a1 a2 a3 a4 b0 b1 b2 b3 b4 : Value} {w w' : World} (h : Two5 A B a0 a1 a2 a3 a4 b0 b1 b2 b3 b4 w) (hb : Below w.heap.size w w') : Two5 A B a0 a1 a2 a3 a4 b0 b1 b2 b3 b4 w' := by
  obtain ⟨hA, hB⟩ := h.lt
  obtain ⟨h0, h1, h2, h3, h4, k0, k1, k2, k3, k4⟩ := h
  exact ⟨(hb.cell (p := ⟨A, 0, none⟩) hA).trans h0, (hb.cell (p := ⟨A, 1, none⟩) hA).trans h1, (hb.cell (p := ⟨A, 2, none⟩) hA).trans h2, (hb.cell (p := ⟨A, 3, none⟩) hA).trans h3, (hb.cell (p := ⟨A, 4, none⟩) hA).trans h4,
    (hb.cell (p := ⟨B, 0, none⟩) hB).trans k0, (hb.cell (p := ⟨B, 1, none⟩) hB).trans k1, (hb.cell (p := ⟨B, 2, none⟩) hB).trans k2, (hb.cell (p := ⟨B, 3, none⟩) hB).trans k3, (hb.cell (p := ⟨B, 4, none⟩) hB).trans k4⟩
theorem two5_new (w : World) (a0 a1 a2 a3 a4 b0 b1 b2 b3 b4 : Value) (T T' : Nat) : Two5 w.heap.size (w.heap.size + 1) a0 a1 a2 a3 a4 b0 b1 b2 b3 b4 ((w.alloc (.cells #[a0, a1, a2, a3, a4] T)).alloc (.cells #[b0, b1, b2, b3, b4] T')) := by
  have hA := (alloc_old (w.alloc (.cells #[a0, a1, a2, a3, a4] T)) (.cells #[b0, b1, b2, b3, b4] T') (i := w.heap.size) (by simp)).trans (alloc_at w _)
  have hB := alloc_at2 w (.cells #[a0, a1, a2, a3, a4] T) (.cells #[b0, b1, b2, b3, b4] T')
  refine ⟨?_, ?_, ?_, ?_, ?_, ?_, ?_, ?_, ?_, ?_⟩
  all_goals first | (simp only [World.cell?, hA]; rfl) | (simp only [World.cell?, hB]; rfl)
end Go.Proofs.Ytejoiaijlaaekaa
