/- The library's DeleteFunc over cells, asked with the program's predicate; the program's TableScan. -/
import Derived.Laws.IdiomCopy
import Derived.Lib.SliceRun
import Derived.Test.YtkomnnijnggbpaaGreatDoorScanGetI
import Derived.Test.YtkomnnijnggbpaaGreatDoorBetween
import Derived.Test.YtkomnnijnggbpaaGreatDoorZ1
namespace Go.Proofs.YtkomnnijnggbpaaGreatDoor
open Go.RowKit
set_option linter.unusedVariables false

def Five (cur : Array Value) (m : Nat) (y : Cel) : Prop := cur[m]? = some (.string y.row) ∧ cur[m + 1]? = some (.string y.col) ∧ cur[m + 2]? = some (.int .i64 y.time) ∧ cur[m + 3]? = some (.bool y.gone) ∧ cur[m + 4]? = some (.string y.value)
def DRow (w : World) (B g n cp : Nat) (d : List Cel) : Prop :=
 ∃ cur, w.heap[g]? = some (.cells cur 41 (0, 0)) ∧ cur.size = cp * 5 ∧ B ≤ g ∧ d.length = n ∧ n ≤ cp ∧ cp ≤ maxLen ∧ ∀ (k : Nat) (y : Cel), d[k]? = some y → Five cur (k * 5) y
theorem cells_flat : ∀ (l : List Cel) (C : List Value), (∀ (k : Nat) (y : Cel), l[k]? = some y → C[k * 5]? = some (.string y.row) ∧ C[k * 5 + 1]? = some (.string y.col) ∧ C[k * 5 + 2]? = some (.int .i64 y.time) ∧ C[k * 5 + 3]? = some (.bool y.gone) ∧ C[k * 5 + 4]? = some (.string y.value)) → C.take (l.length * 5) = l.flatMap celCells
 | [], C, _ => by simp
 | y :: l, C, h => by
   obtain ⟨h0, h1, h2, h3, h4⟩ := h 0 y rfl
   obtain ⟨c0, C, rfl⟩ : ∃ c D, C = c :: D := by cases C with | nil => simp at h0 | cons c D => exact ⟨c, D, rfl⟩
   obtain ⟨c1, C, rfl⟩ : ∃ c D, C = c :: D := by cases C with | nil => simp at h1 | cons c D => exact ⟨c, D, rfl⟩
   obtain ⟨c2, C, rfl⟩ : ∃ c D, C = c :: D := by cases C with | nil => simp at h2 | cons c D => exact ⟨c, D, rfl⟩
   obtain ⟨c3, C, rfl⟩ : ∃ c D, C = c :: D := by cases C with | nil => simp at h3 | cons c D => exact ⟨c, D, rfl⟩
   obtain ⟨c4, C, rfl⟩ : ∃ c D, C = c :: D := by cases C with | nil => simp at h4 | cons c D => exact ⟨c, D, rfl⟩
   simp at h0 h1 h2 h3 h4
   subst h0 h1 h2 h3 h4
   have ih := cells_flat l C (fun k z hk => by
     have := h (k + 1) z (by simpa using hk)
     rw [show (k + 1) * 5 = k * 5 + 5 by omega] at this
     simpa using this)
   rw [List.length_cons, show (l.length + 1) * 5 = l.length * 5 + 5 by omega, List.flatMap_cons, ← ih]
   rfl
theorem DRow.of {w : World} {B g n cp : Nat} {d : List Cel} (h : OwnC B w (.slice (some ⟨g, 0, none⟩) n cp) d) (hn : d.length = n) : DRow w B g n cp d := by
 have hr := h.row
 rcases h.2 with ⟨h0, _⟩ | ⟨g', cap, cur, h1, h2, h3, h4, h5, h6, h7⟩
 · cases h0
 · cases h1
   refine ⟨cur, h3, h6, h2, rfl, h4, h5, fun k y hk => ?_⟩
   obtain ⟨g', e, hc⟩ := hr.2.2 k y hk
   cases e
   unfold Cel5 at hc
   simp only [World.cell?, h3] at hc
   simpa [Five] using hc
theorem DRow.own {w : World} {B g n cp : Nat} {d : List Cel} (h : DRow w B g n cp d) (i : Nat) (hi : i ≤ n) : OwnC B w (.slice (some ⟨g, 0, none⟩) i cp) (d.take i) := by
 obtain ⟨cur, h1, h2, h3, h4, h5, h6, h7⟩ := h
 have hl : (d.take i).length = i := by rw [List.length_take]; omega
 refine ⟨by rw [celCells_len], .inr ⟨g, cp, cur, by rw [hl], h3, h1, by omega, h6, h2, ?_⟩⟩
 refine cells_flat _ _ (fun k y hk => ?_)
 rw [List.getElem?_take] at hk
 split at hk
 · have := h7 k y hk
   simpa [Five] using this
 · cases hk
theorem DRow.cel {w : World} {B g n cp : Nat} {d : List Cel} (h : DRow w B g n cp d) {k : Nat} {y : Cel} (hk : d[k]? = some y) : Cel5O w g (k * 5) y := by
 obtain ⟨cur, h1, _, _, _, _, _, h7⟩ := h
 have := h7 k y hk
 unfold Five at this
 unfold Cel5O
 simp only [World.cell?, h1]
 simpa using this
theorem DRow.frz {w : World} {B g n cp : Nat} {d : List Cel} (h : DRow w B g n cp d) (m : Nat) : w.frozen? ⟨g, m, none⟩ = false := by
 obtain ⟨cur, h1, _⟩ := h
 simp [World.frozen?, h1]
theorem DRow.under {w w' : World} {B g n cp : Nat} {d : List Cel} (h : DRow w B g n cp d) (hb : Below w.heap.size w w') : DRow w' B g n cp d := by
 obtain ⟨cur, h1, r⟩ := h
 exact ⟨cur, (hb.block g (Array.getElem?_eq_some_iff.1 h1).1).trans h1, r⟩
theorem DRow.put {w : World} {B g n cp : Nat} {d : List Cel} (h : DRow w B g n cp d) (i : Nat) (hi : i < n) (y : Cel) :
   DRow (((((w.setCell ⟨g, i * 5, none⟩ (.string y.row)).setCell ⟨g, i * 5 + 1, none⟩ (.string y.col)).setCell ⟨g, i * 5 + 2, none⟩ (.int .i64 y.time)).setCell ⟨g, i * 5 + 3, none⟩ (.bool y.gone)).setCell ⟨g, i * 5 + 4, none⟩ (.string y.value)) B g n cp (d.set i y) := by
 obtain ⟨cur, h1, h2, h3, h4, h5, h6, h7⟩ := h
 refine ⟨_, set_block _ (set_block _ (set_block _ (set_block _ (set_block (w := w) _ h1)))), by simpa using h2, h3, by simpa using h4, h5, h6, fun k z hk => ?_⟩
 have hsz : i * 5 + 4 < cur.size := by omega
 by_cases hik : k = i
 · subst hik
   rw [List.getElem?_set_self (by omega)] at hk
   cases hk
   unfold Five
   refine ⟨?_, ?_, ?_, ?_, ?_⟩ <;> simp only [Array.getElem?_setIfInBounds, Array.size_setIfInBounds] <;> simp <;> omega
 · rw [List.getElem?_set_ne (fun e => hik e.symm)] at hk
   have := h7 k z hk
   unfold Five at this ⊢
   obtain ⟨a0, a1, a2, a3, a4⟩ := this
   have hk5 : k * 5 + 4 < i * 5 ∨ i * 5 + 4 < k * 5 := by omega
   refine ⟨?_, ?_, ?_, ?_, ?_⟩ <;> (rw [Array.getElem?_setIfInBounds_ne (by omega), Array.getElem?_setIfInBounds_ne (by omega), Array.getElem?_setIfInBounds_ne (by omega), Array.getElem?_setIfInBounds_ne (by omega), Array.getElem?_setIfInBounds_ne (by omega)]; assumption)
theorem below_five {B : Nat} {w0 w : World} (h : Below B w0 w) {g : Nat} (hg : B ≤ g) (a b c d e : Nat) (v0 v1 v2 v3 v4 : Value) : Below B w0 (((((w.setCell ⟨g, a, none⟩ v0).setCell ⟨g, b, none⟩ v1).setCell ⟨g, c, none⟩ v2).setCell ⟨g, d, none⟩ v3).setCell ⟨g, e, none⟩ v4) :=
 ((((h.setCell hg _).setCell hg _).setCell hg _).setCell hg _).setCell hg _
theorem setCells_block (g T : Nat) (fz : Nat × Nat) : ∀ (vs : List Value) (o : Nat) (w : World) (cur : Array Value), w.heap[g]? = some (.cells cur T fz) → ∃ cur', (w.setCells g o vs).heap[g]? = some (.cells cur' T fz) ∧ cur'.size = cur.size ∧ ∀ m, m < o → cur'[m]? = cur[m]?
 | [], o, w, cur, h => ⟨cur, h, rfl, fun _ _ => rfl⟩
 | v :: vs, o, w, cur, h => by
   obtain ⟨cur', h1, h2, h3⟩ := setCells_block g T fz vs (o + 1) (w.setCell ⟨g, o, none⟩ v) _ (set_block v h)
   refine ⟨cur', h1, by simpa using h2, fun m hm => ?_⟩
   rw [h3 m (by omega), Array.getElem?_setIfInBounds_ne (by omega)]
theorem below_setCells {B : Nat} {w0 : World} {g : Nat} (hg : B ≤ g) : ∀ (vs : List Value) (o : Nat) (w : World), Below B w0 w → Below B w0 (w.setCells g o vs)
 | [], _, _, h => h
 | v :: vs, o, w, h => below_setCells hg vs (o + 1) _ (h.setCell hg v)
end Go.Proofs.YtkomnnijnggbpaaGreatDoor
