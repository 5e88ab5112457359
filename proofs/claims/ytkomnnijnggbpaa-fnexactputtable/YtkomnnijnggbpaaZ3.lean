/- A way that comes in by value. -/
import Derived.Test.YtkomnnijnggbpaaProg
import Derived.Test.YtkomnnijnggbpaaZ0
import Derived.Deep.Slices
import Derived.Deep.Fields
import Derived.ChangeSame
import Derived.WideShapes
import Derived.BigQuiet
import Derived.Deep.RegionHeld3
namespace Go.Proofs.Ytkomnnijnggbpaa
open Go.ChangeShapes Go.WideShapes Go.Deep Go.RowKit
set_option linter.unusedVariables false

section
variable {H : Type} {enc : TypeId × Value → H} {w : World} {base : Nat} {spare : Nat → Bool} {held : Bool}
set_option maxRecDepth 100000 in
theorem read_conf {fuel : Nat} {cs : List Value} {x : DataW H × List MemPlace} (h : DataW.trod enc Try.prog w base spare held fuel 37 cs = some x) :
   ∃ (E Z : Int) (G : Bool), cs = [.int .i64 E, .int .i64 Z, .bool G] ∧ (Lit.int .i64 E).wf = true ∧ (Lit.int .i64 Z).wf = true := by
 obtain ⟨xs, n, _, _, hl, hlen, hf⟩ := DataW.trod_struct Try.underlying37 h
 have h5 : Try.prog.cellsOf 37 = 3 := by kernel_rfl
 have c3 : Try.prog.cellsOf 3 = 1 := by kernel_rfl
 have c4 : Try.prog.cellsOf 4 = 1 := by kernel_rfl
 rw [h5] at hl
 match cs, hl with
 | [v0, v1, v2], _ =>
   match xs, hlen with
   | [y0, y1, y2], _ =>
     have r0 : DataW.trod enc Try.prog w base spare held n 3 (([v0, v1, v2].drop 0).take (Try.prog.cellsOf 3)) = some y0 := hf 0 _ rfl
     rw [c3] at r0
     have r1 : DataW.trod enc Try.prog w base spare held n 3 (([v0, v1, v2].drop 1).take (Try.prog.cellsOf 3)) = some y1 := hf 1 _ rfl
     rw [c3] at r1
     have r2 : DataW.trod enc Try.prog w base spare held n 4 (([v0, v1, v2].drop 2).take (Try.prog.cellsOf 4)) = some y2 := hf 2 _ rfl
     rw [c4] at r2
     obtain ⟨E, e0, _, z0⟩ := DataW.trod_int (cs := [v0]) Try.underlying3 r0
     obtain ⟨Z, e1, _, z1⟩ := DataW.trod_int (cs := [v1]) Try.underlying3 r1
     obtain ⟨G, e2, _⟩ := DataW.trod_bool (cs := [v2]) Try.underlying4 r2
     cases e0; cases e1; cases e2
     exact ⟨E, Z, G, rfl, z0, z1⟩
-- A way by value.
set_option maxRecDepth 100000 in
theorem open_conf {r : Reach} {b0 : Nat} {v : Value} {d : DataW H} {p : List MemPlace} (hv : Value.okWide Try.prog w r b0 37 v) (h : DataW.Trod enc Try.prog w base spare held 37 v d p) :
   ∃ (E Z : Int) (G : Bool), v = .agg #[.int .i64 E, .int .i64 Z, .bool G] ∧ (Lit.int .i64 E).wf = true ∧ (Lit.int .i64 Z).wf = true := by
 obtain ⟨cs, rfl, _⟩ := okWide_struct Try.underlying37 hv
 obtain ⟨fuel, hf⟩ := h
 obtain ⟨E, Z, G, e, z⟩ := read_conf hf
 refine ⟨E, Z, G, ?_, z⟩
 obtain ⟨l⟩ := cs
 have e' : l = [.int .i64 E, .int .i64 Z, .bool G] := by simpa [Value.cells] using e
 rw [e']
end

theorem sizeConfA : (Try.prog.info? 28).map (·.size) = some 3 := by kernel_rfl
set_option maxHeartbeats 1000000 in
theorem toConfig_at (E Z : Int) (G : Bool) (w : World) :
   Calls Try.prog 17 #[.agg #[.int .i64 E, .int .i64 Z, .bool G]] w fun e w' => e = .returned (.agg #[.int .i64 E, .int .i64 Z, .bool G]) ∧ Below w.heap.size w w' := by
 go_enter Try.func17, Try.ntmps17
 go_wp2_with fail
 exact bodyPost_ret (v := .agg #[.int .i64 E, .int .i64 Z, .bool G]) (results_cell_row Try.results17 _ _ (w.heap.size + 1) _ #[.int .i64 E, .int .i64 Z, .bool G] _ _ rfl (alloc_at3 _ _ _ _) Try.underlying28 rfl (by rw [sizeConfA]; rfl)) rfl ⟨rfl, (two_below0 _ _ _).alloc (by simp; omega) _⟩
end Go.Proofs.Ytkomnnijnggbpaa
/- The laws' helpers over cells: a copy, and how much is left of a bound. -/
namespace Go.Proofs.Ytkomnnijnggbpaa
open Go.RowKit
set_option linter.unusedVariables false

def szLeft (L : Int) (R C V : ByteArray) : Int := if (R.size : Int) + C.size + V.size ≤ L then L - R.size - C.size - V.size else -1
theorem szLeft_no {L : Int} {R C V : ByteArray} (h : L < (R.size : Int) + C.size + V.size) : szLeft L R C V = -1 := if_neg (by omega)
theorem szLeft_yes {L : Int} {R C V : ByteArray} (h : (R.size : Int) + C.size + V.size ≤ L) : szLeft L R C V = L - R.size - C.size - V.size := if_pos h

set_option maxHeartbeats 1000000 in
set_option maxRecDepth 100000 in
theorem szCell_at (R C : ByteArray) (T : Int) (G : Bool) (V : ByteArray) (L : Int) (h0 : 0 ≤ L) (h1 : L ≤ 1048576) (hR : R.size ≤ maxLen) (hC : C.size ≤ maxLen) (hV : V.size ≤ maxLen) (w : World) :
   Calls Try.prog 44 #[.agg #[.string R, .string C, .int .i64 T, .bool G, .string V], .int .i64 L] w fun e w' => e = .returned (.int .i64 (szLeft L R C V)) ∧ Below w.heap.size w w' := by
 unfold maxLen at hR hC hV
 by_cases c1 : L - (R.size : Int) < 0
 · have HS := Lib.hid (szLeft_no (L := L) (R := R) (C := C) (V := V) (by omega))
   go_enter Try.func44, Try.ntmps44
   go_wp2
   go_ret
   exact ⟨ret_int HS.out.symm, one_below _ _⟩
 by_cases c2 : L - (R.size : Int) - C.size < 0
 · have HS := Lib.hid (szLeft_no (L := L) (R := R) (C := C) (V := V) (by omega))
   go_enter Try.func44, Try.ntmps44
   go_wp2
   go_ret
   exact ⟨ret_int HS.out.symm, one_below _ _⟩
 by_cases c3 : L - (R.size : Int) - C.size - V.size < 0
 · have HS := Lib.hid (szLeft_no (L := L) (R := R) (C := C) (V := V) (by omega))
   go_enter Try.func44, Try.ntmps44
   go_wp2
   go_ret
   exact ⟨ret_int HS.out.symm, one_below _ _⟩
 have HS := Lib.hid (szLeft_yes (L := L) (R := R) (C := C) (V := V) (by omega))
 go_enter Try.func44, Try.ntmps44
 go_wp2
 go_ret
 exact ⟨ret_int HS.out.symm, one_below _ _⟩

theorem three_below0 (w : World) (o o' o'' : Obj) : Below w.heap.size w (((w.alloc o).alloc o').alloc o'') := (two_below0 w o o').alloc (by simp; omega) o''
set_option maxHeartbeats 1000000 in
set_option maxRecDepth 100000 in
theorem toCell_at (R C : ByteArray) (T : Int) (G : Bool) (V : ByteArray) (w : World) :
   Calls Try.prog 45 #[.agg #[.string R, .string C, .int .i64 T, .bool G, .string V]] w fun e w' => e = .returned (.agg #[.string R, .string C, .int .i64 T, .bool G, .string V]) ∧ Below w.heap.size w w' := by
 go_enter Try.func45, Try.ntmps45
 go_wp2_with fail
 exact bodyPost_ret (v := .agg #[.string R, .string C, .int .i64 T, .bool G, .string V]) (results_cell_row Try.results45 _ _ (w.heap.size + 1) _ #[.string R, .string C, .int .i64 T, .bool G, .string V] _ _ rfl (alloc_at3 _ _ _ _) Try.underlying36 rfl (by rw [sizeCel]; rfl)) rfl ⟨rfl, three_below0 _ _ _ _⟩
end Go.Proofs.Ytkomnnijnggbpaa
/- Cells that come in as arguments: one by value, and a slice of them. -/
namespace Go.Proofs.Ytkomnnijnggbpaa
open Go.ChangeShapes Go.WideShapes Go.Deep Go.RowKit
set_option linter.unusedVariables false

section
variable {H : Type} {enc : TypeId × Value → H} {w : World} {base : Nat} {spare : Nat → Bool} {held : Bool}
set_option maxRecDepth 100000 in
theorem read_cel {fuel : Nat} {cs : List Value} {x : DataW H × List MemPlace} (h : DataW.trod enc Try.prog w base spare held fuel 76 cs = some x) :
   ∃ (R C : ByteArray) (T : Int) (G : Bool) (V : ByteArray), cs = [.string R, .string C, .int .i64 T, .bool G, .string V] ∧ R.size ≤ maxLen ∧ C.size ≤ maxLen ∧ V.size ≤ maxLen ∧ (Lit.int .i64 T).wf = true := by
 obtain ⟨xs, n, _, _, hl, hlen, hf⟩ := DataW.trod_struct Try.underlying76 h
 have h5 : Try.prog.cellsOf 76 = 5 := by kernel_rfl
 have c9 : Try.prog.cellsOf 9 = 1 := by kernel_rfl
 have c3 : Try.prog.cellsOf 3 = 1 := by kernel_rfl
 have c4 : Try.prog.cellsOf 4 = 1 := by kernel_rfl
 rw [h5] at hl
 match cs, hl with
 | [v0, v1, v2, v3, v4], _ =>
   match xs, hlen with
   | [y0, y1, y2, y3, y4], _ =>
     have r0 : DataW.trod enc Try.prog w base spare held n 9 (([v0, v1, v2, v3, v4].drop 0).take (Try.prog.cellsOf 9)) = some y0 := hf 0 _ rfl
     rw [c9] at r0
     have r1 : DataW.trod enc Try.prog w base spare held n 9 (([v0, v1, v2, v3, v4].drop 1).take (Try.prog.cellsOf 9)) = some y1 := hf 1 _ rfl
     rw [c9] at r1
     have r2 : DataW.trod enc Try.prog w base spare held n 3 (([v0, v1, v2, v3, v4].drop 2).take (Try.prog.cellsOf 3)) = some y2 := hf 2 _ rfl
     rw [c3] at r2
     have r3 : DataW.trod enc Try.prog w base spare held n 4 (([v0, v1, v2, v3, v4].drop 3).take (Try.prog.cellsOf 4)) = some y3 := hf 3 _ rfl
     rw [c4] at r3
     have r4 : DataW.trod enc Try.prog w base spare held n 9 (([v0, v1, v2, v3, v4].drop 4).take (Try.prog.cellsOf 9)) = some y4 := hf 4 _ rfl
     rw [c9] at r4
     obtain ⟨R, e0, _, z0⟩ := DataW.trod_string (cs := [v0]) Try.underlying9 r0
     obtain ⟨C, e1, _, z1⟩ := DataW.trod_string (cs := [v1]) Try.underlying9 r1
     obtain ⟨T, e2, _, z2⟩ := DataW.trod_int (cs := [v2]) Try.underlying3 r2
     obtain ⟨G, e3, _⟩ := DataW.trod_bool (cs := [v3]) Try.underlying4 r3
     obtain ⟨V, e4, _, z4⟩ := DataW.trod_string (cs := [v4]) Try.underlying9 r4
     cases e0; cases e1; cases e2; cases e3; cases e4
     exact ⟨R, C, T, G, V, rfl, z0, z1, z4, z2⟩
-- A cell by value.
set_option maxRecDepth 100000 in
theorem open_cel {r : Reach} {b0 : Nat} {v : Value} {d : DataW H} {p : List MemPlace} (hv : Value.okWide Try.prog w r b0 76 v) (h : DataW.Trod enc Try.prog w base spare held 76 v d p) :
   ∃ (R C : ByteArray) (T : Int) (G : Bool) (V : ByteArray), v = .agg #[.string R, .string C, .int .i64 T, .bool G, .string V] ∧ R.size ≤ maxLen ∧ C.size ≤ maxLen ∧ V.size ≤ maxLen ∧ (Lit.int .i64 T).wf = true := by
 obtain ⟨cs, rfl, _⟩ := okWide_struct Try.underlying76 hv
 obtain ⟨fuel, hf⟩ := h
 obtain ⟨R, C, T, G, V, e, z⟩ := read_cel hf
 refine ⟨R, C, T, G, V, ?_, z⟩
 obtain ⟨l⟩ := cs
 have e' : l = [.string R, .string C, .int .i64 T, .bool G, .string V] := by simpa [Value.cells] using e
 rw [e']
end

def CelsIn (w : World) (a : Option Addr) (len cap : Nat) (xs : List Cel) : Prop :=
 xs.length = len ∧ ((a = none ∧ len = 0 ∧ cap = 0) ∨
 ∃ x, a = some x ∧ len ≤ cap ∧ cap ≤ maxLen ∧ ∀ (i : Nat) (y : Cel), xs[i]? = some y → y.row.size ≤ maxLen ∧ y.col.size ≤ maxLen ∧ y.value.size ≤ maxLen ∧ (Lit.int .i64 y.time).wf = true ∧
   w.cell? (x.add (i * 5)) = some (.string y.row) ∧ w.cell? (x.add (i * 5 + 1)) = some (.string y.col) ∧ w.cell? (x.add (i * 5 + 2)) = some (.int .i64 y.time) ∧ w.cell? (x.add (i * 5 + 3)) = some (.bool y.gone) ∧ w.cell? (x.add (i * 5 + 4)) = some (.string y.value))

theorem listOf {α : Type} (P : Nat → α → Prop) (n : Nat) (h : ∀ i, i < n → ∃ y, P i y) : ∃ xs : List α, xs.length = n ∧ ∀ (i : Nat) (y : α), xs[i]? = some y → P i y := by
 induction n with
 | zero => exact ⟨[], rfl, fun i y hi => by simp at hi⟩
 | succ n ih =>
   obtain ⟨xs, hl, hx⟩ := ih (fun i hi => h i (by omega))
   obtain ⟨y, hy⟩ := h n (by omega)
   refine ⟨xs ++ [y], by simp [hl], fun i z hi => ?_⟩
   by_cases hin : i < n
   · rw [List.getElem?_append_left (by omega)] at hi
     exact hx i z hi
   · rw [List.getElem?_append_right (by omega)] at hi
     have : i = n := by
       have := (List.getElem?_eq_some_iff.1 hi).1
       simp at this
       omega
     subst this
     rw [hl] at hi
     simp at hi
     subst hi
     exact hy

section
variable {H : Type} {enc : TypeId × Value → H} {w : World} {base : Nat} {spare : Nat → Bool} {held : Bool}
set_option maxRecDepth 100000 in
theorem open_cels {a : Option Addr} {len cap : Nat} {d : DataW H} {p : List MemPlace} (h : DataW.Trod enc Try.prog w base spare held 41 (.slice a len cap) d p) : ∃ xs, CelsIn w a len cap xs := by
 obtain ⟨fuel, hf⟩ := h
 have h5 : Try.prog.cellsOf 76 = 5 := by kernel_rfl
 rcases open_slice Try.underlying41 hf with ⟨hcs, _⟩ | ⟨x, l, c, m, n, D, Pl, hcs, _, hl, hm, hmm, _, hi⟩
 · simp [Value.cells] at hcs
   obtain ⟨rfl, rfl, rfl⟩ := hcs
   exact ⟨[], rfl, .inl ⟨rfl, rfl, rfl⟩⟩
 · simp [Value.cells] at hcs
   obtain ⟨rfl, rfl, rfl⟩ := hcs
   have hml : len ≤ m := by rw [hmm]; split <;> omega
   have hel : ∀ i, i < len → ∃ y : Cel, y.row.size ≤ maxLen ∧ y.col.size ≤ maxLen ∧ y.value.size ≤ maxLen ∧ (Lit.int .i64 y.time).wf = true ∧
       w.cell? (x.add (i * 5)) = some (.string y.row) ∧ w.cell? (x.add (i * 5 + 1)) = some (.string y.col) ∧ w.cell? (x.add (i * 5 + 2)) = some (.int .i64 y.time) ∧ w.cell? (x.add (i * 5 + 3)) = some (.bool y.gone) ∧ w.cell? (x.add (i * 5 + 4)) = some (.string y.value) := by
     intro i hil
     obtain ⟨cs', hc, ht⟩ := hi i (by omega)
     obtain ⟨R, C, T, G, V, rfl, z0, z1, z4, z2⟩ := read_cel ht
     rw [h5] at hc
     obtain ⟨_, _, hat⟩ := World.cells?_some hc
     refine ⟨⟨R, C, T, G, V⟩, z0, z1, z4, z2, ?_, ?_, ?_, ?_, ?_⟩
     · have := hat 0 (by omega); rw [Go.Deep.add_add] at this; simpa using this
     · have := hat 1 (by omega); rw [Go.Deep.add_add] at this; simpa using this
     · have := hat 2 (by omega); rw [Go.Deep.add_add] at this; simpa using this
     · have := hat 3 (by omega); rw [Go.Deep.add_add] at this; simpa using this
     · have := hat 4 (by omega); rw [Go.Deep.add_add] at this; simpa using this
   obtain ⟨xs, hxl, hxs⟩ := listOf _ len hel
   exact ⟨xs, hxl, .inr ⟨x, rfl, hl, hm, hxs⟩⟩
end
end Go.Proofs.Ytkomnnijnggbpaa
/- The laws' comparisons of cells and of lists of them. -/
namespace Go.Proofs.Ytkomnnijnggbpaa
open Go.RowKit
set_option linter.unusedVariables false

set_option maxHeartbeats 1000000 in
theorem eqCell_same (R C : ByteArray) (T : Int) (G : Bool) (V : ByteArray) (w : World) :
   Calls Try.prog 46 #[.agg #[.string R, .string C, .int .i64 T, .bool G, .string V], .agg #[.string R, .string C, .int .i64 T, .bool G, .string V]] w fun e w' => e = .returned (.bool true) ∧ Below w.heap.size w w' := by
 have h1 : (!R.toList == R.toList) = false := by simp
 have h2 : (!C.toList == C.toList) = false := by simp
 have h3 : (T != T) = false := by simp
 have h4 : (G != G) = false := by simp
 have h5 : (!V.toList == V.toList) = false := by simp
 go_enter Try.func46, Try.ntmps46
 go_wp2_with fail
 go_ret
 exact ⟨rfl, two_below0 _ _ _⟩

set_option maxHeartbeats 1000000 in
set_option maxRecDepth 100000 in
theorem eqCellS_same (a a' : Option Addr) (n c c' : Nat) (xs : List Cel) (hn : n ≤ 1048576) (w : World) (h : CelRow w a n c xs) (h' : CelRow w a' n c' xs) :
   Calls Try.prog 21 #[.slice a n c, .slice a' n c'] w fun e w' => e = .returned (.bool true) ∧ Below w.heap.size w w' := by
 have H1 := Lib.hid h
 have H2 := Lib.hid h'
 have hc := h.2.1
 have hc' := h'.2.1
 clear h h'
 go_enter Try.func21, Try.ntmps21
 go_wp2_with fail
 go_loopw [5] (fun ii wr => ∃ i : Nat, i ≤ n ∧ ii = .int .i64 i ∧ Below w.heap.size w wr) (fun ii _ => n - (intOf ii).toNat)
 case atStart => exact ⟨0, Nat.zero_le _, rfl, Below.refl _ _⟩
 case round =>
   obtain ⟨i, hi, rfl, hbel⟩ := hrel
   have RR := Lib.hid hbel
   clear hbel
   by_cases hlt : i < n
   · obtain ⟨⟨R, C, T, G, V⟩, hy⟩ : ∃ y, xs[i]? = some y := ⟨_, List.getElem?_eq_getElem (by rw [H1.out.1]; exact hlt)⟩
     obtain ⟨g, rfl, k5⟩ := H1.out.2.2 i _ hy
     obtain ⟨g', rfl, k5'⟩ := H2.out.2.2 i _ hy
     have M0 := Lib.hid (And.intro (k5.below RR.out) (k5'.below RR.out))
     have i1 : (i : Int) < (n : Int) := by omega
     clear hy k5 k5'
     go_wp2_with fail
     go_region_held3 (fun w' => (w'.cell? ⟨g, i * 5, none⟩ = some (.string R) ∧ w'.cell? ⟨g, i * 5 + 1, none⟩ = some (.string C) ∧ w'.cell? ⟨g, i * 5 + 2, none⟩ = some (.int .i64 T) ∧ w'.cell? ⟨g, i * 5 + 3, none⟩ = some (.bool G) ∧ w'.cell? ⟨g, i * 5 + 4, none⟩ = some (.string V)) ∧ w'.cell? ⟨g', i * 5, none⟩ = some (.string R) ∧ w'.cell? ⟨g', i * 5 + 1, none⟩ = some (.string C) ∧ w'.cell? ⟨g', i * 5 + 2, none⟩ = some (.int .i64 T) ∧ w'.cell? ⟨g', i * 5 + 3, none⟩ = some (.bool G) ∧ w'.cell? ⟨g', i * 5 + 4, none⟩ = some (.string V))
       (first | exact M1.out | exact M0.out)
       (first | (go_at_call 46; refine (eqCell_same R C T G V _).mono ?_; rintro e w1 ⟨rfl, hb1⟩; have M1 := Lib.hid (And.intro (Cel5.below (w := wr.drew) M0.out.1 hb1) (Cel5.below (w := wr.drew) M0.out.2 hb1)); have B1 := Lib.hid (RR.out.drew.trans (hb1.mono (by have := RR.out.size; simpa using this))); clear hb1))
     go_wp2
     go_roundw
     case rel => exact ⟨i + 1, by omega, by go_num, B1.out⟩
     case measure => simp [intOf]; omega
   · go_wp2
     go_ret
     exact ⟨rfl, RR.out⟩
def CelsAt (w : World) (a : Option Addr) (len cap : Nat) (xs : List Cel) : Prop :=
 xs.length = len ∧ len ≤ cap ∧ cap ≤ maxLen ∧ Fit xs ∧ ∀ (k : Nat) (y : Cel), xs[k]? = some y → ∃ b off, a = some ⟨b, off, none⟩ ∧ b < w.heap.size ∧
   w.cell? ⟨b, off + k * 5, none⟩ = some (.string y.row) ∧ w.cell? ⟨b, off + k * 5 + 1, none⟩ = some (.string y.col) ∧ w.cell? ⟨b, off + k * 5 + 2, none⟩ = some (.int .i64 y.time) ∧ w.cell? ⟨b, off + k * 5 + 3, none⟩ = some (.bool y.gone) ∧ w.cell? ⟨b, off + k * 5 + 4, none⟩ = some (.string y.value)
theorem addr_add (b off k : Nat) : (⟨b, off, none⟩ : Addr).add k = ⟨b, off + k, none⟩ := by
 unfold Addr.add; split
 · subst_vars; rfl
 · rfl
theorem cels_at {w : World} {a : Option Addr} {len cap : Nat} {xs : List Cel} (h : CelsIn w a len cap xs) : CelsAt w a len cap xs := by
 obtain ⟨hl, ⟨rfl, rfl, rfl⟩ | ⟨x, rfl, hlc, hm, hx⟩⟩ := h
 · have : xs = [] := List.length_eq_zero_iff.1 hl
   subst this
   exact ⟨rfl, Nat.le_refl _, by unfold maxLen; omega, fun y hy => by simp at hy, fun k y hk => by simp at hk⟩
 · refine ⟨hl, hlc, hm, fun y hy => ?_, fun k y hk => ?_⟩
   · obtain ⟨k, hk⟩ := List.mem_iff_getElem?.1 hy
     obtain ⟨h1, h2, h3, _⟩ := hx k y hk
     exact ⟨h1, h2, h3⟩
   · obtain ⟨_, _, _, _, c0, c1, c2, c3, c4⟩ := hx k y hk
     obtain ⟨b, off, spot⟩ := x
     obtain ⟨y0, hy0⟩ : ∃ y, xs[0]? = some y := ⟨_, List.getElem?_eq_getElem (by have := (List.getElem?_eq_some_iff.1 hk).1; omega)⟩
     have hs : spot = none := by simpa [Addr.add] using World.cell?_spot (hx 0 y0 hy0).2.2.2.2.1
     subst hs
     rw [addr_add] at c0 c1 c2 c3 c4
     exact ⟨b, off, rfl, cell_lt c0, c0, by rw [Nat.add_assoc]; exact c1, by rw [Nat.add_assoc]; exact c2, by rw [Nat.add_assoc]; exact c3, by rw [Nat.add_assoc]; exact c4⟩
theorem CelsAt.below {w w' : World} {a : Option Addr} {len cap : Nat} {xs : List Cel} (h : CelsAt w a len cap xs) (hb : Below w.heap.size w w') : CelsAt w' a len cap xs := by
 refine ⟨h.1, h.2.1, h.2.2.1, h.2.2.2.1, fun k y hk => ?_⟩
 obtain ⟨b, off, e, hlt, c0, c1, c2, c3, c4⟩ := h.2.2.2.2 k y hk
 exact ⟨b, off, e, Nat.lt_of_lt_of_le hlt hb.size, (hb.cell (p := ⟨b, off + k * 5, none⟩) hlt).trans c0, (hb.cell (p := ⟨b, off + k * 5 + 1, none⟩) hlt).trans c1, (hb.cell (p := ⟨b, off + k * 5 + 2, none⟩) hlt).trans c2, (hb.cell (p := ⟨b, off + k * 5 + 3, none⟩) hlt).trans c3, (hb.cell (p := ⟨b, off + k * 5 + 4, none⟩) hlt).trans c4⟩
theorem szLeft_bd {L : Int} (h0 : 0 ≤ L) (h1 : L ≤ 1048576) (R C V : ByteArray) : szLeft L R C V = -1 ∨ (0 ≤ szLeft L R C V ∧ szLeft L R C V ≤ 1048576) := by
 unfold szLeft
 split
 · right; omega
 · left; rfl

def SzIs (len : Nat) (w : World) (e : Ending) (w' : World) : Prop := ∃ m : Int, e = .returned (.int .i64 m) ∧ (m = -1 ∨ (0 ≤ m ∧ len ≤ 1048576)) ∧ Below w.heap.size w w'

set_option maxHeartbeats 1000000 in
set_option maxRecDepth 100000 in
theorem szCellS_at (a : Option Addr) (len cap : Nat) (xs : List Cel) (w : World) (h : CelsAt w a len cap xs) :
   Calls Try.prog 19 #[.slice a len cap, .int .i64 1048576] w (SzIs len w) := by
 have HA := Lib.hid h
 have hlc := h.2.1
 have hcm := h.2.2.1
 unfold maxLen at hcm
 clear h
 by_cases hfew : len ≤ 1048576
 · have hpos : ¬ ((1048576 : Int) - len < 0) := by omega
   go_enter Try.func19, Try.ntmps19
   go_wp2_with fail
   go_loopw [1, 5] (fun mm ii wr => ∃ (i : Nat) (m : Int), i ≤ len ∧ ii = .int .i64 i ∧ mm = .int .i64 m ∧ 0 ≤ m ∧ m ≤ 1048576 ∧ Below w.heap.size w wr) (fun _ ii _ => len - (intOf ii).toNat)
   case atStart => exact ⟨0, 1048576 - len, Nat.zero_le _, rfl, rfl, by omega, by omega, Below.refl _ _⟩
   case round =>
     obtain ⟨i, m, hi, rfl, rfl, hm0, hm1, hbel⟩ := hrel
     have RR := Lib.hid hbel
     clear hbel
     by_cases hlt : i < len
     · obtain ⟨⟨R, C, T, G, V⟩, hy⟩ : ∃ y, xs[i]? = some y := ⟨_, List.getElem?_eq_getElem (by rw [HA.out.1]; exact hlt)⟩
       obtain ⟨hR, hC, hV⟩ := HA.out.2.2.2.1.at hy
       obtain ⟨b, off, rfl, hb, c0, c1, c2, c3, c4⟩ := (HA.out.below RR.out).2.2.2.2 i _ hy
       have i1 : (i : Int) < (len : Int) := by omega
       have HS := Lib.hid (szLeft_bd hm0 hm1 R C V)
       clear hy
       go_wp2_with fail
       refine (szCell_at R C T G V m hm0 hm1 hR hC hV _).mono ?_
       rintro e w1 ⟨rfl, hb1⟩
       have B1 := Lib.hid (RR.out.trans (hb1.mono RR.out.size))
       obtain ⟨m', hm'⟩ : ∃ m', szLeft m R C V = m' := ⟨_, rfl⟩
       rw [hm'] at HS ⊢
       clear hm' hb1 c0 c1 c2 c3 c4
       rcases HS.out with hneg | ⟨hp0, hp1⟩
       · have hn : m' < 0 := by omega
         go_wp2
         go_ret
         exact ⟨-1, rfl, .inl rfl, B1.out⟩
       · have hn : ¬ (m' < 0) := by omega
         go_wp2
         go_roundw
         case rel => exact ⟨i + 1, m', by omega, by go_num, rfl, hp0, hp1, B1.out⟩
         case measure => simp [intOf]; omega
     · go_wp2
       go_ret
       exact ⟨m, rfl, .inr ⟨hm0, hfew⟩, RR.out⟩
 · have hneg : (1048576 : Int) - len < 0 := by omega
   go_enter Try.func19, Try.ntmps19
   go_wp2
   go_ret
   exact ⟨-1, rfl, .inl rfl, Below.refl _ _⟩

theorem take_set (xs : List Cel) (i n : Nat) (y : Cel) (hn : xs.length = n) (hy : xs[i]? = some y) : (xs.take i ++ List.replicate (n - i) zeroC).set i y = xs.take (i + 1) ++ List.replicate (n - (i + 1)) zeroC := by
 have hi := (List.getElem?_eq_some_iff.1 hy).1
 have hl : (xs.take i).length = i := by rw [List.length_take]; omega
 rw [List.set_append_right _ _ (by omega), hl, Nat.sub_self, show n - i = (n - (i + 1)) + 1 by omega, List.replicate_succ, List.set_cons_zero, List.take_add_one, hy]
 simp

set_option maxHeartbeats 1000000 in
set_option maxRecDepth 100000 in
theorem toCellS_at (a : Option Addr) (len cap : Nat) (xs : List Cel) (hfew : len ≤ 1048576) (w : World) (h : CelsAt w a len cap xs) :
   Calls Try.prog 20 #[.slice a len cap] w fun e w' => ∃ g, e = .returned (.slice (some ⟨g, 0, none⟩) len len) ∧ w.heap.size ≤ g ∧ CelBlock w' g xs ∧ Below w.heap.size w w' := by
 have HA := Lib.hid h
 have hlc := h.2.1
 have hcm := h.2.2.1
 unfold maxLen at hcm
 clear h
 obtain ⟨W, hmk, hblk, hbw⟩ := cels_made len w hfew
 have HW := Lib.hid (And.intro hblk hbw)
 clear hblk hbw
 go_enter Try.func20, Try.ntmps20
 go_wp2_with fail
 clear hmk
 go_loopw [4] (fun ii wr => ∃ i : Nat, i ≤ len ∧ ii = .int .i64 i ∧ CelBlock wr w.heap.size (xs.take i ++ List.replicate (len - i) zeroC) ∧ Below w.heap.size w wr) (fun ii _ => len - (intOf ii).toNat)
 case atStart => exact ⟨0, Nat.zero_le _, rfl, by simpa using HW.out.1, HW.out.2⟩
 case round =>
   obtain ⟨i, hi, rfl, hblk, hbel⟩ := hrel
   have RR := Lib.hid hbel
   have CB := Lib.hid hblk
   clear hbel hblk
   by_cases hlt : i < len
   · obtain ⟨⟨R, C, T, G, V⟩, hy⟩ : ∃ y, xs[i]? = some y := ⟨_, List.getElem?_eq_getElem (by rw [HA.out.1]; exact hlt)⟩
     obtain ⟨b, off, rfl, hb, c0, c1, c2, c3, c4⟩ := (HA.out.below RR.out).2.2.2.2 i _ hy
     have i1 : (i : Int) < (len : Int) := by omega
     have HTS := Lib.hid (take_set xs i len _ HA.out.1 hy)
     have HLN := Lib.hid (show i < (xs.take i ++ List.replicate (len - i) zeroC).length by rw [List.length_append, List.length_take, List.length_replicate, HA.out.1]; omega)
     clear hy
     go_wp2_with fail
     refine (toCell_at R C T G V _).mono ?_
     rintro e w1 ⟨rfl, hb1⟩
     have CB1 := Lib.hid (CB.out.below hb1)
     have B1 := Lib.hid (RR.out.trans (hb1.mono RR.out.size))
     clear hb1 c0 c1 c2 c3 c4
     obtain ⟨y0, hy0⟩ : ∃ y, (xs.take i ++ List.replicate (len - i) zeroC)[i]? = some y := ⟨_, List.getElem?_eq_getElem HLN.out⟩
     have h5 := CB1.out.cell hy0
     unfold Cel5 at h5
     obtain ⟨d0, d1, d2, d3, d4⟩ := h5
     have f0 := CB1.out.frozen (i * 5)
     have f1 := CB1.out.frozen (i * 5 + 1)
     have f2 := CB1.out.frozen (i * 5 + 2)
     have f3 := CB1.out.frozen (i * 5 + 3)
     have f4 := CB1.out.frozen (i * 5 + 4)
     clear hy0
     go_wp2_with fail
     go_roundw
     case rel => exact ⟨i + 1, by omega, by go_num, by rw [← HTS.out]; exact CB1.out.set ⟨R, C, T, G, V⟩ HLN.out, set5i_below B1.out (Nat.le_refl _) _ _ _ _ _ _⟩
     case measure => simp [intOf]; omega
   · obtain rfl : i = len := by omega
     have HE := Lib.hid (show xs.take i ++ List.replicate (i - i) zeroC = xs by rw [List.take_of_length_le (by rw [HA.out.1]; omega), Nat.sub_self]; simp)
     go_wp2
     go_ret
     exact ⟨w.heap.size, rfl, Nat.le_refl _, by rw [← HE.out]; exact CB.out, RR.out⟩
end Go.Proofs.Ytkomnnijnggbpaa
