/- The model's draws of cells: some cell of short texts. -/
import Derived.Test.YtgonnibakkabjaaDraws
import Derived.Test.YtgonnibakkabjaaCellA
import Derived.Test.YtgonnibakkabjaaRowsA
namespace Go.Proofs.Ytgonnibakkabjaa
open Go.RowKit
set_option linter.unusedVariables false

/-- A cell of short texts. -/
def SmallC (x : Cel) : Prop := x.row.size ≤ 40 ∧ x.col.size ≤ 40 ∧ x.value.size ≤ 40 ∧ -1 ≤ x.time ∧ x.time ≤ 1000000001
/-- Some cell, and the cursor somewhere behind. -/
def SomeCel (T p : Nat) (a : Option Addr) (len cap : Nat) (zs : List Int) (w : World) (e : Ending) (w' : World) : Prop :=
  ∃ (x : Cel) (i : Nat) (h : Int), SmallC x ∧ e = .returned (.agg #[.string x.row, .string x.col, .int .i64 x.time, .bool x.gone, .string x.value]) ∧ CurAt w' T p a len cap zs i h ∧ w.grownBy w' (some p)
theorem grown_two {w w1 w2 : World} {p : Nat} (h : w.grownBy w1 (some p)) (h2 : w1.grownBy w2 (some p)) : w.grownBy w2 (some p) :=
  ⟨h2.os.trans h.os, h2.tape.trans h.tape, h2.output.trans h.output, Nat.le_trans h.size h2.size, fun k hk hne => (h2.block k (by have := h.size; omega) hne).trans (h.block k hk hne)⟩
/-- A block that isn't the cursor's is kept. -/
theorem grown_blk {w w' : World} {p g : Nat} {o : Obj} (hg : w.grownBy w' (some p)) (h : w.heap[g]? = some o) (hne : g ≠ p) : w'.heap[g]? = some o := (hg.block g (Array.getElem?_eq_some_iff.1 h).1 (by simpa using hne)).trans h
/-- What is written into a new block. -/
theorem grown_set5 {w w' : World} {p g : Nat} (h : w.grownBy w' (some p)) (hg : w.heap.size ≤ g) (v0 v1 v2 v3 v4 : Value) : w.grownBy (((((w'.setCell ⟨g, 0, none⟩ v0).setCell ⟨g, 1, none⟩ v1).setCell ⟨g, 2, none⟩ v2).setCell ⟨g, 3, none⟩ v3).setCell ⟨g, 4, none⟩ v4) (some p) := by
  have h5 := set5_below (Below.refl w.heap.size w') hg v0 v1 v2 v3 v4
  exact ⟨h5.os.trans h.os, h5.tape.trans h.tape, h5.output.trans h.output, Nat.le_trans h.size h5.size, fun k hk hne => (h5.block k hk).trans (h.block k hk hne)⟩
theorem grown_set1 {w w' : World} {p g k : Nat} (h : w.grownBy w' (some p)) (hg : w.heap.size ≤ g) (v : Value) : w.grownBy (w'.setCell ⟨g, k, none⟩ v) (some p) := by
  have h5 : Below w.heap.size w' (w'.setCell ⟨g, k, none⟩ v) := (Below.refl w.heap.size w').setCell hg v
  exact ⟨h5.os.trans h.os, h5.tape.trans h.tape, h5.output.trans h.output, Nat.le_trans h.size h5.size, fun k hk hne => (h5.block k hk).trans (h.block k hk hne)⟩
theorem grown_new1 {w w' : World} {p : Nat} (h : w.grownBy w' (some p)) (o : Obj) : w.grownBy (w'.alloc o) (some p) := grown_two h (World.grownBy_alloc w' o (some p))
/-- A cursor's row lies below what is made behind it. -/
theorem CurAt.rowlt {w : World} {T p : Nat} {a : Option Addr} {len cap : Nat} {zs : List Int} {i : Nat} {h : Int} (c : CurAt w T p a len cap zs i h) : ∀ x, a = some x → x.block < w.heap.size ∨ len = 0 := by
  intro x hx
  rcases Nat.eq_zero_or_pos len with h0 | hpos
  · exact .inr h0
  · obtain ⟨b, off, hb, hlt, _⟩ := c.bytes.2 0 hpos
    rw [hb] at hx
    cases hx
    exact .inl hlt
theorem CurAt.set {w w' : World} {T p : Nat} {a : Option Addr} {len cap : Nat} {zs : List Int} {i : Nat} {h : Int} (c : CurAt w' T p a len cap zs i h) {B : Nat} (hr : ∀ x, a = some x → x.block < B ∨ len = 0) (hp : p < B) {g : Nat} (hg : B ≤ g) (k : Nat) (v : Value) : CurAt (w'.setCell ⟨g, k, none⟩ v) T p a len cap zs i h :=
  c.kept (grown_set w' g k v) (by simp; omega) (fun x hx => by rcases hr x hx with h | h; exact .inl (by simp; omega); exact .inr h)
theorem CurAt.set5 {w w' : World} {T p : Nat} {a : Option Addr} {len cap : Nat} {zs : List Int} {i : Nat} {h : Int} (c : CurAt w' T p a len cap zs i h) {B : Nat} (hr : ∀ x, a = some x → x.block < B ∨ len = 0) (hp : p < B) {g : Nat} (hg : B ≤ g) (v0 v1 v2 v3 v4 : Value) :
    CurAt (((((w'.setCell ⟨g, 0, none⟩ v0).setCell ⟨g, 1, none⟩ v1).setCell ⟨g, 2, none⟩ v2).setCell ⟨g, 3, none⟩ v3).setCell ⟨g, 4, none⟩ v4) T p a len cap zs i h :=
  ((((c.set (w := w) hr hp hg 0 v0).set (w := w) hr hp hg 1 v1).set (w := w) hr hp hg 2 v2).set (w := w) hr hp hg 3 v3).set (w := w) hr hp hg 4 v4
theorem CurAt.new {w : World} {T p : Nat} {a : Option Addr} {len cap : Nat} {zs : List Int} {i : Nat} {h : Int} (c : CurAt w T p a len cap zs i h) (o : Obj) : CurAt (w.alloc o) T p a len cap zs i h := c.kept (World.grownBy_alloc _ _ none) (by simp) (fun _ _ => Or.inl (by simp))


def rowTexts : List ByteArray := [⟨#[97]⟩, ⟨#[97, 112, 112, 108, 101]⟩, ⟨#[97, 112, 112, 108, 101, 115]⟩, ⟨#[98]⟩, ⟨#[114, 111, 119, 49]⟩, ⟨#[114, 111, 119, 49, 48]⟩, ⟨#[114, 111, 119, 50]⟩, ⟨#[122, 111, 111]⟩]
def colTexts : List ByteArray := [⟨#[120]⟩, ⟨#[121]⟩, ⟨#[115, 105, 122, 101]⟩]

set_option maxHeartbeats 1000000 in
theorem l04Row_at (T p : Nat) (a : Option Addr) (len cap : Nat) (zs : List Int) (i : Nat) (h : Int) (w : World) (cu : CurAt w T p a len cap zs i h) :
    Calls Try.prog 58 #[.pointer (some ⟨p, 0, none⟩)] w (SomeStr (fun x => x.size ≤ 40) T p a len cap zs w) := by
  have HC := Lib.hid cu
  clear cu
  go_enter Try.func58, Try.ntmps58
  go_wp2_with fail
  refine (l01Pick_at (fun x => x.size ≤ 40) T p a len cap zs i h w.heap.size 8 8 _ (HC.out.new _) (by omega) (by omega) (by simp) (by have := HC.out.lt; omega) (new_strs w rowTexts 9 (by decide))).mono ?_
  rintro e w3 ⟨x, i3, h3, hx, rfl, c3, g3⟩
  have C3 := Lib.hid c3
  clear c3
  go_wp2
  go_ret
  exact ⟨x, i3, h3, hx, rfl, C3.out, grown_two (World.grownBy_alloc _ _ _) g3⟩
set_option maxHeartbeats 1000000 in
theorem l04Col_at (T p : Nat) (a : Option Addr) (len cap : Nat) (zs : List Int) (i : Nat) (h : Int) (w : World) (cu : CurAt w T p a len cap zs i h) :
    Calls Try.prog 59 #[.pointer (some ⟨p, 0, none⟩)] w (SomeStr (fun x => x.size ≤ 40) T p a len cap zs w) := by
  have HC := Lib.hid cu
  clear cu
  go_enter Try.func59, Try.ntmps59
  go_wp2_with fail
  refine (l01Pick_at (fun x => x.size ≤ 40) T p a len cap zs i h w.heap.size 3 3 _ (HC.out.new _) (by omega) (by omega) (by simp) (by have := HC.out.lt; omega) (new_strs w colTexts 9 (by decide))).mono ?_
  rintro e w3 ⟨x, i3, h3, hx, rfl, c3, g3⟩
  have C3 := Lib.hid c3
  clear c3
  go_wp2
  go_ret
  exact ⟨x, i3, h3, hx, rfl, C3.out, grown_two (World.grownBy_alloc _ _ _) g3⟩

def valTexts : List ByteArray := [⟨#[]⟩, ⟨#[118]⟩, ⟨#[118, 97, 108, 117, 101]⟩, ⟨#[0, 255]⟩, ⟨#[97, 32, 108, 111, 110, 103, 32, 118, 97, 108, 117, 101, 44, 32, 97, 32, 108, 111, 110, 103, 32, 118, 97, 108, 117, 101]⟩]

set_option maxHeartbeats 2000000 in
set_option maxRecDepth 100000 in
theorem l04Make_at (T p : Nat) (a : Option Addr) (len cap : Nat) (zs : List Int) (i : Nat) (h : Int) (w : World) (cu : CurAt w T p a len cap zs i h) :
    Calls Try.prog 89 #[.pointer (some ⟨p, 0, none⟩)] w (SomeCel T p a len cap zs w) := by
  have hpl := cu.lt
  have HL := Lib.hid cu.rowlt
  have HC := Lib.hid (cu.new (.cells #[.string ⟨#[]⟩, .string ⟨#[]⟩, .int .i64 0, .bool false, .string ⟨#[]⟩] 38))
  have O0 := Lib.hid (alloc_at w (.cells #[.string ⟨#[]⟩, .string ⟨#[]⟩, .int .i64 0, .bool false, .string ⟨#[]⟩] 38))
  have G0 := Lib.hid (World.grownBy_alloc w (.cells #[.string ⟨#[]⟩, .string ⟨#[]⟩, .int .i64 0, .bool false, .string ⟨#[]⟩] 38) (some p))
  clear cu
  go_enter Try.func89, Try.ntmps89
  go_wp2_with fail
  refine (l04Row_at T p a len cap zs i h _ HC.out).mono ?_
  rintro e w1 ⟨R, i1, h1, hR, rfl, c1, g1⟩
  have C1 := Lib.hid c1
  have O1 := Lib.hid (grown_blk g1 O0.out (by omega))
  have G1 := Lib.hid (grown_two G0.out g1)
  clear c1 g1
  go_wp2_with fail
  refine (l04Col_at T p a len cap zs i1 h1 _ C1.out).mono ?_
  rintro e w2 ⟨C, i2, h2, hC, rfl, c2, g2⟩
  have C2 := Lib.hid (c2.new (.cells #[.int .i64 0, .int .i64 1, .int .i64 5, .int .i64 7, .int .i64 300, .int .i64 1000000000] 3))
  have O2 := Lib.hid ((alloc_old w2 (.cells #[.int .i64 0, .int .i64 1, .int .i64 5, .int .i64 7, .int .i64 300, .int .i64 1000000000] 3) (Array.getElem?_eq_some_iff.1 (grown_blk g2 O1.out (by omega))).1).trans (grown_blk g2 O1.out (by omega)))
  have G2 := Lib.hid (grown_new1 (grown_two G1.out g2) (.cells #[.int .i64 0, .int .i64 1, .int .i64 5, .int .i64 7, .int .i64 300, .int .i64 1000000000] 3))
  have P2 := Lib.hid c2.lt
  clear c2 g2
  go_wp2_with fail
  refine (l01PickInt_at (fun x => -1 ≤ x ∧ x ≤ 1000000001) T p a len cap zs i2 h2 w2.heap.size 6 6 _ C2.out (by omega) (by omega) (by simp) (by have := P2.out; omega) (new_ints w2 [0, 1, 5, 7, 300, 1000000000] 3 (by decide))).mono ?_
  rintro e w3 ⟨t, i3, h3, ht, rfl, c3, g3⟩
  have C3 := Lib.hid (c3.new (.cells #[.string R, .string C, .int .i64 t, .bool false, .string ⟨#[]⟩] 38))
  have O3 := Lib.hid ((alloc_old w3 (.cells #[.string R, .string C, .int .i64 t, .bool false, .string ⟨#[]⟩] 38) (Array.getElem?_eq_some_iff.1 (grown_blk g3 O2.out (by omega))).1).trans (grown_blk g3 O2.out (by omega)))
  have X3 := Lib.hid (alloc_at w3 (.cells #[.string R, .string C, .int .i64 t, .bool false, .string ⟨#[]⟩] 38))
  have G3 := Lib.hid (grown_new1 (grown_two G2.out g3) (.cells #[.string R, .string C, .int .i64 t, .bool false, .string ⟨#[]⟩] 38))
  have P3 := Lib.hid c3.lt
  have Z3 := Lib.hid (show w.heap.size < w3.heap.size from (Array.getElem?_eq_some_iff.1 (grown_blk g3 O2.out (by omega))).1)
  clear c3 g3
  go_wp2_with fail
  refine (l01Once_at T p a len cap zs i3 h3 5 _ C3.out (by omega) (by omega)).mono ?_
  rintro e w4 ⟨b, i4, h4, rfl, c4, g4⟩
  have C4 := Lib.hid c4
  have O4 := Lib.hid (grown_blk g4 O3.out (by omega))
  have X4 := Lib.hid (grown_blk g4 X3.out (by have := P3.out; omega))
  have G4 := Lib.hid (grown_two G3.out g4)
  clear c4 g4
  cases b
  · have C4v := Lib.hid (C4.out.new (.cells #[.string ⟨#[]⟩, .string ⟨#[118]⟩, .string ⟨#[118, 97, 108, 117, 101]⟩, .string ⟨#[0, 255]⟩, .string ⟨#[97, 32, 108, 111, 110, 103, 32, 118, 97, 108, 117, 101, 44, 32, 97, 32, 108, 111, 110, 103, 32, 118, 97, 108, 117, 101]⟩] 9))
    have L4 := Lib.hid (show w3.heap.size < w4.heap.size from (Array.getElem?_eq_some_iff.1 X4.out).1)
    have P4 := Lib.hid C4.out.lt
    go_wp2_with fail
    refine (l01Pick_at (fun x => x.size ≤ 40) T p a len cap zs i4 h4 w4.heap.size 5 5 _ C4v.out (by omega) (by omega) (by simp) (by have := P4.out; omega) (new_strs w4 valTexts 9 (by decide))).mono ?_
    rintro e w5 ⟨V, i5, h5, hV, rfl, c5, g5⟩
    have C5 := Lib.hid c5
    have O5 := Lib.hid (grown_blk g5 ((alloc_old w4 _ (by have := L4.out; have := Z3.out; omega)).trans O4.out) (by omega))
    have X5 := Lib.hid (grown_blk g5 ((alloc_old w4 _ L4.out).trans X4.out) (by have := P3.out; omega))
    have G5 := Lib.hid (grown_two (grown_new1 G4.out _) g5)
    clear c5 g5
    obtain ⟨x5, y0, y1, y2, y3, y4⟩ := blk5 X5.out
    obtain ⟨o5, z0, z1, z2, z3, z4⟩ := blk5 O5.out
    unfold One5 at x5 o5
    obtain ⟨a0, a1, a2, a3, a4⟩ := x5
    obtain ⟨b0, b1, b2, b3, b4⟩ := o5
    have hne : w3.heap.size ≠ w.heap.size := by have := Z3.out; omega
    have hne' : w.heap.size ≠ w3.heap.size := by have := Z3.out; omega
    go_wp2_with fail
    refine bodyPost_ret (v := .agg #[.string R, .string C, .int .i64 t, .bool false, .string V]) (results_cell_row Try.results89 _ _ w.heap.size _ #[.string R, .string C, .int .i64 t, .bool false, .string V] _ _ rfl (set5 ((Below.heap_setCell _ _ _ _ hne').trans O5.out) _ _ _ _ _) Try.underlying38 rfl (by rw [sizeCel]; rfl)) rfl ?_
    exact ⟨⟨R, C, t, false, V⟩, i5, h5, ⟨hR, hC, hV, ht⟩, rfl, (C5.out.set (w := w) HL.out hpl (by have := Z3.out; omega) _ _).set5 (w := w) HL.out hpl (Nat.le_refl _) _ _ _ _ _, grown_set5 (grown_set1 G5.out (by have := Z3.out; omega) _) (Nat.le_refl _) _ _ _ _ _⟩
  · obtain ⟨x5, y0, y1, y2, y3, y4⟩ := blk5 X4.out
    obtain ⟨o5, z0, z1, z2, z3, z4⟩ := blk5 O4.out
    unfold One5 at x5 o5
    obtain ⟨a0, a1, a2, a3, a4⟩ := x5
    obtain ⟨b0, b1, b2, b3, b4⟩ := o5
    have hne : w3.heap.size ≠ w.heap.size := by have := Z3.out; omega
    have hne' : w.heap.size ≠ w3.heap.size := by have := Z3.out; omega
    go_wp2_with fail
    refine bodyPost_ret (v := .agg #[.string R, .string C, .int .i64 t, .bool true, .string ⟨#[]⟩]) (results_cell_row Try.results89 _ _ w.heap.size _ #[.string R, .string C, .int .i64 t, .bool true, .string ⟨#[]⟩] _ _ rfl (set5 ((Below.heap_setCell _ _ _ _ hne').trans O4.out) _ _ _ _ _) Try.underlying38 rfl (by rw [sizeCel]; rfl)) rfl ?_
    exact ⟨⟨R, C, t, true, ⟨#[]⟩⟩, i4, h4, ⟨hR, hC, show (⟨#[]⟩ : ByteArray).size ≤ 40 by decide, ht⟩, rfl, (C4.out.set (w := w) HL.out hpl (by have := Z3.out; omega) _ _).set5 (w := w) HL.out hpl (Nat.le_refl _) _ _ _ _ _, grown_set5 (grown_set1 G4.out (by have := Z3.out; omega) _) (Nat.le_refl _) _ _ _ _ _⟩
end Go.Proofs.Ytgonnibakkabjaa
