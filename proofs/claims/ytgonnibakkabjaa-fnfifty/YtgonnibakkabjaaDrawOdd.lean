/- The model's draws of odd cells. -/
import Derived.Test.YtgonnibakkabjaaDrawCell
namespace Go.Proofs.Ytgonnibakkabjaa
open Go.RowKit
set_option linter.unusedVariables false

def oddRows : List ByteArray := [⟨#[]⟩, ⟨#[97, 32, 98]⟩, ⟨#[97, 98, 99, 100, 101, 102, 103, 104, 105, 106, 107, 108, 109, 110, 111, 112]⟩, ⟨#[97, 98, 99, 100, 101, 102, 103, 104, 105, 106, 107, 108, 109, 110, 111, 112, 113]⟩, ⟨#[0]⟩]
def oddCols : List ByteArray := [⟨#[]⟩, ⟨#[255]⟩, ⟨#[126]⟩]

set_option maxHeartbeats 4000000 in
set_option maxRecDepth 100000 in
theorem l04Odd_at (T p : Nat) (a : Option Addr) (len cap : Nat) (zs : List Int) (i : Nat) (h : Int) (w : World) (cu : CurAt w T p a len cap zs i h) :
    Calls Try.prog 69 #[.pointer (some ⟨p, 0, none⟩)] w (SomeCel T p a len cap zs w) := by
  have hpl := cu.lt
  have HL := Lib.hid cu.rowlt
  have HC := Lib.hid (cu.new (.cells #[.string ⟨#[]⟩, .string ⟨#[]⟩, .int .i64 0, .bool false, .string ⟨#[]⟩] 38))
  have O0 := Lib.hid (alloc_at w (.cells #[.string ⟨#[]⟩, .string ⟨#[]⟩, .int .i64 0, .bool false, .string ⟨#[]⟩] 38))
  have G0 := Lib.hid (World.grownBy_alloc w (.cells #[.string ⟨#[]⟩, .string ⟨#[]⟩, .int .i64 0, .bool false, .string ⟨#[]⟩] 38) (some p))
  clear cu
  go_enter Try.func69, Try.ntmps69
  go_wp2_with fail
  refine (l04Make_at T p a len cap zs i h _ HC.out).mono ?_
  rintro e w1 ⟨⟨R, C, t, G, V⟩, i1, h1, ⟨hR, hC, hV, ht0, ht1⟩, rfl, c1, g1⟩
  have P1 := Lib.hid c1.lt
  have Z1 := Lib.hid (show w.heap.size < w1.heap.size from (Array.getElem?_eq_some_iff.1 (grown_blk g1 O0.out (by omega))).1)
  have C1 := Lib.hid (c1.new (.cells #[.string R, .string C, .int .i64 t, .bool G, .string V] 38))
  have O1 := Lib.hid ((alloc_old w1 (.cells #[.string R, .string C, .int .i64 t, .bool G, .string V] 38) Z1.out).trans (grown_blk g1 O0.out (by omega)))
  have X1 := Lib.hid (alloc_at w1 (.cells #[.string R, .string C, .int .i64 t, .bool G, .string V] 38))
  have G1 := Lib.hid (grown_new1 (grown_two G0.out g1) (.cells #[.string R, .string C, .int .i64 t, .bool G, .string V] 38))
  have HS := Lib.hid (And.intro hR (And.intro hC (And.intro hV (And.intro ht0 ht1))))
  clear c1 g1 hR hC hV ht0 ht1
  go_wp2_with fail
  refine (l01Below_any T p a len cap zs i1 h1 14 _ C1.out (by omega) (by omega)).mono ?_
  rintro e w3 ⟨y, i3, h3, hy0, hy1, rfl, c3, g3⟩
  have C3 := Lib.hid c3
  have O3 := Lib.hid (grown_blk g3 O1.out (by omega))
  have X3 := Lib.hid (grown_blk g3 X1.out (by have := P1.out; omega))
  have G3 := Lib.hid (grown_two G1.out g3)
  clear c3 g3
  rcases (show y = 0 ∨ y = 1 ∨ y = 2 ∨ y = 3 ∨ 4 ≤ y by omega) with hk | hk | hk | hk | hk
  · skip
    have C3v := Lib.hid (C3.out.new (.cells #[.string ⟨#[]⟩, .string ⟨#[97, 32, 98]⟩, .string ⟨#[97, 98, 99, 100, 101, 102, 103, 104, 105, 106, 107, 108, 109, 110, 111, 112]⟩, .string ⟨#[97, 98, 99, 100, 101, 102, 103, 104, 105, 106, 107, 108, 109, 110, 111, 112, 113]⟩, .string ⟨#[0]⟩] 9))
    have L3 := Lib.hid (show w1.heap.size < w3.heap.size from (Array.getElem?_eq_some_iff.1 X3.out).1)
    have P3 := Lib.hid C3.out.lt
    subst hk
    go_wp2_with fail
    refine (l01Pick_at (fun x => x.size ≤ 40) T p a len cap zs i3 h3 w3.heap.size 5 5 _ C3v.out (by omega) (by omega) (by simp) (by have := P3.out; omega) (new_strs w3 oddRows 9 (by decide))).mono ?_
    rintro e w4 ⟨N, i4, h4, hN, rfl, c4, g4⟩
    have C4 := Lib.hid c4
    have O4 := Lib.hid (grown_blk g4 ((alloc_old w3 _ (by have := L3.out; have := Z1.out; omega)).trans O3.out) (by omega))
    have X4 := Lib.hid (grown_blk g4 ((alloc_old w3 _ L3.out).trans X3.out) (by have := P1.out; omega))
    have G4 := Lib.hid (grown_two (grown_new1 G3.out _) g4)
    clear c4 g4
    obtain ⟨x5, y0, y1, y2, y3, y4⟩ := blk5 X4.out
    obtain ⟨o5, z0, z1, z2, z3, z4⟩ := blk5 O4.out
    unfold One5 at x5 o5
    obtain ⟨a0, a1, a2, a3, a4⟩ := x5
    obtain ⟨b0, b1, b2, b3, b4⟩ := o5
    have hne : w1.heap.size ≠ w.heap.size := by have := Z1.out; omega
    have hne' : w.heap.size ≠ w1.heap.size := by have := Z1.out; omega
    go_wp2_with fail
    refine bodyPost_ret (v := .agg #[.string N, .string C, .int .i64 t, .bool G, .string V]) (results_cell_row Try.results69 _ _ w.heap.size _ #[.string N, .string C, .int .i64 t, .bool G, .string V] _ _ rfl (set5 ((Below.heap_setCell _ _ _ _ hne').trans O4.out) _ _ _ _ _) Try.underlying38 rfl (by rw [sizeCel]; rfl)) rfl ?_
    exact ⟨⟨N, C, t, G, V⟩, i4, h4, ⟨hN, HS.out.2⟩, rfl, (C4.out.set (w := w) HL.out hpl (by have := Z1.out; omega) _ _).set5 (w := w) HL.out hpl (Nat.le_refl _) _ _ _ _ _, grown_set5 (grown_set1 G4.out (by have := Z1.out; omega) _) (Nat.le_refl _) _ _ _ _ _⟩
  · skip
    have C3v := Lib.hid (C3.out.new (.cells #[.string ⟨#[]⟩, .string ⟨#[255]⟩, .string ⟨#[126]⟩] 9))
    have L3 := Lib.hid (show w1.heap.size < w3.heap.size from (Array.getElem?_eq_some_iff.1 X3.out).1)
    have P3 := Lib.hid C3.out.lt
    subst hk
    go_wp2_with fail
    refine (l01Pick_at (fun x => x.size ≤ 40) T p a len cap zs i3 h3 w3.heap.size 3 3 _ C3v.out (by omega) (by omega) (by simp) (by have := P3.out; omega) (new_strs w3 oddCols 9 (by decide))).mono ?_
    rintro e w4 ⟨N, i4, h4, hN, rfl, c4, g4⟩
    have C4 := Lib.hid c4
    have O4 := Lib.hid (grown_blk g4 ((alloc_old w3 _ (by have := L3.out; have := Z1.out; omega)).trans O3.out) (by omega))
    have X4 := Lib.hid (grown_blk g4 ((alloc_old w3 _ L3.out).trans X3.out) (by have := P1.out; omega))
    have G4 := Lib.hid (grown_two (grown_new1 G3.out _) g4)
    clear c4 g4
    obtain ⟨x5, y0, y1, y2, y3, y4⟩ := blk5 X4.out
    obtain ⟨o5, z0, z1, z2, z3, z4⟩ := blk5 O4.out
    unfold One5 at x5 o5
    obtain ⟨a0, a1, a2, a3, a4⟩ := x5
    obtain ⟨b0, b1, b2, b3, b4⟩ := o5
    have hne : w1.heap.size ≠ w.heap.size := by have := Z1.out; omega
    have hne' : w.heap.size ≠ w1.heap.size := by have := Z1.out; omega
    go_wp2_with fail
    refine bodyPost_ret (v := .agg #[.string R, .string N, .int .i64 t, .bool G, .string V]) (results_cell_row Try.results69 _ _ w.heap.size _ #[.string R, .string N, .int .i64 t, .bool G, .string V] _ _ rfl (set5 ((Below.heap_setCell _ _ _ _ hne').trans O4.out) _ _ _ _ _) Try.underlying38 rfl (by rw [sizeCel]; rfl)) rfl ?_
    exact ⟨⟨R, N, t, G, V⟩, i4, h4, ⟨HS.out.1, hN, HS.out.2.2⟩, rfl, (C4.out.set (w := w) HL.out hpl (by have := Z1.out; omega) _ _).set5 (w := w) HL.out hpl (Nat.le_refl _) _ _ _ _ _, grown_set5 (grown_set1 G4.out (by have := Z1.out; omega) _) (Nat.le_refl _) _ _ _ _ _⟩
  · skip
    have C3v := Lib.hid (C3.out.new (.cells #[.int .i64 (-1), .int .i64 1000000001] 3))
    have L3 := Lib.hid (show w1.heap.size < w3.heap.size from (Array.getElem?_eq_some_iff.1 X3.out).1)
    have P3 := Lib.hid C3.out.lt
    subst hk
    go_wp2_with fail
    refine (l01PickInt_at (fun x => -1 ≤ x ∧ x ≤ 1000000001) T p a len cap zs i3 h3 w3.heap.size 2 2 _ C3v.out (by omega) (by omega) (by simp) (by have := P3.out; omega) (new_ints w3 [-1, 1000000001] 3 (by decide))).mono ?_
    rintro e w4 ⟨N, i4, h4, hN, rfl, c4, g4⟩
    have C4 := Lib.hid c4
    have O4 := Lib.hid (grown_blk g4 ((alloc_old w3 _ (by have := L3.out; have := Z1.out; omega)).trans O3.out) (by omega))
    have X4 := Lib.hid (grown_blk g4 ((alloc_old w3 _ L3.out).trans X3.out) (by have := P1.out; omega))
    have G4 := Lib.hid (grown_two (grown_new1 G3.out _) g4)
    clear c4 g4
    obtain ⟨x5, y0, y1, y2, y3, y4⟩ := blk5 X4.out
    obtain ⟨o5, z0, z1, z2, z3, z4⟩ := blk5 O4.out
    unfold One5 at x5 o5
    obtain ⟨a0, a1, a2, a3, a4⟩ := x5
    obtain ⟨b0, b1, b2, b3, b4⟩ := o5
    have hne : w1.heap.size ≠ w.heap.size := by have := Z1.out; omega
    have hne' : w.heap.size ≠ w1.heap.size := by have := Z1.out; omega
    go_wp2_with fail
    refine bodyPost_ret (v := .agg #[.string R, .string C, .int .i64 N, .bool G, .string V]) (results_cell_row Try.results69 _ _ w.heap.size _ #[.string R, .string C, .int .i64 N, .bool G, .string V] _ _ rfl (set5 ((Below.heap_setCell _ _ _ _ hne').trans O4.out) _ _ _ _ _) Try.underlying38 rfl (by rw [sizeCel]; rfl)) rfl ?_
    exact ⟨⟨R, C, N, G, V⟩, i4, h4, ⟨HS.out.1, HS.out.2.1, HS.out.2.2.1, hN⟩, rfl, (C4.out.set (w := w) HL.out hpl (by have := Z1.out; omega) _ _).set5 (w := w) HL.out hpl (Nat.le_refl _) _ _ _ _ _, grown_set5 (grown_set1 G4.out (by have := Z1.out; omega) _) (Nat.le_refl _) _ _ _ _ _⟩
  · skip
    subst hk
    go_wp2_with fail
    refine (l01Below_any T p a len cap zs i3 h3 2 _ C3.out (by omega) (by omega)).mono ?_
    rintro e w4 ⟨y, i4, h4, hy0, hy1, rfl, c4, g4⟩
    have P4 := Lib.hid c4.lt
    have O4 := Lib.hid (grown_blk g4 O3.out (by omega))
    have X4 := Lib.hid (grown_blk g4 X3.out (by have := P1.out; omega))
    have L4 := Lib.hid (show w1.heap.size < w4.heap.size from (Array.getElem?_eq_some_iff.1 X4.out).1)
    have G4 := Lib.hid (grown_two G3.out g4)
    have C4 := Lib.hid c4
    clear c4 g4
    rcases (show y = 0 ∨ y = 1 by omega) with rfl | rfl
    · skip
      have hmk : (Instr.makeSlice 22 (.int .i64 30) (.int .i64 30)).run Try.prog w4 = .ok (.slice (some ⟨w4.heap.size, 0, none⟩) 30 30) (w4.alloc (zerosObj 30)) := zeros_made 30 w4 (by omega)
      have htx := zeros_text 30 w4
      obtain ⟨N, hN⟩ : ∃ N : ByteArray, ⟨(List.replicate 30 0).toArray⟩ = N := ⟨_, rfl⟩
      have hNs : N.size ≤ 40 := by rw [← hN]; decide
      rw [hN] at htx
      have C5 := Lib.hid (C4.out.new (zerosObj 30))
      have O5 := Lib.hid ((alloc_old w4 (zerosObj 30) (by have := L4.out; have := Z1.out; omega)).trans O4.out)
      have X5 := Lib.hid ((alloc_old w4 (zerosObj 30) L4.out).trans X4.out)
      have G5 := Lib.hid (grown_new1 G4.out (zerosObj 30))
      clear hN
      obtain ⟨x5, y0, y1, y2, y3, y4⟩ := blk5 X5.out
      obtain ⟨o5, z0, z1, z2, z3, z4⟩ := blk5 O5.out
      unfold One5 at x5 o5
      obtain ⟨a0, a1, a2, a3, a4⟩ := x5
      obtain ⟨b0, b1, b2, b3, b4⟩ := o5
      have hne : w1.heap.size ≠ w.heap.size := by have := Z1.out; omega
      have hne' : w.heap.size ≠ w1.heap.size := by have := Z1.out; omega
      go_wp2_with fail
      refine bodyPost_ret (v := .agg #[.string R, .string C, .int .i64 t, .bool G, .string N]) (results_cell_row Try.results69 _ _ w.heap.size _ #[.string R, .string C, .int .i64 t, .bool G, .string N] _ _ rfl (set5 ((Below.heap_setCell _ _ _ _ hne').trans O5.out) _ _ _ _ _) Try.underlying38 rfl (by rw [sizeCel]; rfl)) rfl ?_
      exact ⟨⟨R, C, t, G, N⟩, i4, h4, ⟨HS.out.1, HS.out.2.1, hNs, HS.out.2.2.2⟩, rfl, (C5.out.set (w := w) HL.out hpl (by have := Z1.out; omega) _ _).set5 (w := w) HL.out hpl (Nat.le_refl _) _ _ _ _ _, grown_set5 (grown_set1 G5.out (by have := Z1.out; omega) _) (Nat.le_refl _) _ _ _ _ _⟩
    · skip
      have hmk : (Instr.makeSlice 22 (.int .i64 31) (.int .i64 31)).run Try.prog w4 = .ok (.slice (some ⟨w4.heap.size, 0, none⟩) 31 31) (w4.alloc (zerosObj 31)) := zeros_made 31 w4 (by omega)
      have htx := zeros_text 31 w4
      obtain ⟨N, hN⟩ : ∃ N : ByteArray, ⟨(List.replicate 31 0).toArray⟩ = N := ⟨_, rfl⟩
      have hNs : N.size ≤ 40 := by rw [← hN]; decide
      rw [hN] at htx
      have C5 := Lib.hid (C4.out.new (zerosObj 31))
      have O5 := Lib.hid ((alloc_old w4 (zerosObj 31) (by have := L4.out; have := Z1.out; omega)).trans O4.out)
      have X5 := Lib.hid ((alloc_old w4 (zerosObj 31) L4.out).trans X4.out)
      have G5 := Lib.hid (grown_new1 G4.out (zerosObj 31))
      clear hN
      obtain ⟨x5, y0, y1, y2, y3, y4⟩ := blk5 X5.out
      obtain ⟨o5, z0, z1, z2, z3, z4⟩ := blk5 O5.out
      unfold One5 at x5 o5
      obtain ⟨a0, a1, a2, a3, a4⟩ := x5
      obtain ⟨b0, b1, b2, b3, b4⟩ := o5
      have hne : w1.heap.size ≠ w.heap.size := by have := Z1.out; omega
      have hne' : w.heap.size ≠ w1.heap.size := by have := Z1.out; omega
      go_wp2_with fail
      refine bodyPost_ret (v := .agg #[.string R, .string C, .int .i64 t, .bool G, .string N]) (results_cell_row Try.results69 _ _ w.heap.size _ #[.string R, .string C, .int .i64 t, .bool G, .string N] _ _ rfl (set5 ((Below.heap_setCell _ _ _ _ hne').trans O5.out) _ _ _ _ _) Try.underlying38 rfl (by rw [sizeCel]; rfl)) rfl ?_
      exact ⟨⟨R, C, t, G, N⟩, i4, h4, ⟨HS.out.1, HS.out.2.1, hNs, HS.out.2.2.2⟩, rfl, (C5.out.set (w := w) HL.out hpl (by have := Z1.out; omega) _ _).set5 (w := w) HL.out hpl (Nat.le_refl _) _ _ _ _ _, grown_set5 (grown_set1 G5.out (by have := Z1.out; omega) _) (Nat.le_refl _) _ _ _ _ _⟩
  · skip
    have q0 : (y == 0) = false := by simp; omega
    have q1 : (y == 1) = false := by simp; omega
    have q2 : (y == 2) = false := by simp; omega
    have q3 : (y == 3) = false := by simp; omega
    obtain ⟨x5, y0, y1, y2, y3, y4⟩ := blk5 X3.out
    obtain ⟨o5, z0, z1, z2, z3, z4⟩ := blk5 O3.out
    unfold One5 at x5 o5
    obtain ⟨a0, a1, a2, a3, a4⟩ := x5
    obtain ⟨b0, b1, b2, b3, b4⟩ := o5
    have hne : w1.heap.size ≠ w.heap.size := by have := Z1.out; omega
    have hne' : w.heap.size ≠ w1.heap.size := by have := Z1.out; omega
    go_wp2_with fail
    refine bodyPost_ret (v := .agg #[.string R, .string C, .int .i64 t, .bool G, .string V]) (results_cell_row Try.results69 _ _ w.heap.size _ #[.string R, .string C, .int .i64 t, .bool G, .string V] _ _ rfl (set5 O3.out _ _ _ _ _) Try.underlying38 rfl (by rw [sizeCel]; rfl)) rfl ?_
    exact ⟨⟨R, C, t, G, V⟩, i3, h3, HS.out, rfl, C3.out.set5 (w := w) HL.out hpl (Nat.le_refl _) _ _ _ _ _, grown_set5 G3.out (Nat.le_refl _) _ _ _ _ _⟩
end Go.Proofs.Ytgonnibakkabjaa
