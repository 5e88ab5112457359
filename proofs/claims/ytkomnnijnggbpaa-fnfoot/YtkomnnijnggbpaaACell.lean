/- The laws' cell by numbers of a code: a right one. -/
import Derived.Test.YtkomnnijnggbpaaZ2
import Derived.Test.YtkomnnijnggbpaaZ0
import Derived.BigRegion
import Derived.Lib.ItoaLen
namespace Go.Proofs.Ytkomnnijnggbpaa
open Go.RowKit
set_option linter.unusedVariables false

def GoodCel (w : World) (e : Ending) (w' : World) : Prop := ∃ (R C : ByteArray) (t : Int) (G : Bool) (V : ByteArray), cellOk ⟨R, C, t, G, V⟩ = true ∧ R.size ≤ 40 ∧ C.size ≤ 40 ∧ V.size ≤ 40 ∧ e = .returned (.agg #[.string R, .string C, .int .i64 t, .bool G, .string V]) ∧ Below w.heap.size w w'

theorem cellOk_good {R C : ByteArray} {t : Int} {G : Bool} {V : ByteArray} (h1 : nameOk R.data.toList = true) (h2 : nameOk C.data.toList = true) (h3 : 0 ≤ t) (h4 : t ≤ 1000000000) (h5 : V.size ≤ 30) (h6 : (!G || V.data.toList.isEmpty) = true) : cellOk ⟨R, C, t, G, V⟩ = true := by
 unfold cellOk
 rw [h1, h2, time_yes h3 h4, h6]
 simpa using h5
structure Three1 (w w1 W : World) (gx : Nat) : Prop where
 below : Below w.heap.size w W
 out : W.heap[w.heap.size]? = some (.cells #[.string ⟨#[]⟩, .string ⟨#[]⟩, .int .i64 0, .bool false, .string ⟨#[]⟩] 36 (0, 0))
 far : w.heap.size < gx
theorem three1 {w w1 : World} (hb : Below w.heap.size w w1) (ho : w1.heap[w.heap.size]? = some (.cells #[.string ⟨#[]⟩, .string ⟨#[]⟩, .int .i64 0, .bool false, .string ⟨#[]⟩] 36 (0, 0))) (o o' o'' : Obj) {gx : Nat} (hg : w1.heap.size ≤ gx) : Three1 w w1 ((((w1.alloc o).alloc o').alloc o'').drew) gx := by
 have hlt := (Array.getElem?_eq_some_iff.1 ho).1
 have hb3 : Below w1.heap.size w1 (((w1.alloc o).alloc o').alloc o'') := (((Below.refl _ w1).alloc (Nat.le_refl _) o).alloc (by simp) o').alloc (by simp; omega) o''
 exact ⟨(hb.trans (hb3.mono hb.size)).drew, (hb3.block _ hlt).trans ho, by omega⟩
theorem itoa_few (n : Int) (h0 : 0 ≤ n) (h1 : n ≤ 9223372036854775807) : (⟨(Lib.itoa n).toArray⟩ : ByteArray).size ≤ 21 := by
 have := Lib.itoa_length_le n (by omega) h1
 simpa [ByteArray.size] using this
theorem alloc_at4 (w : World) (o o' o'' : Obj) : (((w.alloc o).alloc o').alloc o'').heap[w.heap.size + 1 + 1]? = some o'' := by
 have := alloc_at ((w.alloc o).alloc o') o''
 rwa [World.size_alloc, World.size_alloc] at this
theorem row_at (j : Nat) (h : j < 6) : ∃ R : ByteArray, (∀ hh, ([Value.string ⟨#[97]⟩, .string ⟨#[97, 112, 112, 108, 101]⟩, .string ⟨#[97, 112, 112, 108, 101, 115]⟩, .string ⟨#[98]⟩, .string ⟨#[114, 111, 119, 49]⟩, .string ⟨#[114, 111, 119, 49, 48]⟩] : List Value)[j]'hh = .string R) ∧ nameOk R.data.toList = true ∧ R.size ≤ 40 := by
 match j, h with
 | 0, _ => exact ⟨_, fun _ => rfl, by decide, by decide⟩
 | 1, _ => exact ⟨_, fun _ => rfl, by decide, by decide⟩
 | 2, _ => exact ⟨_, fun _ => rfl, by decide, by decide⟩
 | 3, _ => exact ⟨_, fun _ => rfl, by decide, by decide⟩
 | 4, _ => exact ⟨_, fun _ => rfl, by decide, by decide⟩
 | 5, _ => exact ⟨_, fun _ => rfl, by decide, by decide⟩
theorem col_at (k : Nat) (h : k < 2) : ∃ C : ByteArray, (∀ hh, ([Value.string ⟨#[120]⟩, .string ⟨#[121]⟩] : List Value)[k]'hh = .string C) ∧ nameOk C.data.toList = true ∧ C.size ≤ 40 := by
 match k, h with
 | 0, _ => exact ⟨_, fun _ => rfl, by decide, by decide⟩
 | 1, _ => exact ⟨_, fun _ => rfl, by decide, by decide⟩

set_option maxHeartbeats 4000000 in
set_option maxRecDepth 100000 in
theorem aCell_any (n : Nat) (hn : n ≤ 1000) (a : Option Addr) (len cap : Nat) (zs : List Int) (w : World) (hr : Bytes w w.heap.size a len zs) (hl : len ≤ 1048576) :
   Calls Try.prog 23 #[.slice a len cap, .int .i64 n] w (GoodCel w) := by
 have Q0 := Lib.hid (show (3 : Int) * (n : Int) = ((3 * n : Nat) : Int) by omega)
 have Q1 := Lib.hid (show (3 : Int) * (n : Int) + 1 = ((3 * n + 1 : Nat) : Int) by omega)
 have Q2 := Lib.hid (show (3 : Int) * (n : Int) + 2 = ((3 * n + 2 : Nat) : Int) by omega)
 have B0 := Lib.hid (one_below w (.cells #[.string ⟨#[]⟩, .string ⟨#[]⟩, .int .i64 0, .bool false, .string ⟨#[]⟩] 36))
 have O0 := Lib.hid (alloc_at w (.cells #[.string ⟨#[]⟩, .string ⟨#[]⟩, .int .i64 0, .bool false, .string ⟨#[]⟩] 36))
 have HR := Lib.hid (below_bytes hr B0.out)
 clear hr
 go_enter Try.func23, Try.ntmps23
 go_wp2_with fail
 obtain ⟨w1, hw1⟩ : ∃ W, w.alloc (.cells #[.string ⟨#[]⟩, .string ⟨#[]⟩, .int .i64 0, .bool false, .string ⟨#[]⟩] 36) = W := ⟨_, rfl⟩
 rw [hw1] at B0 O0 HR ⊢
 clear hw1
 rw [Q0.out]
 refine (at_some a len cap zs (3 * n) _ _ HR.out hl (by omega)).mono ?_
 rintro e w2 ⟨x, hx, rfl, rfl⟩
 go_wp2_with fail
 rw [Q1.out]
 refine (at_some a len cap zs (3 * n + 1) _ _ HR.out hl (by omega)).mono ?_
 rintro e w2 ⟨y, hy, rfl, rfl⟩
 go_wp2_with fail
 rw [Q2.out]
 refine (at_some a len cap zs (3 * n + 2) _ _ HR.out hl (by omega)).mono ?_
 rintro e w2 ⟨z, hz, rfl, rfl⟩
 go_wp2_with fail
 obtain ⟨j, hj⟩ : ∃ j, x % 6 = j := ⟨_, rfl⟩
 obtain ⟨k, hk⟩ : ∃ k, y % 2 = k := ⟨_, rfl⟩
 have hj6 : j < 6 := by omega
 have hk2 : k < 2 := by omega
 have k1 : ((x : Int) % 6) = (j : Int) := by omega
 have k2 : ((y : Int) % 2) = (k : Int) := by omega
 obtain ⟨R, hrow, hR⟩ := row_at j hj6
 obtain ⟨C, hcol, hC⟩ := col_at k hk2
 have HRC := Lib.hid (And.intro hR hC)
 clear hR hC hj hk
 go_region
 · have X3 := Lib.hid (show ((((w1.alloc (.cells #[.string ⟨#[97]⟩, .string ⟨#[97, 112, 112, 108, 101]⟩, .string ⟨#[97, 112, 112, 108, 101, 115]⟩, .string ⟨#[98]⟩, .string ⟨#[114, 111, 119, 49]⟩, .string ⟨#[114, 111, 119, 49, 48]⟩] 9)).alloc (.cells #[.string ⟨#[120]⟩, .string ⟨#[121]⟩] 9)).alloc (.cells #[.string R, .string C, .int .i64 ((z : Int) % 9), .bool false, .string ⟨#[]⟩] 36)).drew).heap[(w1.heap.size + 1 + 1)]? = some (.cells #[.string R, .string C, .int .i64 ((z : Int) % 9), .bool false, .string ⟨#[]⟩] 36) from (alloc_at4 w1 _ _ _))
   have T3 := Lib.hid (show Three1 w w1 ((((w1.alloc (.cells #[.string ⟨#[97]⟩, .string ⟨#[97, 112, 112, 108, 101]⟩, .string ⟨#[97, 112, 112, 108, 101, 115]⟩, .string ⟨#[98]⟩, .string ⟨#[114, 111, 119, 49]⟩, .string ⟨#[114, 111, 119, 49, 48]⟩] 9)).alloc (.cells #[.string ⟨#[120]⟩, .string ⟨#[121]⟩] 9)).alloc (.cells #[.string R, .string C, .int .i64 ((z : Int) % 9), .bool false, .string ⟨#[]⟩] 36)).drew) (w1.heap.size + 1 + 1) from three1 B0.out O0.out _ _ _ (by omega))
   obtain ⟨W, hW⟩ : ∃ W, (((w1.alloc (.cells #[.string ⟨#[97]⟩, .string ⟨#[97, 112, 112, 108, 101]⟩, .string ⟨#[97, 112, 112, 108, 101, 115]⟩, .string ⟨#[98]⟩, .string ⟨#[114, 111, 119, 49]⟩, .string ⟨#[114, 111, 119, 49, 48]⟩] 9)).alloc (.cells #[.string ⟨#[120]⟩, .string ⟨#[121]⟩] 9)).alloc (.cells #[.string R, .string C, .int .i64 ((z : Int) % 9), .bool false, .string ⟨#[]⟩] 36)).drew = W := ⟨_, rfl⟩
   rw [hW] at X3 T3 ⊢
   clear hW
   obtain ⟨gx, hgx⟩ : ∃ g, (w1.heap.size + 1 + 1) = g := ⟨_, rfl⟩
   rw [hgx] at X3 T3 ⊢
   clear hgx
   obtain ⟨x5, y0, y1, y2, y3, y4⟩ := blk5 X3.out
   obtain ⟨o5, z0, z1, z2, z3, z4⟩ := blk5 T3.out.out
   unfold One5 at x5 o5
   obtain ⟨a0, a1, a2, a3, a4⟩ := x5
   obtain ⟨b0, b1, b2, b3, b4⟩ := o5
   have hne : gx ≠ w.heap.size := by have := T3.out.far; omega
   have hne' : w.heap.size ≠ gx := by have := T3.out.far; omega
   by_cases h7 : y % 7 = 0
   · have k7 : ((y : Int) % 7) = 0 := by omega
     go_wp2_with fail
     refine bodyPost_ret (v := .agg #[.string R, .string C, .int .i64 ((z : Int) % 9), .bool true, .string ⟨#[]⟩]) (results_cell_row Try.results23 _ _ w.heap.size _ #[.string R, .string C, .int .i64 ((z : Int) % 9), .bool true, .string ⟨#[]⟩] _ _ rfl (set5 ((Below.heap_setCell _ _ _ _ hne').trans T3.out.out) _ _ _ _ _) Try.underlying36 rfl (by rw [sizeCel]; rfl)) rfl ?_
     exact ⟨R, C, _, true, ⟨#[]⟩, cellOk_good HRC.out.1.1 HRC.out.2.1 (by omega) (by omega) (by decide) (by decide), HRC.out.1.2, HRC.out.2.2, (by decide), rfl, set5_below (T3.out.below.setCell (show w.heap.size ≤ gx by have := T3.out.far; omega) _) (Nat.le_refl _) _ _ _ _ _⟩
   · have k7 : ¬ ((y : Int) % 7) = 0 := by omega
     have k7' : ((y : Int) % 7 == 0) = false := by simpa using k7
     go_wp2_with fail
     refine (specDecText ((x : Int) * 256 + z) _ (by omega) (by omega)).mono ?_
     rintro e w4 ⟨rfl, rfl⟩
     obtain ⟨V, hV⟩ : ∃ V : ByteArray, (⟨(Lib.itoa ((x : Int) * 256 + z)).toArray⟩ : ByteArray) = V := ⟨_, rfl⟩
     have hVs : V.size ≤ 21 := by rw [← hV]; exact itoa_few _ (by omega) (by omega)
     rw [hV]
     clear hV
     go_wp2_with fail
     refine bodyPost_ret (v := .agg #[.string R, .string C, .int .i64 ((z : Int) % 9), .bool false, .string V]) (results_cell_row Try.results23 _ _ w.heap.size _ #[.string R, .string C, .int .i64 ((z : Int) % 9), .bool false, .string V] _ _ rfl (set5 ((Below.heap_setCell _ _ _ _ hne').trans T3.out.out) _ _ _ _ _) Try.underlying36 rfl (by rw [sizeCel]; rfl)) rfl ?_
     exact ⟨R, C, _, false, V, cellOk_good HRC.out.1.1 HRC.out.2.1 (by omega) (by omega) (by omega) rfl, HRC.out.1.2, HRC.out.2.2, (by omega), rfl, set5_below (T3.out.below.setCell (show w.heap.size ≤ gx by have := T3.out.far; omega) _) (Nat.le_refl _) _ _ _ _ _⟩
 · have X3 := Lib.hid (show ((((w1.alloc (.cells #[.string ⟨#[97]⟩, .string ⟨#[97, 112, 112, 108, 101]⟩, .string ⟨#[97, 112, 112, 108, 101, 115]⟩, .string ⟨#[98]⟩, .string ⟨#[114, 111, 119, 49]⟩, .string ⟨#[114, 111, 119, 49, 48]⟩] 9)).alloc (.cells #[.string R, .string C, .int .i64 ((z : Int) % 9), .bool false, .string ⟨#[]⟩] 36)).alloc (.cells #[.string ⟨#[120]⟩, .string ⟨#[121]⟩] 9)).drew).heap[(w1.heap.size + 1)]? = some (.cells #[.string R, .string C, .int .i64 ((z : Int) % 9), .bool false, .string ⟨#[]⟩] 36) from ((alloc_old _ _ (by simp)).trans (alloc_at2 w1 (.cells #[.string ⟨#[97]⟩, .string ⟨#[97, 112, 112, 108, 101]⟩, .string ⟨#[97, 112, 112, 108, 101, 115]⟩, .string ⟨#[98]⟩, .string ⟨#[114, 111, 119, 49]⟩, .string ⟨#[114, 111, 119, 49, 48]⟩] 9) (.cells #[.string R, .string C, .int .i64 ((z : Int) % 9), .bool false, .string ⟨#[]⟩] 36))))
   have T3 := Lib.hid (show Three1 w w1 ((((w1.alloc (.cells #[.string ⟨#[97]⟩, .string ⟨#[97, 112, 112, 108, 101]⟩, .string ⟨#[97, 112, 112, 108, 101, 115]⟩, .string ⟨#[98]⟩, .string ⟨#[114, 111, 119, 49]⟩, .string ⟨#[114, 111, 119, 49, 48]⟩] 9)).alloc (.cells #[.string R, .string C, .int .i64 ((z : Int) % 9), .bool false, .string ⟨#[]⟩] 36)).alloc (.cells #[.string ⟨#[120]⟩, .string ⟨#[121]⟩] 9)).drew) (w1.heap.size + 1) from three1 B0.out O0.out _ _ _ (by omega))
   obtain ⟨W, hW⟩ : ∃ W, (((w1.alloc (.cells #[.string ⟨#[97]⟩, .string ⟨#[97, 112, 112, 108, 101]⟩, .string ⟨#[97, 112, 112, 108, 101, 115]⟩, .string ⟨#[98]⟩, .string ⟨#[114, 111, 119, 49]⟩, .string ⟨#[114, 111, 119, 49, 48]⟩] 9)).alloc (.cells #[.string R, .string C, .int .i64 ((z : Int) % 9), .bool false, .string ⟨#[]⟩] 36)).alloc (.cells #[.string ⟨#[120]⟩, .string ⟨#[121]⟩] 9)).drew = W := ⟨_, rfl⟩
   rw [hW] at X3 T3 ⊢
   clear hW
   obtain ⟨gx, hgx⟩ : ∃ g, (w1.heap.size + 1) = g := ⟨_, rfl⟩
   rw [hgx] at X3 T3 ⊢
   clear hgx
   obtain ⟨x5, y0, y1, y2, y3, y4⟩ := blk5 X3.out
   obtain ⟨o5, z0, z1, z2, z3, z4⟩ := blk5 T3.out.out
   unfold One5 at x5 o5
   obtain ⟨a0, a1, a2, a3, a4⟩ := x5
   obtain ⟨b0, b1, b2, b3, b4⟩ := o5
   have hne : gx ≠ w.heap.size := by have := T3.out.far; omega
   have hne' : w.heap.size ≠ gx := by have := T3.out.far; omega
   by_cases h7 : y % 7 = 0
   · have k7 : ((y : Int) % 7) = 0 := by omega
     go_wp2_with fail
     refine bodyPost_ret (v := .agg #[.string R, .string C, .int .i64 ((z : Int) % 9), .bool true, .string ⟨#[]⟩]) (results_cell_row Try.results23 _ _ w.heap.size _ #[.string R, .string C, .int .i64 ((z : Int) % 9), .bool true, .string ⟨#[]⟩] _ _ rfl (set5 ((Below.heap_setCell _ _ _ _ hne').trans T3.out.out) _ _ _ _ _) Try.underlying36 rfl (by rw [sizeCel]; rfl)) rfl ?_
     exact ⟨R, C, _, true, ⟨#[]⟩, cellOk_good HRC.out.1.1 HRC.out.2.1 (by omega) (by omega) (by decide) (by decide), HRC.out.1.2, HRC.out.2.2, (by decide), rfl, set5_below (T3.out.below.setCell (show w.heap.size ≤ gx by have := T3.out.far; omega) _) (Nat.le_refl _) _ _ _ _ _⟩
   · have k7 : ¬ ((y : Int) % 7) = 0 := by omega
     have k7' : ((y : Int) % 7 == 0) = false := by simpa using k7
     go_wp2_with fail
     refine (specDecText ((x : Int) * 256 + z) _ (by omega) (by omega)).mono ?_
     rintro e w4 ⟨rfl, rfl⟩
     obtain ⟨V, hV⟩ : ∃ V : ByteArray, (⟨(Lib.itoa ((x : Int) * 256 + z)).toArray⟩ : ByteArray) = V := ⟨_, rfl⟩
     have hVs : V.size ≤ 21 := by rw [← hV]; exact itoa_few _ (by omega) (by omega)
     rw [hV]
     clear hV
     go_wp2_with fail
     refine bodyPost_ret (v := .agg #[.string R, .string C, .int .i64 ((z : Int) % 9), .bool false, .string V]) (results_cell_row Try.results23 _ _ w.heap.size _ #[.string R, .string C, .int .i64 ((z : Int) % 9), .bool false, .string V] _ _ rfl (set5 ((Below.heap_setCell _ _ _ _ hne').trans T3.out.out) _ _ _ _ _) Try.underlying36 rfl (by rw [sizeCel]; rfl)) rfl ?_
     exact ⟨R, C, _, false, V, cellOk_good HRC.out.1.1 HRC.out.2.1 (by omega) (by omega) (by omega) rfl, HRC.out.1.2, HRC.out.2.2, (by omega), rfl, set5_below (T3.out.below.setCell (show w.heap.size ≤ gx by have := T3.out.far; omega) _) (Nat.le_refl _) _ _ _ _ _⟩
 · have X3 := Lib.hid (show ((((w1.alloc (.cells #[.string ⟨#[120]⟩, .string ⟨#[121]⟩] 9)).alloc (.cells #[.string ⟨#[97]⟩, .string ⟨#[97, 112, 112, 108, 101]⟩, .string ⟨#[97, 112, 112, 108, 101, 115]⟩, .string ⟨#[98]⟩, .string ⟨#[114, 111, 119, 49]⟩, .string ⟨#[114, 111, 119, 49, 48]⟩] 9)).alloc (.cells #[.string R, .string C, .int .i64 ((z : Int) % 9), .bool false, .string ⟨#[]⟩] 36)).drew).heap[(w1.heap.size + 1 + 1)]? = some (.cells #[.string R, .string C, .int .i64 ((z : Int) % 9), .bool false, .string ⟨#[]⟩] 36) from (alloc_at4 w1 _ _ _))
   have T3 := Lib.hid (show Three1 w w1 ((((w1.alloc (.cells #[.string ⟨#[120]⟩, .string ⟨#[121]⟩] 9)).alloc (.cells #[.string ⟨#[97]⟩, .string ⟨#[97, 112, 112, 108, 101]⟩, .string ⟨#[97, 112, 112, 108, 101, 115]⟩, .string ⟨#[98]⟩, .string ⟨#[114, 111, 119, 49]⟩, .string ⟨#[114, 111, 119, 49, 48]⟩] 9)).alloc (.cells #[.string R, .string C, .int .i64 ((z : Int) % 9), .bool false, .string ⟨#[]⟩] 36)).drew) (w1.heap.size + 1 + 1) from three1 B0.out O0.out _ _ _ (by omega))
   obtain ⟨W, hW⟩ : ∃ W, (((w1.alloc (.cells #[.string ⟨#[120]⟩, .string ⟨#[121]⟩] 9)).alloc (.cells #[.string ⟨#[97]⟩, .string ⟨#[97, 112, 112, 108, 101]⟩, .string ⟨#[97, 112, 112, 108, 101, 115]⟩, .string ⟨#[98]⟩, .string ⟨#[114, 111, 119, 49]⟩, .string ⟨#[114, 111, 119, 49, 48]⟩] 9)).alloc (.cells #[.string R, .string C, .int .i64 ((z : Int) % 9), .bool false, .string ⟨#[]⟩] 36)).drew = W := ⟨_, rfl⟩
   rw [hW] at X3 T3 ⊢
   clear hW
   obtain ⟨gx, hgx⟩ : ∃ g, (w1.heap.size + 1 + 1) = g := ⟨_, rfl⟩
   rw [hgx] at X3 T3 ⊢
   clear hgx
   obtain ⟨x5, y0, y1, y2, y3, y4⟩ := blk5 X3.out
   obtain ⟨o5, z0, z1, z2, z3, z4⟩ := blk5 T3.out.out
   unfold One5 at x5 o5
   obtain ⟨a0, a1, a2, a3, a4⟩ := x5
   obtain ⟨b0, b1, b2, b3, b4⟩ := o5
   have hne : gx ≠ w.heap.size := by have := T3.out.far; omega
   have hne' : w.heap.size ≠ gx := by have := T3.out.far; omega
   by_cases h7 : y % 7 = 0
   · have k7 : ((y : Int) % 7) = 0 := by omega
     go_wp2_with fail
     refine bodyPost_ret (v := .agg #[.string R, .string C, .int .i64 ((z : Int) % 9), .bool true, .string ⟨#[]⟩]) (results_cell_row Try.results23 _ _ w.heap.size _ #[.string R, .string C, .int .i64 ((z : Int) % 9), .bool true, .string ⟨#[]⟩] _ _ rfl (set5 ((Below.heap_setCell _ _ _ _ hne').trans T3.out.out) _ _ _ _ _) Try.underlying36 rfl (by rw [sizeCel]; rfl)) rfl ?_
     exact ⟨R, C, _, true, ⟨#[]⟩, cellOk_good HRC.out.1.1 HRC.out.2.1 (by omega) (by omega) (by decide) (by decide), HRC.out.1.2, HRC.out.2.2, (by decide), rfl, set5_below (T3.out.below.setCell (show w.heap.size ≤ gx by have := T3.out.far; omega) _) (Nat.le_refl _) _ _ _ _ _⟩
   · have k7 : ¬ ((y : Int) % 7) = 0 := by omega
     have k7' : ((y : Int) % 7 == 0) = false := by simpa using k7
     go_wp2_with fail
     refine (specDecText ((x : Int) * 256 + z) _ (by omega) (by omega)).mono ?_
     rintro e w4 ⟨rfl, rfl⟩
     obtain ⟨V, hV⟩ : ∃ V : ByteArray, (⟨(Lib.itoa ((x : Int) * 256 + z)).toArray⟩ : ByteArray) = V := ⟨_, rfl⟩
     have hVs : V.size ≤ 21 := by rw [← hV]; exact itoa_few _ (by omega) (by omega)
     rw [hV]
     clear hV
     go_wp2_with fail
     refine bodyPost_ret (v := .agg #[.string R, .string C, .int .i64 ((z : Int) % 9), .bool false, .string V]) (results_cell_row Try.results23 _ _ w.heap.size _ #[.string R, .string C, .int .i64 ((z : Int) % 9), .bool false, .string V] _ _ rfl (set5 ((Below.heap_setCell _ _ _ _ hne').trans T3.out.out) _ _ _ _ _) Try.underlying36 rfl (by rw [sizeCel]; rfl)) rfl ?_
     exact ⟨R, C, _, false, V, cellOk_good HRC.out.1.1 HRC.out.2.1 (by omega) (by omega) (by omega) rfl, HRC.out.1.2, HRC.out.2.2, (by omega), rfl, set5_below (T3.out.below.setCell (show w.heap.size ≤ gx by have := T3.out.far; omega) _) (Nat.le_refl _) _ _ _ _ _⟩
 · have X3 := Lib.hid (show ((((w1.alloc (.cells #[.string ⟨#[120]⟩, .string ⟨#[121]⟩] 9)).alloc (.cells #[.string R, .string C, .int .i64 ((z : Int) % 9), .bool false, .string ⟨#[]⟩] 36)).alloc (.cells #[.string ⟨#[97]⟩, .string ⟨#[97, 112, 112, 108, 101]⟩, .string ⟨#[97, 112, 112, 108, 101, 115]⟩, .string ⟨#[98]⟩, .string ⟨#[114, 111, 119, 49]⟩, .string ⟨#[114, 111, 119, 49, 48]⟩] 9)).drew).heap[(w1.heap.size + 1)]? = some (.cells #[.string R, .string C, .int .i64 ((z : Int) % 9), .bool false, .string ⟨#[]⟩] 36) from ((alloc_old _ _ (by simp)).trans (alloc_at2 w1 (.cells #[.string ⟨#[120]⟩, .string ⟨#[121]⟩] 9) (.cells #[.string R, .string C, .int .i64 ((z : Int) % 9), .bool false, .string ⟨#[]⟩] 36))))
   have T3 := Lib.hid (show Three1 w w1 ((((w1.alloc (.cells #[.string ⟨#[120]⟩, .string ⟨#[121]⟩] 9)).alloc (.cells #[.string R, .string C, .int .i64 ((z : Int) % 9), .bool false, .string ⟨#[]⟩] 36)).alloc (.cells #[.string ⟨#[97]⟩, .string ⟨#[97, 112, 112, 108, 101]⟩, .string ⟨#[97, 112, 112, 108, 101, 115]⟩, .string ⟨#[98]⟩, .string ⟨#[114, 111, 119, 49]⟩, .string ⟨#[114, 111, 119, 49, 48]⟩] 9)).drew) (w1.heap.size + 1) from three1 B0.out O0.out _ _ _ (by omega))
   obtain ⟨W, hW⟩ : ∃ W, (((w1.alloc (.cells #[.string ⟨#[120]⟩, .string ⟨#[121]⟩] 9)).alloc (.cells #[.string R, .string C, .int .i64 ((z : Int) % 9), .bool false, .string ⟨#[]⟩] 36)).alloc (.cells #[.string ⟨#[97]⟩, .string ⟨#[97, 112, 112, 108, 101]⟩, .string ⟨#[97, 112, 112, 108, 101, 115]⟩, .string ⟨#[98]⟩, .string ⟨#[114, 111, 119, 49]⟩, .string ⟨#[114, 111, 119, 49, 48]⟩] 9)).drew = W := ⟨_, rfl⟩
   rw [hW] at X3 T3 ⊢
   clear hW
   obtain ⟨gx, hgx⟩ : ∃ g, (w1.heap.size + 1) = g := ⟨_, rfl⟩
   rw [hgx] at X3 T3 ⊢
   clear hgx
   obtain ⟨x5, y0, y1, y2, y3, y4⟩ := blk5 X3.out
   obtain ⟨o5, z0, z1, z2, z3, z4⟩ := blk5 T3.out.out
   unfold One5 at x5 o5
   obtain ⟨a0, a1, a2, a3, a4⟩ := x5
   obtain ⟨b0, b1, b2, b3, b4⟩ := o5
   have hne : gx ≠ w.heap.size := by have := T3.out.far; omega
   have hne' : w.heap.size ≠ gx := by have := T3.out.far; omega
   by_cases h7 : y % 7 = 0
   · have k7 : ((y : Int) % 7) = 0 := by omega
     go_wp2_with fail
     refine bodyPost_ret (v := .agg #[.string R, .string C, .int .i64 ((z : Int) % 9), .bool true, .string ⟨#[]⟩]) (results_cell_row Try.results23 _ _ w.heap.size _ #[.string R, .string C, .int .i64 ((z : Int) % 9), .bool true, .string ⟨#[]⟩] _ _ rfl (set5 ((Below.heap_setCell _ _ _ _ hne').trans T3.out.out) _ _ _ _ _) Try.underlying36 rfl (by rw [sizeCel]; rfl)) rfl ?_
     exact ⟨R, C, _, true, ⟨#[]⟩, cellOk_good HRC.out.1.1 HRC.out.2.1 (by omega) (by omega) (by decide) (by decide), HRC.out.1.2, HRC.out.2.2, (by decide), rfl, set5_below (T3.out.below.setCell (show w.heap.size ≤ gx by have := T3.out.far; omega) _) (Nat.le_refl _) _ _ _ _ _⟩
   · have k7 : ¬ ((y : Int) % 7) = 0 := by omega
     have k7' : ((y : Int) % 7 == 0) = false := by simpa using k7
     go_wp2_with fail
     refine (specDecText ((x : Int) * 256 + z) _ (by omega) (by omega)).mono ?_
     rintro e w4 ⟨rfl, rfl⟩
     obtain ⟨V, hV⟩ : ∃ V : ByteArray, (⟨(Lib.itoa ((x : Int) * 256 + z)).toArray⟩ : ByteArray) = V := ⟨_, rfl⟩
     have hVs : V.size ≤ 21 := by rw [← hV]; exact itoa_few _ (by omega) (by omega)
     rw [hV]
     clear hV
     go_wp2_with fail
     refine bodyPost_ret (v := .agg #[.string R, .string C, .int .i64 ((z : Int) % 9), .bool false, .string V]) (results_cell_row Try.results23 _ _ w.heap.size _ #[.string R, .string C, .int .i64 ((z : Int) % 9), .bool false, .string V] _ _ rfl (set5 ((Below.heap_setCell _ _ _ _ hne').trans T3.out.out) _ _ _ _ _) Try.underlying36 rfl (by rw [sizeCel]; rfl)) rfl ?_
     exact ⟨R, C, _, false, V, cellOk_good HRC.out.1.1 HRC.out.2.1 (by omega) (by omega) (by omega) rfl, HRC.out.1.2, HRC.out.2.2, (by omega), rfl, set5_below (T3.out.below.setCell (show w.heap.size ≤ gx by have := T3.out.far; omega) _) (Nat.le_refl _) _ _ _ _ _⟩
 · have X3 := Lib.hid (show ((((w1.alloc (.cells #[.string R, .string C, .int .i64 ((z : Int) % 9), .bool false, .string ⟨#[]⟩] 36)).alloc (.cells #[.string ⟨#[97]⟩, .string ⟨#[97, 112, 112, 108, 101]⟩, .string ⟨#[97, 112, 112, 108, 101, 115]⟩, .string ⟨#[98]⟩, .string ⟨#[114, 111, 119, 49]⟩, .string ⟨#[114, 111, 119, 49, 48]⟩] 9)).alloc (.cells #[.string ⟨#[120]⟩, .string ⟨#[121]⟩] 9)).drew).heap[w1.heap.size]? = some (.cells #[.string R, .string C, .int .i64 ((z : Int) % 9), .bool false, .string ⟨#[]⟩] 36) from ((alloc_old _ _ (by simp; omega)).trans ((alloc_old _ _ (by simp)).trans (alloc_at w1 (.cells #[.string R, .string C, .int .i64 ((z : Int) % 9), .bool false, .string ⟨#[]⟩] 36)))))
   have T3 := Lib.hid (show Three1 w w1 ((((w1.alloc (.cells #[.string R, .string C, .int .i64 ((z : Int) % 9), .bool false, .string ⟨#[]⟩] 36)).alloc (.cells #[.string ⟨#[97]⟩, .string ⟨#[97, 112, 112, 108, 101]⟩, .string ⟨#[97, 112, 112, 108, 101, 115]⟩, .string ⟨#[98]⟩, .string ⟨#[114, 111, 119, 49]⟩, .string ⟨#[114, 111, 119, 49, 48]⟩] 9)).alloc (.cells #[.string ⟨#[120]⟩, .string ⟨#[121]⟩] 9)).drew) w1.heap.size from three1 B0.out O0.out _ _ _ (by omega))
   obtain ⟨W, hW⟩ : ∃ W, (((w1.alloc (.cells #[.string R, .string C, .int .i64 ((z : Int) % 9), .bool false, .string ⟨#[]⟩] 36)).alloc (.cells #[.string ⟨#[97]⟩, .string ⟨#[97, 112, 112, 108, 101]⟩, .string ⟨#[97, 112, 112, 108, 101, 115]⟩, .string ⟨#[98]⟩, .string ⟨#[114, 111, 119, 49]⟩, .string ⟨#[114, 111, 119, 49, 48]⟩] 9)).alloc (.cells #[.string ⟨#[120]⟩, .string ⟨#[121]⟩] 9)).drew = W := ⟨_, rfl⟩
   rw [hW] at X3 T3 ⊢
   clear hW
   obtain ⟨gx, hgx⟩ : ∃ g, w1.heap.size = g := ⟨_, rfl⟩
   rw [hgx] at X3 T3 ⊢
   clear hgx
   obtain ⟨x5, y0, y1, y2, y3, y4⟩ := blk5 X3.out
   obtain ⟨o5, z0, z1, z2, z3, z4⟩ := blk5 T3.out.out
   unfold One5 at x5 o5
   obtain ⟨a0, a1, a2, a3, a4⟩ := x5
   obtain ⟨b0, b1, b2, b3, b4⟩ := o5
   have hne : gx ≠ w.heap.size := by have := T3.out.far; omega
   have hne' : w.heap.size ≠ gx := by have := T3.out.far; omega
   by_cases h7 : y % 7 = 0
   · have k7 : ((y : Int) % 7) = 0 := by omega
     go_wp2_with fail
     refine bodyPost_ret (v := .agg #[.string R, .string C, .int .i64 ((z : Int) % 9), .bool true, .string ⟨#[]⟩]) (results_cell_row Try.results23 _ _ w.heap.size _ #[.string R, .string C, .int .i64 ((z : Int) % 9), .bool true, .string ⟨#[]⟩] _ _ rfl (set5 ((Below.heap_setCell _ _ _ _ hne').trans T3.out.out) _ _ _ _ _) Try.underlying36 rfl (by rw [sizeCel]; rfl)) rfl ?_
     exact ⟨R, C, _, true, ⟨#[]⟩, cellOk_good HRC.out.1.1 HRC.out.2.1 (by omega) (by omega) (by decide) (by decide), HRC.out.1.2, HRC.out.2.2, (by decide), rfl, set5_below (T3.out.below.setCell (show w.heap.size ≤ gx by have := T3.out.far; omega) _) (Nat.le_refl _) _ _ _ _ _⟩
   · have k7 : ¬ ((y : Int) % 7) = 0 := by omega
     have k7' : ((y : Int) % 7 == 0) = false := by simpa using k7
     go_wp2_with fail
     refine (specDecText ((x : Int) * 256 + z) _ (by omega) (by omega)).mono ?_
     rintro e w4 ⟨rfl, rfl⟩
     obtain ⟨V, hV⟩ : ∃ V : ByteArray, (⟨(Lib.itoa ((x : Int) * 256 + z)).toArray⟩ : ByteArray) = V := ⟨_, rfl⟩
     have hVs : V.size ≤ 21 := by rw [← hV]; exact itoa_few _ (by omega) (by omega)
     rw [hV]
     clear hV
     go_wp2_with fail
     refine bodyPost_ret (v := .agg #[.string R, .string C, .int .i64 ((z : Int) % 9), .bool false, .string V]) (results_cell_row Try.results23 _ _ w.heap.size _ #[.string R, .string C, .int .i64 ((z : Int) % 9), .bool false, .string V] _ _ rfl (set5 ((Below.heap_setCell _ _ _ _ hne').trans T3.out.out) _ _ _ _ _) Try.underlying36 rfl (by rw [sizeCel]; rfl)) rfl ?_
     exact ⟨R, C, _, false, V, cellOk_good HRC.out.1.1 HRC.out.2.1 (by omega) (by omega) (by omega) rfl, HRC.out.1.2, HRC.out.2.2, (by omega), rfl, set5_below (T3.out.below.setCell (show w.heap.size ≤ gx by have := T3.out.far; omega) _) (Nat.le_refl _) _ _ _ _ _⟩
 · have X3 := Lib.hid (show ((((w1.alloc (.cells #[.string R, .string C, .int .i64 ((z : Int) % 9), .bool false, .string ⟨#[]⟩] 36)).alloc (.cells #[.string ⟨#[120]⟩, .string ⟨#[121]⟩] 9)).alloc (.cells #[.string ⟨#[97]⟩, .string ⟨#[97, 112, 112, 108, 101]⟩, .string ⟨#[97, 112, 112, 108, 101, 115]⟩, .string ⟨#[98]⟩, .string ⟨#[114, 111, 119, 49]⟩, .string ⟨#[114, 111, 119, 49, 48]⟩] 9)).drew).heap[w1.heap.size]? = some (.cells #[.string R, .string C, .int .i64 ((z : Int) % 9), .bool false, .string ⟨#[]⟩] 36) from ((alloc_old _ _ (by simp; omega)).trans ((alloc_old _ _ (by simp)).trans (alloc_at w1 (.cells #[.string R, .string C, .int .i64 ((z : Int) % 9), .bool false, .string ⟨#[]⟩] 36)))))
   have T3 := Lib.hid (show Three1 w w1 ((((w1.alloc (.cells #[.string R, .string C, .int .i64 ((z : Int) % 9), .bool false, .string ⟨#[]⟩] 36)).alloc (.cells #[.string ⟨#[120]⟩, .string ⟨#[121]⟩] 9)).alloc (.cells #[.string ⟨#[97]⟩, .string ⟨#[97, 112, 112, 108, 101]⟩, .string ⟨#[97, 112, 112, 108, 101, 115]⟩, .string ⟨#[98]⟩, .string ⟨#[114, 111, 119, 49]⟩, .string ⟨#[114, 111, 119, 49, 48]⟩] 9)).drew) w1.heap.size from three1 B0.out O0.out _ _ _ (by omega))
   obtain ⟨W, hW⟩ : ∃ W, (((w1.alloc (.cells #[.string R, .string C, .int .i64 ((z : Int) % 9), .bool false, .string ⟨#[]⟩] 36)).alloc (.cells #[.string ⟨#[120]⟩, .string ⟨#[121]⟩] 9)).alloc (.cells #[.string ⟨#[97]⟩, .string ⟨#[97, 112, 112, 108, 101]⟩, .string ⟨#[97, 112, 112, 108, 101, 115]⟩, .string ⟨#[98]⟩, .string ⟨#[114, 111, 119, 49]⟩, .string ⟨#[114, 111, 119, 49, 48]⟩] 9)).drew = W := ⟨_, rfl⟩
   rw [hW] at X3 T3 ⊢
   clear hW
   obtain ⟨gx, hgx⟩ : ∃ g, w1.heap.size = g := ⟨_, rfl⟩
   rw [hgx] at X3 T3 ⊢
   clear hgx
   obtain ⟨x5, y0, y1, y2, y3, y4⟩ := blk5 X3.out
   obtain ⟨o5, z0, z1, z2, z3, z4⟩ := blk5 T3.out.out
   unfold One5 at x5 o5
   obtain ⟨a0, a1, a2, a3, a4⟩ := x5
   obtain ⟨b0, b1, b2, b3, b4⟩ := o5
   have hne : gx ≠ w.heap.size := by have := T3.out.far; omega
   have hne' : w.heap.size ≠ gx := by have := T3.out.far; omega
   by_cases h7 : y % 7 = 0
   · have k7 : ((y : Int) % 7) = 0 := by omega
     go_wp2_with fail
     refine bodyPost_ret (v := .agg #[.string R, .string C, .int .i64 ((z : Int) % 9), .bool true, .string ⟨#[]⟩]) (results_cell_row Try.results23 _ _ w.heap.size _ #[.string R, .string C, .int .i64 ((z : Int) % 9), .bool true, .string ⟨#[]⟩] _ _ rfl (set5 ((Below.heap_setCell _ _ _ _ hne').trans T3.out.out) _ _ _ _ _) Try.underlying36 rfl (by rw [sizeCel]; rfl)) rfl ?_
     exact ⟨R, C, _, true, ⟨#[]⟩, cellOk_good HRC.out.1.1 HRC.out.2.1 (by omega) (by omega) (by decide) (by decide), HRC.out.1.2, HRC.out.2.2, (by decide), rfl, set5_below (T3.out.below.setCell (show w.heap.size ≤ gx by have := T3.out.far; omega) _) (Nat.le_refl _) _ _ _ _ _⟩
   · have k7 : ¬ ((y : Int) % 7) = 0 := by omega
     have k7' : ((y : Int) % 7 == 0) = false := by simpa using k7
     go_wp2_with fail
     refine (specDecText ((x : Int) * 256 + z) _ (by omega) (by omega)).mono ?_
     rintro e w4 ⟨rfl, rfl⟩
     obtain ⟨V, hV⟩ : ∃ V : ByteArray, (⟨(Lib.itoa ((x : Int) * 256 + z)).toArray⟩ : ByteArray) = V := ⟨_, rfl⟩
     have hVs : V.size ≤ 21 := by rw [← hV]; exact itoa_few _ (by omega) (by omega)
     rw [hV]
     clear hV
     go_wp2_with fail
     refine bodyPost_ret (v := .agg #[.string R, .string C, .int .i64 ((z : Int) % 9), .bool false, .string V]) (results_cell_row Try.results23 _ _ w.heap.size _ #[.string R, .string C, .int .i64 ((z : Int) % 9), .bool false, .string V] _ _ rfl (set5 ((Below.heap_setCell _ _ _ _ hne').trans T3.out.out) _ _ _ _ _) Try.underlying36 rfl (by rw [sizeCel]; rfl)) rfl ?_
     exact ⟨R, C, _, false, V, cellOk_good HRC.out.1.1 HRC.out.2.1 (by omega) (by omega) (by omega) rfl, HRC.out.1.2, HRC.out.2.2, (by omega), rfl, set5_below (T3.out.below.setCell (show w.heap.size ≤ gx by have := T3.out.far; omega) _) (Nat.le_refl _) _ _ _ _ _⟩
end Go.Proofs.Ytkomnnijnggbpaa
