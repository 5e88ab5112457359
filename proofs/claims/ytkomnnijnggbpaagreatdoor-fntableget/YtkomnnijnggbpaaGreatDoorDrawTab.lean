/- The model's draws of ways and of tables. -/
import Derived.Test.YtkomnnijnggbpaaGreatDoorDrawCells
import Derived.Test.YtkomnnijnggbpaaGreatDoorZ3
import Derived.Test.YtkomnnijnggbpaaGreatDoorDrawOddC
import Derived.Test.YtkomnnijnggbpaaGreatDoorZ10
import Derived.Test.YtkomnnijnggbpaaGreatDoorZ1
import Derived.Test.YtkomnnijnggbpaaGreatDoorZ0
namespace Go.Proofs.YtkomnnijnggbpaaGreatDoor
open Go.RowKit
set_option linter.unusedVariables false

def SomeConf (P : Int → Int → Prop) (T p : Nat) (a : Option Addr) (len cap : Nat) (zs : List Int) (w : World) (e : Ending) (w' : World) : Prop :=
 ∃ (ev sz : Int) (pk : Bool) (i : Nat) (h : Int), P ev sz ∧ e = .returned (.agg #[.int .i64 ev, .int .i64 sz, .bool pk]) ∧ CurAt w' T p a len cap zs i h ∧ w.grownBy w' (some p)
theorem sizeConf' : (Tryz.prog.info? 26).map (·.size) = some 3 := by kernel_rfl
theorem set_conf {w : World} {g T : Nat} {a b c : Value} (h : w.heap[g]? = some (.cells #[a, b, c] T (0, 0))) (x y z : Value) :
   (((w.setCell ⟨g, 0, none⟩ x).setCell ⟨g, 1, none⟩ y).setCell ⟨g, 2, none⟩ z).heap[g]? = some (.cells #[x, y, z] T (0, 0)) := by
 have h1 := set_block (k := 0) x h
 have h2 := set_block (k := 1) y h1
 have h3 := set_block (k := 2) z h2
 exact h3
theorem conf_three {w : World} {g T : Nat} {a b c : Value} (h : w.heap[g]? = some (.cells #[a, b, c] T (0, 0))) : w.cell? ⟨g, 0, none⟩ = some a ∧ w.cell? ⟨g, 1, none⟩ = some b ∧ w.cell? ⟨g, 2, none⟩ = some c ∧ w.frozen? ⟨g, 0, none⟩ = false ∧ w.frozen? ⟨g, 1, none⟩ = false ∧ w.frozen? ⟨g, 2, none⟩ = false :=
 ⟨by simp [World.cell?, h], by simp [World.cell?, h], by simp [World.cell?, h], by simp [World.frozen?, h], by simp [World.frozen?, h], by simp [World.frozen?, h]⟩

theorem cur_old {w : World} {T p : Nat} {a : Option Addr} {len cap : Nat} {zs : List Int} {i : Nat} {h : Int} (c : CurAt w T p a len cap zs i h) : ∀ x, a = some x → x.block < w.heap.size ∨ len = 0 := by
 intro x hx
 by_cases h0 : len = 0
 · exact .inr h0
 · obtain ⟨b, off, ha, hb, _⟩ := c.bytes.2 0 (by omega)
   rw [hx] at ha
   cases ha
   exact .inl hb
theorem cur_set {w W : World} {T p : Nat} {a : Option Addr} {len cap : Nat} {zs : List Int} {i : Nat} {h : Int} (c : CurAt W T p a len cap zs i h) (ho : ∀ x, a = some x → x.block < w.heap.size ∨ len = 0) (hp : p < w.heap.size) {g : Nat} (k : Nat) (v : Value) (hg : w.heap.size ≤ g := by first | exact Nat.le_refl _ | omega) : CurAt (W.setCell ⟨g, k, none⟩ v) T p a len cap zs i h := by
 refine c.kept (row := some g) ⟨rfl, rfl, rfl, by simp, fun j _ hj => Below.heap_setCell _ _ _ j (fun e => hj (by rw [e]))⟩ (fun e => by cases e; omega) (fun x hx => ?_)
 rcases ho x hx with h1 | h1
 · exact .inl (fun e => by cases e; omega)
 · exact .inr h1
theorem grown_set_new {w W : World} {p : Nat} (h : w.grownBy W (some p)) {g : Nat} (hg : w.heap.size ≤ g) (k : Nat) (v : Value) : w.grownBy (W.setCell ⟨g, k, none⟩ v) (some p) :=
 ⟨h.os, h.tape, h.output, by simpa using h.size, fun j hj hne => (Below.heap_setCell _ _ _ j (by show j ≠ g; omega)).trans (h.block j hj hne)⟩
set_option maxHeartbeats 2000000 in
set_option maxRecDepth 100000 in
theorem l07Config_at (T p : Nat) (a : Option Addr) (len cap : Nat) (zs : List Int) (i : Nat) (h : Int) (w : World) (cu : CurAt w T p a len cap zs i h) :
   Calls Tryz.prog 89 #[.pointer (some ⟨p, 0, none⟩)] w (SomeConf (fun e z => 1 ≤ e ∧ e ≤ 16 ∧ 1 ≤ z ∧ z ≤ 50) T p a len cap zs w) := by
 have hpl := cu.lt
 have C0 := Lib.hid (cu.new (.cells #[.int .i64 0, .int .i64 0, .bool false] 26))
 have X0 := Lib.hid (alloc_at w (.cells #[.int .i64 0, .int .i64 0, .bool false] 26))
 have G0 := Lib.hid (World.grownBy_alloc w (.cells #[.int .i64 0, .int .i64 0, .bool false] 26) (some p))
 obtain ⟨w0, hw0⟩ : ∃ W, w.alloc (.cells #[.int .i64 0, .int .i64 0, .bool false] 26) = W := ⟨_, rfl⟩
 have hz0 : w0.heap.size = w.heap.size + 1 := by rw [← hw0]; simp
 rw [hw0] at C0 X0 G0
 have hold := Lib.hid (cur_old cu)
 clear cu
 go_enter Tryz.func89, Tryz.ntmps89
 go_wp2_with fail
 clear hw0
 rw [← hz0]
 refine (l01PickInt_at (fun x => 1 ≤ x ∧ x ≤ 16) T p a len cap zs i h w0.heap.size 4 4 _ (C0.out.new _) (by omega) (by omega) (by simp) (by omega) (new_ints w0 [1, 2, 4, 16] 3 (by decide))).mono ?_
 rintro e w3 ⟨ev, i3, h3, hev, rfl, c3, g3⟩
 have C3 := Lib.hid c3
 have F3 := Lib.hid ((grown_two (World.grownBy_alloc w0 (.cells #[.int .i64 1, .int .i64 2, .int .i64 4, .int .i64 16] 3) (some p)) g3))
 have hz3 := F3.out.size
 clear c3 g3
 go_wp2_with fail
 refine (l01PickInt_at (fun x => 1 ≤ x ∧ x ≤ 50) T p a len cap zs i3 h3 w3.heap.size 5 5 _ (C3.out.new _) (by omega) (by omega) (by simp) (by omega) (new_ints w3 [1, 2, 3, 5, 50] 3 (by decide))).mono ?_
 rintro e w4 ⟨sz, i4, h4, hsz, rfl, c4, g4⟩
 have C4 := Lib.hid c4
 have F4 := Lib.hid (F3.out.trans (grown_two (World.grownBy_alloc w3 (.cells #[.int .i64 1, .int .i64 2, .int .i64 3, .int .i64 5, .int .i64 50] 3) (some p)) g4))
 clear c4 g4
 go_wp2_with fail
 refine (l01Once_at _ _ _ _ _ _ _ _ 2 _ C4.out (by omega) (by omega)).mono ?_
 rintro e w5 ⟨b5, i5, h5, rfl, c5, g5⟩
 have F5 := Lib.hid (F4.out.trans g5)
 have G5 := Lib.hid (G0.out.trans F5.out)
 have C5 := Lib.hid c5
 have hX : w5.heap[w.heap.size]? = some (.cells #[.int .i64 0, .int .i64 0, .bool false] 26 (0, 0)) := by
   have h1 : w0.grownBy w5 (some p) := F5.out
   exact (h1.block _ (Array.getElem?_eq_some_iff.1 X0.out).1 (fun e => by cases e; omega)).trans X0.out
 have X5 := Lib.hid hX
 obtain ⟨y0, y1, y2, z0, z1, z2⟩ := conf_three hX
 clear c5 g5 hX
 go_wp2_with fail
 refine bodyPost_ret (results_cell_row Tryz.results89 _ _ w.heap.size _ _ _ _ rfl (set_conf X5.out (.int .i64 ev) (.int .i64 sz) (.bool b5)) Tryz.underlying26 rfl (by rw [sizeConf']; rfl)) rfl ?_
 exact ⟨ev, sz, b5, i5, h5, ⟨hev.1, hev.2, hsz.1, hsz.2⟩, rfl, cur_set (cur_set (cur_set C5.out hold.out hpl _ _) hold.out hpl _ _) hold.out hpl _ _, grown_set_new (grown_set_new (grown_set_new G5.out (Nat.le_refl _) _ _) (Nat.le_refl _) _ _) (Nat.le_refl _) _ _⟩

set_option maxHeartbeats 2000000 in
set_option maxRecDepth 100000 in
theorem l07Odd_at (T p : Nat) (a : Option Addr) (len cap : Nat) (zs : List Int) (i : Nat) (h : Int) (w : World) (cu : CurAt w T p a len cap zs i h) :
   Calls Tryz.prog 48 #[.pointer (some ⟨p, 0, none⟩)] w (SomeConf (fun e z => 0 ≤ e ∧ e ≤ 17 ∧ 0 ≤ z ∧ z ≤ 51) T p a len cap zs w) := by
 have hpl := cu.lt
 have hold := Lib.hid (cur_old cu)
 have C0 := Lib.hid (cu.new (.cells #[.int .i64 0, .int .i64 0, .bool false] 26))
 have X0 := Lib.hid (alloc_at w (.cells #[.int .i64 0, .int .i64 0, .bool false] 26))
 have G0 := Lib.hid (World.grownBy_alloc w (.cells #[.int .i64 0, .int .i64 0, .bool false] 26) (some p))
 obtain ⟨w0, hw0⟩ : ∃ W, w.alloc (.cells #[.int .i64 0, .int .i64 0, .bool false] 26) = W := ⟨_, rfl⟩
 have hz0 : w0.heap.size = w.heap.size + 1 := by rw [← hw0]; simp
 rw [hw0] at C0 X0 G0
 clear cu
 go_enter Tryz.func48, Tryz.ntmps48
 go_wp2_with fail
 clear hw0
 refine (l07Config_at T p a len cap zs i h _ C0.out).mono ?_
 rintro e w1 ⟨ev, sz, pk, i1, h1, hev, rfl, c1, g1⟩
 have C1 := Lib.hid (c1.new (.cells #[.int .i64 ev, .int .i64 sz, .bool pk] 26))
 have G1 := Lib.hid (g1.trans (World.grownBy_alloc w1 (.cells #[.int .i64 ev, .int .i64 sz, .bool pk] 26) (some p)))
 have Y1 := Lib.hid (alloc_at w1 (.cells #[.int .i64 ev, .int .i64 sz, .bool pk] 26))
 have hs1 := g1.size
 obtain ⟨w2, hw2⟩ : ∃ W, w1.alloc (.cells #[.int .i64 ev, .int .i64 sz, .bool pk] 26) = W := ⟨_, rfl⟩
 obtain ⟨gx, hgx⟩ : ∃ g, w1.heap.size = g := ⟨_, rfl⟩
 rw [hw2, hgx] at Y1
 rw [hw2] at C1 G1
 rw [hgx] at hs1
 clear c1 g1
 go_wp2_with fail
 clear hw2 hgx
 refine (l01Below_any _ _ _ _ _ _ _ _ _ _ C1.out (by omega) (by omega)).mono ?_
 rintro e w3 ⟨k, i3, h3, hk0, hk1, rfl, c3, g3⟩
 have C3 := Lib.hid c3
 have G3 := Lib.hid (G1.out.trans g3)
 have hgl := (Array.getElem?_eq_some_iff.1 Y1.out).1
 have Y3 := Lib.hid ((g3.block gx hgl (fun e => by cases e; omega)).trans Y1.out)
 clear c3 g3
 have F3 := Lib.hid (show w0.grownBy w3 (some p) from G3.out)
 have hev : 1 ≤ ev ∧ ev ≤ 16 ∧ 1 ≤ sz ∧ sz ≤ 50 := hev
 by_cases hk : k = 0
 ·
   subst hk
   go_wp2_with fail
   refine (l01PickInt_at (fun x => 0 ≤ x ∧ x ≤ 17) T p a len cap zs i3 h3 w3.heap.size 2 2 _ (C3.out.new _) (by omega) (by omega) (by simp) (by have := C3.out.lt; omega) (new_ints w3 [0, 17] 3 (by decide))).mono ?_
   rintro e w4 ⟨x, i4, h4, hx, rfl, c4, g4⟩
   have hx : 0 ≤ x ∧ x ≤ 17 := hx
   have g4' := grown_two (World.grownBy_alloc w3 (.cells #[.int .i64 0, .int .i64 17] 3) (some p)) g4
   have F4 := Lib.hid (F3.out.trans g4')
   have Y4 := Lib.hid ((g4'.block gx (Array.getElem?_eq_some_iff.1 Y3.out).1 (fun e => by cases e; omega)).trans Y3.out)
   have C4 := Lib.hid c4
   obtain ⟨v0, v1, v2, v3, v4, v5⟩ := conf_three Y4.out
   clear c4 g4 g4'
   have C5 := Lib.hid (cur_set C4.out hold.out hpl 0 (.int .i64 x) (g := gx) (by omega))
   have F5 := Lib.hid (grown_set_new F4.out (g := gx) (by omega) 0 (.int .i64 x))
   have Y5 := Lib.hid (show (w4.setCell ⟨gx, 0, none⟩ (.int .i64 x)).heap[gx]? = some (.cells #[.int .i64 x, .int .i64 sz, .bool pk] 26 (0, 0)) from set_block (k := 0) (.int .i64 x) Y4.out)
   have HX := Lib.hid ((F5.out.block w.heap.size (Array.getElem?_eq_some_iff.1 X0.out).1 (fun e => by cases e; omega)).trans X0.out)
   obtain ⟨w5, hw5⟩ : ∃ W, w4.setCell ⟨gx, 0, none⟩ (.int .i64 x) = W := ⟨_, rfl⟩
   rw [hw5] at C5 F5 Y5 HX
   obtain ⟨u0, u1, u2, _, _, _⟩ := conf_three Y5.out
   obtain ⟨y0, y1, y2, z0, z1, z2⟩ := conf_three HX.out
   go_wp2_with fail
   refine bodyPost_ret (results_cell_row Tryz.results48 _ _ w.heap.size _ _ _ _ rfl (set_conf HX.out (.int .i64 x) (.int .i64 sz) (.bool pk)) Tryz.underlying26 rfl (by rw [sizeConf']; rfl)) rfl ?_
   exact ⟨x, sz, pk, i4, h4, ⟨by omega, by omega, by omega, by omega⟩, rfl, cur_set (cur_set (cur_set C5.out hold.out hpl _ _) hold.out hpl _ _) hold.out hpl _ _, grown_set_new (grown_set_new (grown_set_new (G0.out.trans F5.out) (Nat.le_refl _) _ _) (Nat.le_refl _) _ _) (Nat.le_refl _) _ _⟩
 · by_cases hk' : k = 1
   ·
     subst hk'
     go_wp2_with fail
     refine (l01PickInt_at (fun x => 0 ≤ x ∧ x ≤ 51) T p a len cap zs i3 h3 w3.heap.size 2 2 _ (C3.out.new _) (by omega) (by omega) (by simp) (by have := C3.out.lt; omega) (new_ints w3 [0, 51] 3 (by decide))).mono ?_
     rintro e w4 ⟨x, i4, h4, hx, rfl, c4, g4⟩
     have hx : 0 ≤ x ∧ x ≤ 51 := hx
     have g4' := grown_two (World.grownBy_alloc w3 (.cells #[.int .i64 0, .int .i64 51] 3) (some p)) g4
     have F4 := Lib.hid (F3.out.trans g4')
     have Y4 := Lib.hid ((g4'.block gx (Array.getElem?_eq_some_iff.1 Y3.out).1 (fun e => by cases e; omega)).trans Y3.out)
     have C4 := Lib.hid c4
     obtain ⟨v0, v1, v2, v3, v4, v5⟩ := conf_three Y4.out
     clear c4 g4 g4'
     have C5 := Lib.hid (cur_set C4.out hold.out hpl 1 (.int .i64 x) (g := gx) (by omega))
     have F5 := Lib.hid (grown_set_new F4.out (g := gx) (by omega) 1 (.int .i64 x))
     have Y5 := Lib.hid (show (w4.setCell ⟨gx, 1, none⟩ (.int .i64 x)).heap[gx]? = some (.cells #[.int .i64 ev, .int .i64 x, .bool pk] 26 (0, 0)) from set_block (k := 1) (.int .i64 x) Y4.out)
     have HX := Lib.hid ((F5.out.block w.heap.size (Array.getElem?_eq_some_iff.1 X0.out).1 (fun e => by cases e; omega)).trans X0.out)
     obtain ⟨w5, hw5⟩ : ∃ W, w4.setCell ⟨gx, 1, none⟩ (.int .i64 x) = W := ⟨_, rfl⟩
     rw [hw5] at C5 F5 Y5 HX
     obtain ⟨u0, u1, u2, _, _, _⟩ := conf_three Y5.out
     obtain ⟨y0, y1, y2, z0, z1, z2⟩ := conf_three HX.out
     go_wp2_with fail
     refine bodyPost_ret (results_cell_row Tryz.results48 _ _ w.heap.size _ _ _ _ rfl (set_conf HX.out (.int .i64 ev) (.int .i64 x) (.bool pk)) Tryz.underlying26 rfl (by rw [sizeConf']; rfl)) rfl ?_
     exact ⟨ev, x, pk, i4, h4, ⟨by omega, by omega, by omega, by omega⟩, rfl, cur_set (cur_set (cur_set C5.out hold.out hpl _ _) hold.out hpl _ _) hold.out hpl _ _, grown_set_new (grown_set_new (grown_set_new (G0.out.trans F5.out) (Nat.le_refl _) _ _) (Nat.le_refl _) _ _) (Nat.le_refl _) _ _⟩
   · obtain ⟨u0, u1, u2, _, _, _⟩ := conf_three Y3.out
     have HX := Lib.hid ((F3.out.block w.heap.size (Array.getElem?_eq_some_iff.1 X0.out).1 (fun e => by cases e; omega)).trans X0.out)
     obtain ⟨y0, y1, y2, z0, z1, z2⟩ := conf_three HX.out
     go_wp2_with fail
     refine bodyPost_ret (results_cell_row Tryz.results48 _ _ w.heap.size _ _ _ _ rfl (set_conf HX.out (.int .i64 ev) (.int .i64 sz) (.bool pk)) Tryz.underlying26 rfl (by rw [sizeConf']; rfl)) rfl ?_
     exact ⟨ev, sz, pk, i3, h3, ⟨by omega, by omega, by omega, by omega⟩, rfl, cur_set (cur_set (cur_set C3.out hold.out hpl _ _) hold.out hpl _ _) hold.out hpl _ _, grown_set_new (grown_set_new (grown_set_new (G0.out.trans F3.out) (Nat.le_refl _) _ _) (Nat.le_refl _) _ _) (Nat.le_refl _) _ _⟩
end Go.Proofs.YtkomnnijnggbpaaGreatDoor
