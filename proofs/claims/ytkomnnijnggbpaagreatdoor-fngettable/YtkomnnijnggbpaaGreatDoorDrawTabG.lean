/- The model's draw of a text that may be a table. -/
import Derived.Test.YtkomnnijnggbpaaGreatDoorDrawTable
import Derived.Deep.RegionHeld
import Derived.Test.YtkomnnijnggbpaaGreatDoorZ1
namespace Go.Proofs.YtkomnnijnggbpaaGreatDoor
open Go.RowKit
set_option linter.unusedVariables false
theorem zeros_at (n g : Nat) (W : World) (h : W.heap[g]? = some (zerosObj n)) : (convert 22 9 (.slice (some ⟨g, 0, none⟩) n n)).run Tryz.prog W = .ok (.string ⟨(List.replicate n 0).toArray⟩) W :=
 str_of_cells (List.replicate n 0) (by simp) (fun j hj => by
   rw [List.length_replicate] at hj
   simp only [World.cell?, h, zerosObj]
   unfold u8v
   simp [List.getD_eq_getElem?_getD, hj])
theorem zeros_size (n : Nat) : (⟨(List.replicate n 0).toArray⟩ : ByteArray).size = n := by simp [ByteArray.size]
theorem new_four (W : World) (X Y : ByteArray) (g : Nat) (hg : W.heap.size = g) (hX : X.size = 38) (hY : Y.size = 40) : ∀ j, j < 4 → ∃ x, (W.alloc (.cells #[.string ⟨#[]⟩, .string ⟨#[83, 72, 69, 76, 70, 49]⟩, .string X, .string Y] 9)).drew.cell? ⟨g, j, none⟩ = some (.string x) ∧ x.size ≤ 140000 := by
 subst hg
 exact new_strs (P := fun x => x.size ≤ 140000) W [⟨#[]⟩, ⟨#[83, 72, 69, 76, 70, 49]⟩, X, Y] 9 (fun x hx => by
   simp only [List.mem_cons, List.not_mem_nil, or_false] at hx
   rcases hx with rfl | rfl | rfl | rfl
   · decide
   · decide
   · omega
   · omega)
def TabTextOf (w : World) (e : Ending) (w' : World) : Prop := ∃ (s : ByteArray), e = .returned (.string s) ∧ s.size ≤ 140000 ∧ Below w.heap.size w w'

set_option maxHeartbeats 2000000 in
set_option maxRecDepth 100000 in
theorem drawGetTable_at (a : Option Addr) (len cap : Nat) (zs : List Int) (w : World) (hr : Bytes w w.heap.size a len zs) :
   Calls Tryz.prog 21 #[.slice a len cap] w (TabTextOf w) := by
 have HR := Lib.hid hr
 clear hr
 go_enter Tryz.func21, Tryz.ntmps21
 go_wp2_with fail
 refine (l01New_at a len cap zs _ HR.out).mono ?_
 rintro e w1 ⟨rfl, ⟨h, c1⟩, g0⟩
 have C1 := Lib.hid c1
 have hpl := c1.lt
 clear c1
 go_wp2_with fail
 refine (l01Once_at _ _ _ _ _ _ _ _ 12 _ C1.out (by omega) (by omega)).mono ?_
 rintro e w2 ⟨b, i2, h2, rfl, c2, g2⟩
 have C2 := Lib.hid c2
 have G2 := Lib.hid g2
 clear c2 g2
 cases b
 · go_wp2_with fail
   refine (l07Table_at _ _ _ _ _ _ _ _ _ C2.out).mono ?_
   rintro e w3 ⟨s, i3, h3, hs, rfl, c3, g3⟩
   have hs : s.size ≤ 140000 := hs
   have G3 := Lib.hid (G2.out.trans g3)
   clear c3 g3
   go_wp2
   go_ret
   exact ⟨s, rfl, hs, below_new g0 G3.out⟩
 · have hm1 : ∀ W : World, (Instr.makeSlice 22 (.int .i64 32) (.int .i64 32)).run Tryz.prog W = .ok (.slice (some ⟨W.heap.size, 0, none⟩) 32 32) (W.alloc (zerosObj 32)) := fun W => zeros_made 32 W (by omega)
   have hm2 : ∀ W : World, (Instr.makeSlice 22 (.int .i64 40) (.int .i64 40)).run Tryz.prog W = .ok (.slice (some ⟨W.heap.size, 0, none⟩) 40 40) (W.alloc (zerosObj 40)) := fun W => zeros_made 40 W (by omega)
   have a1 := zeros_at 32 w2.heap.size (w2.alloc (zerosObj 32)).drew (alloc_at w2 _)
   have a2 := zeros_at 32 w2.heap.size ((w2.alloc (zerosObj 32)).alloc (zerosObj 40)).drew ((alloc_old (w2.alloc (zerosObj 32)) _ (by simp)).trans (alloc_at w2 _))
   have a3 := zeros_at 32 (w2.heap.size + 1) ((w2.alloc (zerosObj 40)).alloc (zerosObj 32)).drew (show ((w2.alloc (zerosObj 40)).alloc (zerosObj 32)).heap[w2.heap.size + 1]? = some (zerosObj 32) by have := alloc_at (w2.alloc (zerosObj 40)) (zerosObj 32); rwa [show (w2.alloc (zerosObj 40)).heap.size = w2.heap.size + 1 by simp] at this)
   have b1 := zeros_at 40 w2.heap.size (w2.alloc (zerosObj 40)).drew (alloc_at w2 _)
   have b2 := zeros_at 40 w2.heap.size ((w2.alloc (zerosObj 40)).alloc (zerosObj 32)).drew ((alloc_old (w2.alloc (zerosObj 40)) _ (by simp)).trans (alloc_at w2 _))
   have b3 := zeros_at 40 (w2.heap.size + 1) ((w2.alloc (zerosObj 32)).alloc (zerosObj 40)).drew (show ((w2.alloc (zerosObj 32)).alloc (zerosObj 40)).heap[w2.heap.size + 1]? = some (zerosObj 40) by have := alloc_at (w2.alloc (zerosObj 32)) (zerosObj 40); rwa [show (w2.alloc (zerosObj 32)).heap.size = w2.heap.size + 1 by simp] at this)
   obtain ⟨X, hX⟩ : ∃ X, (⟨(List.replicate 32 0).toArray⟩ : ByteArray) = X := ⟨_, rfl⟩
   obtain ⟨Y, hY⟩ : ∃ Y, (⟨(List.replicate 40 0).toArray⟩ : ByteArray) = Y := ⟨_, rfl⟩
   rw [hX] at a1 a2 a3
   rw [hY] at b1 b2 b3
   have hXs : X.size = 32 := by rw [← hX]; exact zeros_size 32
   have hYs : Y.size = 40 := by rw [← hY]; exact zeros_size 40
   clear hX hY
   have q1 : ¬ 9223372036854775807 < X.size + 6 := by omega
   go_wp2_with fail
   go_region_held (fun w' => True) (exact trivial) (first | (go_at_call 64; refine (l01Pick_at (fun t => t.size ≤ 140000) _ _ _ _ _ _ _ _ (w2.heap.size + 1 + 1) 4 4 _ (((C2.out.new _).new _).new _ |>.drewN 1) (by omega) (by omega) (by simp) (by have := C2.out.lt; omega) (new_four _ _ _ _ (by simp) (by rw [ByteArray.size_append, hXs]; rfl) hYs)).mono ?_; rintro e w3 ⟨x, i3, h3, hx, rfl, c3, g3⟩; have hx : x.size ≤ 140000 := hx; have G3 := Lib.hid g3; clear c3 g3))
   all_goals go_wp2_with fail
   all_goals go_ret
   all_goals exact ⟨x, rfl, hx, below_new g0 (G2.out.trans (grown_two (grown_two (grown_new1 (grown_new1 (World.grownBy_alloc w2 _ _) _) _) (grown_drewN _ 1 _)) G3.out))⟩
end Go.Proofs.YtkomnnijnggbpaaGreatDoor
