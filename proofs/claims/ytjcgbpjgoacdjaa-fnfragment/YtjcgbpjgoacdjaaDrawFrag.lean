/- The model's draw of a kind and a text for a fragment. -/
import Derived.Test.YtjcgbpjgoacdjaaDrawLog
import Derived.Test.YtjcgbpjgoacdjaaZ0
namespace Go.Proofs.Ytjcgbpjgoacdjaa
open Go.RowKit
set_option linter.unusedVariables false

def IntText (n : Nat) (w : World) (e : Ending) (w' : World) : Prop := ∃ (k : Int) (s : ByteArray), 0 ≤ k ∧ k ≤ 5 ∧ s.size ≤ n ∧ e = .returned (.tuple #[.int .i64 k, .string s]) ∧ Below w.heap.size w w'
def ZB (W : World) (p g n : Nat) : Prop := W.heap[g]? = some (zerosObj n) ∧ p < g
theorem zb_new {p : Nat} (W : World) (n : Nat) (hp : p < W.heap.size) : ZB (W.alloc (zerosObj n)) p W.heap.size n := ⟨by show (W.heap.push (zerosObj n))[W.heap.size]? = _; exact Array.getElem?_push_size, hp⟩
theorem ZB.grown {W W' : World} {p g n : Nat} (h : ZB W p g n) (hg : W.grownBy W' (some p)) : ZB W' p g n := by
 obtain ⟨hl, _⟩ := Array.getElem?_eq_some_iff.1 h.1
 exact ⟨(hg.block g hl (by have := h.2; simp; omega)).trans h.1, h.2⟩
theorem ZB.alloc {W : World} {p g n : Nat} (h : ZB W p g n) (m : Nat) : ZB (W.alloc (zerosObj m)) p g n := h.grown (World.grownBy_alloc W _ _)
theorem zb_text {W : World} {p g n : Nat} (h : ZB W p g n) (hn : n ≤ 100) : (convert 22 9 (.slice (some ⟨g, 0, none⟩) n n)).run Try.prog W = .ok (.string ⟨(List.replicate n 0).toArray⟩) W :=
 str_of_cells (List.replicate n 0) (by simp) (fun j hj => by
   rw [List.length_replicate] at hj
   have h1 := h.1
   unfold zerosObj at h1
   simp only [World.cell?, h1]
   unfold u8v
   simp [List.getD_eq_getElem?_getD, hj])
theorem hw_new {w2 W : World} {T p : Nat} {a : Option Addr} {len cap : Nat} {zs : List Int} {i : Nat} {h : Int} (d : CurAt W T p a len cap zs i h ∧ w2.grownBy W (some p)) (n : Nat) :
   CurAt (W.alloc (zerosObj n)) T p a len cap zs i h ∧ w2.grownBy (W.alloc (zerosObj n)) (some p) := ⟨d.1.new _, d.2.trans (World.grownBy_alloc _ _ _)⟩
theorem frag_pick {w2 W : World} {T p : Nat} {a : Option Addr} {len cap : Nat} {zs : List Int} {i : Nat} {h : Int} {Z7 Z8 A : ByteArray} (d : CurAt W T p a len cap zs i h ∧ w2.grownBy W (some p))
   (h7 : (⟨(List.replicate 57 0).toArray⟩ : ByteArray) = Z7) (h8 : (⟨(List.replicate 58 0).toArray⟩ : ByteArray) = Z8) (hA : A.size = 5) :
   Calls Try.prog 53 #[.pointer (some ⟨p, 0, none⟩), .slice (some ⟨W.heap.size, 0, none⟩) 5 5] (W.alloc (.cells #[.string ⟨#[]⟩, .string ⟨#[97, 98, 99]⟩, .string Z7, .string Z8, .string A] 9))
     (SomeStr (fun x => x.size ≤ 60) T p a len cap zs (W.alloc (.cells #[.string ⟨#[]⟩, .string ⟨#[97, 98, 99]⟩, .string Z7, .string Z8, .string A] 9))) :=
 l01Pick_at (fun x => x.size ≤ 60) _ _ _ _ _ _ _ _ W.heap.size 5 5 _ (d.1.new _) (by omega) (by omega) (by simp) (by have := d.1.lt; omega) (new_strs W [⟨#[]⟩, ⟨#[97, 98, 99]⟩, Z7, Z8, A] 9 (fun x hx => by
   simp only [List.mem_cons, List.not_mem_nil, or_false] at hx
   rcases hx with rfl | rfl | rfl | rfl | rfl
   · decide
   · decide
   · rw [← h7, zero_list]; omega
   · rw [← h8, zero_list]; omega
   · rw [hA]; omega))

set_option maxHeartbeats 8000000 in
set_option maxRecDepth 100000 in
theorem drawFragment_at (a : Option Addr) (len cap : Nat) (zs : List Int) (w : World) (hr : Bytes w w.heap.size a len zs) :
   Calls Try.prog 32 #[.slice a len cap] w (IntText 60 w) := by
 have HR := Lib.hid hr
 clear hr
 obtain ⟨Z7, z7⟩ : ∃ Z : ByteArray, (⟨(List.replicate 57 0).toArray⟩ : ByteArray) = Z := ⟨_, rfl⟩
 obtain ⟨Z8, z8⟩ : ∃ Z : ByteArray, (⟨(List.replicate 58 0).toArray⟩ : ByteArray) = Z := ⟨_, rfl⟩
 have HZ57 := Lib.hid z7
 have HZ58 := Lib.hid z8
 clear z7 z8
 go_enter Try.func32, Try.ntmps32
 go_wp2_with fail
 refine (l01New_at a len cap zs _ HR.out).mono ?_
 rintro e w1 ⟨rfl, ⟨h, c1⟩, g0⟩
 have C1 := Lib.hid c1
 have hpl := c1.lt
 have G0 := Lib.hid g0
 clear c1 g0
 go_wp2_with fail
 refine (l01PickInt_at (fun x => 0 ≤ x ∧ x ≤ 5) _ _ _ _ _ _ _ _ w1.heap.size 6 6 _ (C1.out.new _) (by omega) (by omega) (by simp) (by omega) (new_ints w1 [1, 2, 3, 4, 0, 5] 3 (by decide))).mono ?_
 rintro e w2 ⟨k, i2, h2, hk, rfl, c2, g2⟩
 have hk : 0 ≤ k ∧ k ≤ 5 := hk
 have G2 := Lib.hid ((World.grownBy_alloc w1 _ (some w.heap.size)).trans g2)
 have HW0 := Lib.hid (And.intro (c2.below (show Below w2.heap.size w2 w2.drew from below_draws (w := w2) 1)) (show w2.grownBy w2.drew (some w.heap.size) from grown_drewN w2 1 _))
 clear c2 g2
 go_wp2_with fail
 refine wp_region_held_drew (S := (fun _ => True)) (by kernel_rfl) trivial (fun hHeld => ?_)
 generalize hW0 : w2.drew = W0 at HW0 ⊢
 clear hW0
 refine take_at (i := 0) (d := some 11) (v := ?_) rfl rfl (by kernel_rfl) (by kernel_rfl) (by kernel_rfl) (fun _ _ _ h => h) (by rfl) ?hy ?_
 case hy => (intro w; go_simp <;> with_reducible rfl)
 simp only [Act.put, sA, sB, sC]
 refine take_at (i := 1) (d := some 12) (v := ?_) rfl rfl (by kernel_rfl) (by kernel_rfl) (by kernel_rfl) (fun _ _ _ h => h) (by rfl) ?hy ?_
 case hy => (intro w; go_simp <;> with_reducible rfl)
 simp only [Act.put, sA, sB, sC]
 refine take_at (i := 6) (d := some 17) (v := ?_) rfl rfl (by kernel_rfl) (by kernel_rfl) (by kernel_rfl) (fun _ _ _ h => h) (by rfl) ?hy ?_
 case hy => (intro w; go_simp <;> with_reducible rfl)
 simp only [Act.put, sA, sB, sC]
 refine wpAnyH_ready (rs := [2, 4, 7]) (by kernel_rfl) (by simp) ?_
 refine (AllReadyH.cons rfl (fun K hK => ?_) (AllReadyH.cons rfl (fun K hK => ?_) (AllReadyH.cons rfl (fun K hK => ?_) AllReadyH.nil)))
 · have hm : (Instr.makeSlice 22 (.int .i64 57) (.int .i64 57)).run Try.prog W0 = .ok (.slice (some ⟨W0.heap.size, 0, none⟩) 57 57) (W0.alloc (zerosObj 57)) := zeros_made 57 W0 (by omega)
   have X2 := Lib.hid (zb_new W0 57 HW0.out.1.lt)
   have HW1 := Lib.hid (hw_new HW0.out 57)
   obtain ⟨W1, hW1⟩ : ∃ W, W0.alloc (zerosObj 57) = W := ⟨_, rfl⟩
   obtain ⟨g2, hg2⟩ : ∃ g, W0.heap.size = g := ⟨_, rfl⟩
   rw [hW1] at hm X2 HW1
   rw [hg2] at hm X2
   clear hW1 hg2
   go_simp
   clear hm
   refine hK.out _ _ trivial (fun hHeld => ?_)
   clear hK K
   refine wpAnyH_ready (rs := [3, 4, 7]) (by kernel_rfl) (by simp) ?_
   refine (AllReadyH.cons rfl (fun K hK => ?_) (AllReadyH.cons rfl (fun K hK => ?_) (AllReadyH.cons rfl (fun K hK => ?_) AllReadyH.nil)))
   · have hz := zb_text X2.out (by omega)
     rw [HZ57.out] at hz
     go_simp
     clear hz
     refine hK.out _ _ trivial (fun hHeld => ?_)
     clear hK K
     refine wpAnyH_ready (rs := [4, 7]) (by kernel_rfl) (by simp) ?_
     refine (AllReadyH.cons rfl (fun K hK => ?_) (AllReadyH.cons rfl (fun K hK => ?_) AllReadyH.nil))
     · have hm : (Instr.makeSlice 22 (.int .i64 58) (.int .i64 58)).run Try.prog W1 = .ok (.slice (some ⟨W1.heap.size, 0, none⟩) 58 58) (W1.alloc (zerosObj 58)) := zeros_made 58 W1 (by omega)
       have X4 := Lib.hid (zb_new W1 58 HW1.out.1.lt)
       have HW2 := Lib.hid (hw_new HW1.out 58)
       obtain ⟨W2, hW2⟩ : ∃ W, W1.alloc (zerosObj 58) = W := ⟨_, rfl⟩
       obtain ⟨g4, hg4⟩ : ∃ g, W1.heap.size = g := ⟨_, rfl⟩
       rw [hW2] at hm X4 HW2
       rw [hg4] at hm X4
       clear hW2 hg4
       go_simp
       clear hm
       refine hK.out _ _ trivial (fun hHeld => ?_)
       clear hK K
       refine wpAnyH_ready (rs := [5, 7]) (by kernel_rfl) (by simp) ?_
       refine (AllReadyH.cons rfl (fun K hK => ?_) (AllReadyH.cons rfl (fun K hK => ?_) AllReadyH.nil))
       · have hz := zb_text X4.out (by omega)
         rw [HZ58.out] at hz
         go_simp
         clear hz
         refine hK.out _ _ trivial (fun hHeld => ?_)
         clear hK K
         refine wpAnyH_ready (rs := [7]) (by kernel_rfl) (by simp) ?_
         refine (AllReadyH.cons rfl (fun K hK => ?_) AllReadyH.nil)
         go_simp
         refine (l01Text_at _ _ _ _ _ _ _ _ 5 _ HW2.out.1 (by omega)).mono ?_
         rintro e W3 ⟨A, i3, h3, hA, rfl, c3, g3⟩
         have HW3 := Lib.hid (And.intro c3 (HW2.out.2.trans g3))
         clear c3 g3
         go_wp2_with fail
         refine hK.out _ _ trivial (fun hHeld => ?_)
         clear hK K
         refine wpAnyH_ready (rs := [8]) (by kernel_rfl) (by simp) ?_
         refine AllReadyH.cons rfl (fun K hK => ?_) AllReadyH.nil
         go_simp
         refine hK.out _ _ trivial (fun hHeld => ?_)
         clear hK K
         refine wpAnyH_ready (rs := [9]) (by kernel_rfl) (by simp) ?_
         refine AllReadyH.cons rfl (fun K hK => ?_) AllReadyH.nil
         go_simp
         refine (frag_pick HW3.out HZ57.out HZ58.out hA).mono ?_
         rintro e w9 ⟨y, i9, h9, hy, rfl, c9, g9⟩
         have hy : y.size ≤ 60 := hy
         have G9 := Lib.hid (HW3.out.2.trans ((World.grownBy_alloc _ _ (some w.heap.size)).trans g9))
         clear c9 g9
         go_wp2_with fail
         refine hK.out _ _ trivial (fun hHeld => ?_)
         clear hK K
         refine take_at (i := 10) (d := some 2) (v := ?_) rfl rfl (by kernel_rfl) (by kernel_rfl) (by kernel_rfl) (fun _ _ _ h => h) (by rfl) ?hy ?_
         case hy => (intro w; go_simp <;> with_reducible rfl)
         simp only [Act.put, sA, sB, sC]
         refine take_at (i := 11) (d := some 3) (v := ?_) rfl rfl (by kernel_rfl) (by kernel_rfl) (by kernel_rfl) (fun _ _ _ h => h) (by rfl) ?hy ?_
         case hy => (intro w; go_simp <;> with_reducible rfl)
         simp only [Act.put, sA, sB, sC]
         refine wpAnyH_done (by kernel_rfl) ?_ _
         go_wp2_with fail
         go_ret2
         exact ⟨k, y, hk.1, hk.2, hy, rfl, below_new G0.out (G2.out.trans G9.out)⟩
       · go_simp
         refine (l01Text_at _ _ _ _ _ _ _ _ 5 _ HW2.out.1 (by omega)).mono ?_
         rintro e W3 ⟨A, i3, h3, hA, rfl, c3, g3⟩
         have HW3 := Lib.hid (And.intro c3 (HW2.out.2.trans g3))
         have X4 := Lib.hid (ZB.grown X4.out g3)
         clear c3 g3
         go_wp2_with fail
         refine hK.out _ _ trivial (fun hHeld => ?_)
         clear hK K
         refine wpAnyH_ready (rs := [5]) (by kernel_rfl) (by simp) ?_
         refine (AllReadyH.cons rfl (fun K hK => ?_) AllReadyH.nil)
         have hz := zb_text X4.out (by omega)
         rw [HZ58.out] at hz
         go_simp
         clear hz
         refine hK.out _ _ trivial (fun hHeld => ?_)
         clear hK K
         refine wpAnyH_ready (rs := [8]) (by kernel_rfl) (by simp) ?_
         refine AllReadyH.cons rfl (fun K hK => ?_) AllReadyH.nil
         go_simp
         refine hK.out _ _ trivial (fun hHeld => ?_)
         clear hK K
         refine wpAnyH_ready (rs := [9]) (by kernel_rfl) (by simp) ?_
         refine AllReadyH.cons rfl (fun K hK => ?_) AllReadyH.nil
         go_simp
         refine (frag_pick HW3.out HZ57.out HZ58.out hA).mono ?_
         rintro e w9 ⟨y, i9, h9, hy, rfl, c9, g9⟩
         have hy : y.size ≤ 60 := hy
         have G9 := Lib.hid (HW3.out.2.trans ((World.grownBy_alloc _ _ (some w.heap.size)).trans g9))
         clear c9 g9
         go_wp2_with fail
         refine hK.out _ _ trivial (fun hHeld => ?_)
         clear hK K
         refine take_at (i := 10) (d := some 2) (v := ?_) rfl rfl (by kernel_rfl) (by kernel_rfl) (by kernel_rfl) (fun _ _ _ h => h) (by rfl) ?hy ?_
         case hy => (intro w; go_simp <;> with_reducible rfl)
         simp only [Act.put, sA, sB, sC]
         refine take_at (i := 11) (d := some 3) (v := ?_) rfl rfl (by kernel_rfl) (by kernel_rfl) (by kernel_rfl) (fun _ _ _ h => h) (by rfl) ?hy ?_
         case hy => (intro w; go_simp <;> with_reducible rfl)
         simp only [Act.put, sA, sB, sC]
         refine wpAnyH_done (by kernel_rfl) ?_ _
         go_wp2_with fail
         go_ret2
         exact ⟨k, y, hk.1, hk.2, hy, rfl, below_new G0.out (G2.out.trans G9.out)⟩
     · go_simp
       refine (l01Text_at _ _ _ _ _ _ _ _ 5 _ HW1.out.1 (by omega)).mono ?_
       rintro e W2 ⟨A, i3, h3, hA, rfl, c3, g3⟩
       have HW2 := Lib.hid (And.intro c3 (HW1.out.2.trans g3))
       clear c3 g3
       go_wp2_with fail
       refine hK.out _ _ trivial (fun hHeld => ?_)
       clear hK K
       refine wpAnyH_ready (rs := [4]) (by kernel_rfl) (by simp) ?_
       refine (AllReadyH.cons rfl (fun K hK => ?_) AllReadyH.nil)
       have hm : (Instr.makeSlice 22 (.int .i64 58) (.int .i64 58)).run Try.prog W2 = .ok (.slice (some ⟨W2.heap.size, 0, none⟩) 58 58) (W2.alloc (zerosObj 58)) := zeros_made 58 W2 (by omega)
       have X4 := Lib.hid (zb_new W2 58 HW2.out.1.lt)
       have HW3 := Lib.hid (hw_new HW2.out 58)
       obtain ⟨W3, hW3⟩ : ∃ W, W2.alloc (zerosObj 58) = W := ⟨_, rfl⟩
       obtain ⟨g4, hg4⟩ : ∃ g, W2.heap.size = g := ⟨_, rfl⟩
       rw [hW3] at hm X4 HW3
       rw [hg4] at hm X4
       clear hW3 hg4
       go_simp
       clear hm
       refine hK.out _ _ trivial (fun hHeld => ?_)
       clear hK K
       refine wpAnyH_ready (rs := [5]) (by kernel_rfl) (by simp) ?_
       refine (AllReadyH.cons rfl (fun K hK => ?_) AllReadyH.nil)
       have hz := zb_text X4.out (by omega)
       rw [HZ58.out] at hz
       go_simp
       clear hz
       refine hK.out _ _ trivial (fun hHeld => ?_)
       clear hK K
       refine wpAnyH_ready (rs := [8]) (by kernel_rfl) (by simp) ?_
       refine AllReadyH.cons rfl (fun K hK => ?_) AllReadyH.nil
       go_simp
       refine hK.out _ _ trivial (fun hHeld => ?_)
       clear hK K
       refine wpAnyH_ready (rs := [9]) (by kernel_rfl) (by simp) ?_
       refine AllReadyH.cons rfl (fun K hK => ?_) AllReadyH.nil
       go_simp
       refine (frag_pick HW3.out HZ57.out HZ58.out hA).mono ?_
       rintro e w9 ⟨y, i9, h9, hy, rfl, c9, g9⟩
       have hy : y.size ≤ 60 := hy
       have G9 := Lib.hid (HW3.out.2.trans ((World.grownBy_alloc _ _ (some w.heap.size)).trans g9))
       clear c9 g9
       go_wp2_with fail
       refine hK.out _ _ trivial (fun hHeld => ?_)
       clear hK K
       refine take_at (i := 10) (d := some 2) (v := ?_) rfl rfl (by kernel_rfl) (by kernel_rfl) (by kernel_rfl) (fun _ _ _ h => h) (by rfl) ?hy ?_
       case hy => (intro w; go_simp <;> with_reducible rfl)
       simp only [Act.put, sA, sB, sC]
       refine take_at (i := 11) (d := some 3) (v := ?_) rfl rfl (by kernel_rfl) (by kernel_rfl) (by kernel_rfl) (fun _ _ _ h => h) (by rfl) ?hy ?_
       case hy => (intro w; go_simp <;> with_reducible rfl)
       simp only [Act.put, sA, sB, sC]
       refine wpAnyH_done (by kernel_rfl) ?_ _
       go_wp2_with fail
       go_ret2
       exact ⟨k, y, hk.1, hk.2, hy, rfl, below_new G0.out (G2.out.trans G9.out)⟩
   · have hm : (Instr.makeSlice 22 (.int .i64 58) (.int .i64 58)).run Try.prog W1 = .ok (.slice (some ⟨W1.heap.size, 0, none⟩) 58 58) (W1.alloc (zerosObj 58)) := zeros_made 58 W1 (by omega)
     have X4 := Lib.hid (zb_new W1 58 HW1.out.1.lt)
     have HW2 := Lib.hid (hw_new HW1.out 58)
     have X2 := Lib.hid (ZB.alloc X2.out 58)
     obtain ⟨W2, hW2⟩ : ∃ W, W1.alloc (zerosObj 58) = W := ⟨_, rfl⟩
     obtain ⟨g4, hg4⟩ : ∃ g, W1.heap.size = g := ⟨_, rfl⟩
     rw [hW2] at hm X4 HW2 X2
     rw [hg4] at hm X4
     clear hW2 hg4
     go_simp
     clear hm
     refine hK.out _ _ trivial (fun hHeld => ?_)
     clear hK K
     refine wpAnyH_ready (rs := [3, 5, 7]) (by kernel_rfl) (by simp) ?_
     refine (AllReadyH.cons rfl (fun K hK => ?_) (AllReadyH.cons rfl (fun K hK => ?_) (AllReadyH.cons rfl (fun K hK => ?_) AllReadyH.nil)))
     · have hz := zb_text X2.out (by omega)
       rw [HZ57.out] at hz
       go_simp
       clear hz
       refine hK.out _ _ trivial (fun hHeld => ?_)
       clear hK K
       refine wpAnyH_ready (rs := [5, 7]) (by kernel_rfl) (by simp) ?_
       refine (AllReadyH.cons rfl (fun K hK => ?_) (AllReadyH.cons rfl (fun K hK => ?_) AllReadyH.nil))
       · have hz := zb_text X4.out (by omega)
         rw [HZ58.out] at hz
         go_simp
         clear hz
         refine hK.out _ _ trivial (fun hHeld => ?_)
         clear hK K
         refine wpAnyH_ready (rs := [7]) (by kernel_rfl) (by simp) ?_
         refine (AllReadyH.cons rfl (fun K hK => ?_) AllReadyH.nil)
         go_simp
         refine (l01Text_at _ _ _ _ _ _ _ _ 5 _ HW2.out.1 (by omega)).mono ?_
         rintro e W3 ⟨A, i3, h3, hA, rfl, c3, g3⟩
         have HW3 := Lib.hid (And.intro c3 (HW2.out.2.trans g3))
         clear c3 g3
         go_wp2_with fail
         refine hK.out _ _ trivial (fun hHeld => ?_)
         clear hK K
         refine wpAnyH_ready (rs := [8]) (by kernel_rfl) (by simp) ?_
         refine AllReadyH.cons rfl (fun K hK => ?_) AllReadyH.nil
         go_simp
         refine hK.out _ _ trivial (fun hHeld => ?_)
         clear hK K
         refine wpAnyH_ready (rs := [9]) (by kernel_rfl) (by simp) ?_
         refine AllReadyH.cons rfl (fun K hK => ?_) AllReadyH.nil
         go_simp
         refine (frag_pick HW3.out HZ57.out HZ58.out hA).mono ?_
         rintro e w9 ⟨y, i9, h9, hy, rfl, c9, g9⟩
         have hy : y.size ≤ 60 := hy
         have G9 := Lib.hid (HW3.out.2.trans ((World.grownBy_alloc _ _ (some w.heap.size)).trans g9))
         clear c9 g9
         go_wp2_with fail
         refine hK.out _ _ trivial (fun hHeld => ?_)
         clear hK K
         refine take_at (i := 10) (d := some 2) (v := ?_) rfl rfl (by kernel_rfl) (by kernel_rfl) (by kernel_rfl) (fun _ _ _ h => h) (by rfl) ?hy ?_
         case hy => (intro w; go_simp <;> with_reducible rfl)
         simp only [Act.put, sA, sB, sC]
         refine take_at (i := 11) (d := some 3) (v := ?_) rfl rfl (by kernel_rfl) (by kernel_rfl) (by kernel_rfl) (fun _ _ _ h => h) (by rfl) ?hy ?_
         case hy => (intro w; go_simp <;> with_reducible rfl)
         simp only [Act.put, sA, sB, sC]
         refine wpAnyH_done (by kernel_rfl) ?_ _
         go_wp2_with fail
         go_ret2
         exact ⟨k, y, hk.1, hk.2, hy, rfl, below_new G0.out (G2.out.trans G9.out)⟩
       · go_simp
         refine (l01Text_at _ _ _ _ _ _ _ _ 5 _ HW2.out.1 (by omega)).mono ?_
         rintro e W3 ⟨A, i3, h3, hA, rfl, c3, g3⟩
         have HW3 := Lib.hid (And.intro c3 (HW2.out.2.trans g3))
         have X4 := Lib.hid (ZB.grown X4.out g3)
         clear c3 g3
         go_wp2_with fail
         refine hK.out _ _ trivial (fun hHeld => ?_)
         clear hK K
         refine wpAnyH_ready (rs := [5]) (by kernel_rfl) (by simp) ?_
         refine (AllReadyH.cons rfl (fun K hK => ?_) AllReadyH.nil)
         have hz := zb_text X4.out (by omega)
         rw [HZ58.out] at hz
         go_simp
         clear hz
         refine hK.out _ _ trivial (fun hHeld => ?_)
         clear hK K
         refine wpAnyH_ready (rs := [8]) (by kernel_rfl) (by simp) ?_
         refine AllReadyH.cons rfl (fun K hK => ?_) AllReadyH.nil
         go_simp
         refine hK.out _ _ trivial (fun hHeld => ?_)
         clear hK K
         refine wpAnyH_ready (rs := [9]) (by kernel_rfl) (by simp) ?_
         refine AllReadyH.cons rfl (fun K hK => ?_) AllReadyH.nil
         go_simp
         refine (frag_pick HW3.out HZ57.out HZ58.out hA).mono ?_
         rintro e w9 ⟨y, i9, h9, hy, rfl, c9, g9⟩
         have hy : y.size ≤ 60 := hy
         have G9 := Lib.hid (HW3.out.2.trans ((World.grownBy_alloc _ _ (some w.heap.size)).trans g9))
         clear c9 g9
         go_wp2_with fail
         refine hK.out _ _ trivial (fun hHeld => ?_)
         clear hK K
         refine take_at (i := 10) (d := some 2) (v := ?_) rfl rfl (by kernel_rfl) (by kernel_rfl) (by kernel_rfl) (fun _ _ _ h => h) (by rfl) ?hy ?_
         case hy => (intro w; go_simp <;> with_reducible rfl)
         simp only [Act.put, sA, sB, sC]
         refine take_at (i := 11) (d := some 3) (v := ?_) rfl rfl (by kernel_rfl) (by kernel_rfl) (by kernel_rfl) (fun _ _ _ h => h) (by rfl) ?hy ?_
         case hy => (intro w; go_simp <;> with_reducible rfl)
         simp only [Act.put, sA, sB, sC]
         refine wpAnyH_done (by kernel_rfl) ?_ _
         go_wp2_with fail
         go_ret2
         exact ⟨k, y, hk.1, hk.2, hy, rfl, below_new G0.out (G2.out.trans G9.out)⟩
     · have hz := zb_text X4.out (by omega)
       rw [HZ58.out] at hz
       go_simp
       clear hz
       refine hK.out _ _ trivial (fun hHeld => ?_)
       clear hK K
       refine wpAnyH_ready (rs := [3, 7]) (by kernel_rfl) (by simp) ?_
       refine (AllReadyH.cons rfl (fun K hK => ?_) (AllReadyH.cons rfl (fun K hK => ?_) AllReadyH.nil))
       · have hz := zb_text X2.out (by omega)
         rw [HZ57.out] at hz
         go_simp
         clear hz
         refine hK.out _ _ trivial (fun hHeld => ?_)
         clear hK K
         refine wpAnyH_ready (rs := [7]) (by kernel_rfl) (by simp) ?_
         refine (AllReadyH.cons rfl (fun K hK => ?_) AllReadyH.nil)
         go_simp
         refine (l01Text_at _ _ _ _ _ _ _ _ 5 _ HW2.out.1 (by omega)).mono ?_
         rintro e W3 ⟨A, i3, h3, hA, rfl, c3, g3⟩
         have HW3 := Lib.hid (And.intro c3 (HW2.out.2.trans g3))
         clear c3 g3
         go_wp2_with fail
         refine hK.out _ _ trivial (fun hHeld => ?_)
         clear hK K
         refine wpAnyH_ready (rs := [8]) (by kernel_rfl) (by simp) ?_
         refine AllReadyH.cons rfl (fun K hK => ?_) AllReadyH.nil
         go_simp
         refine hK.out _ _ trivial (fun hHeld => ?_)
         clear hK K
         refine wpAnyH_ready (rs := [9]) (by kernel_rfl) (by simp) ?_
         refine AllReadyH.cons rfl (fun K hK => ?_) AllReadyH.nil
         go_simp
         refine (frag_pick HW3.out HZ57.out HZ58.out hA).mono ?_
         rintro e w9 ⟨y, i9, h9, hy, rfl, c9, g9⟩
         have hy : y.size ≤ 60 := hy
         have G9 := Lib.hid (HW3.out.2.trans ((World.grownBy_alloc _ _ (some w.heap.size)).trans g9))
         clear c9 g9
         go_wp2_with fail
         refine hK.out _ _ trivial (fun hHeld => ?_)
         clear hK K
         refine take_at (i := 10) (d := some 2) (v := ?_) rfl rfl (by kernel_rfl) (by kernel_rfl) (by kernel_rfl) (fun _ _ _ h => h) (by rfl) ?hy ?_
         case hy => (intro w; go_simp <;> with_reducible rfl)
         simp only [Act.put, sA, sB, sC]
         refine take_at (i := 11) (d := some 3) (v := ?_) rfl rfl (by kernel_rfl) (by kernel_rfl) (by kernel_rfl) (fun _ _ _ h => h) (by rfl) ?hy ?_
         case hy => (intro w; go_simp <;> with_reducible rfl)
         simp only [Act.put, sA, sB, sC]
         refine wpAnyH_done (by kernel_rfl) ?_ _
         go_wp2_with fail
         go_ret2
         exact ⟨k, y, hk.1, hk.2, hy, rfl, below_new G0.out (G2.out.trans G9.out)⟩
       · go_simp
         refine (l01Text_at _ _ _ _ _ _ _ _ 5 _ HW2.out.1 (by omega)).mono ?_
         rintro e W3 ⟨A, i3, h3, hA, rfl, c3, g3⟩
         have HW3 := Lib.hid (And.intro c3 (HW2.out.2.trans g3))
         have X2 := Lib.hid (ZB.grown X2.out g3)
         clear c3 g3
         go_wp2_with fail
         refine hK.out _ _ trivial (fun hHeld => ?_)
         clear hK K
         refine wpAnyH_ready (rs := [3]) (by kernel_rfl) (by simp) ?_
         refine (AllReadyH.cons rfl (fun K hK => ?_) AllReadyH.nil)
         have hz := zb_text X2.out (by omega)
         rw [HZ57.out] at hz
         go_simp
         clear hz
         refine hK.out _ _ trivial (fun hHeld => ?_)
         clear hK K
         refine wpAnyH_ready (rs := [8]) (by kernel_rfl) (by simp) ?_
         refine AllReadyH.cons rfl (fun K hK => ?_) AllReadyH.nil
         go_simp
         refine hK.out _ _ trivial (fun hHeld => ?_)
         clear hK K
         refine wpAnyH_ready (rs := [9]) (by kernel_rfl) (by simp) ?_
         refine AllReadyH.cons rfl (fun K hK => ?_) AllReadyH.nil
         go_simp
         refine (frag_pick HW3.out HZ57.out HZ58.out hA).mono ?_
         rintro e w9 ⟨y, i9, h9, hy, rfl, c9, g9⟩
         have hy : y.size ≤ 60 := hy
         have G9 := Lib.hid (HW3.out.2.trans ((World.grownBy_alloc _ _ (some w.heap.size)).trans g9))
         clear c9 g9
         go_wp2_with fail
         refine hK.out _ _ trivial (fun hHeld => ?_)
         clear hK K
         refine take_at (i := 10) (d := some 2) (v := ?_) rfl rfl (by kernel_rfl) (by kernel_rfl) (by kernel_rfl) (fun _ _ _ h => h) (by rfl) ?hy ?_
         case hy => (intro w; go_simp <;> with_reducible rfl)
         simp only [Act.put, sA, sB, sC]
         refine take_at (i := 11) (d := some 3) (v := ?_) rfl rfl (by kernel_rfl) (by kernel_rfl) (by kernel_rfl) (fun _ _ _ h => h) (by rfl) ?hy ?_
         case hy => (intro w; go_simp <;> with_reducible rfl)
         simp only [Act.put, sA, sB, sC]
         refine wpAnyH_done (by kernel_rfl) ?_ _
         go_wp2_with fail
         go_ret2
         exact ⟨k, y, hk.1, hk.2, hy, rfl, below_new G0.out (G2.out.trans G9.out)⟩
     · go_simp
       refine (l01Text_at _ _ _ _ _ _ _ _ 5 _ HW2.out.1 (by omega)).mono ?_
       rintro e W3 ⟨A, i3, h3, hA, rfl, c3, g3⟩
       have HW3 := Lib.hid (And.intro c3 (HW2.out.2.trans g3))
       have X2 := Lib.hid (ZB.grown X2.out g3)
       have X4 := Lib.hid (ZB.grown X4.out g3)
       clear c3 g3
       go_wp2_with fail
       refine hK.out _ _ trivial (fun hHeld => ?_)
       clear hK K
       refine wpAnyH_ready (rs := [3, 5]) (by kernel_rfl) (by simp) ?_
       refine (AllReadyH.cons rfl (fun K hK => ?_) (AllReadyH.cons rfl (fun K hK => ?_) AllReadyH.nil))
       · have hz := zb_text X2.out (by omega)
         rw [HZ57.out] at hz
         go_simp
         clear hz
         refine hK.out _ _ trivial (fun hHeld => ?_)
         clear hK K
         refine wpAnyH_ready (rs := [5]) (by kernel_rfl) (by simp) ?_
         refine (AllReadyH.cons rfl (fun K hK => ?_) AllReadyH.nil)
         have hz := zb_text X4.out (by omega)
         rw [HZ58.out] at hz
         go_simp
         clear hz
         refine hK.out _ _ trivial (fun hHeld => ?_)
         clear hK K
         refine wpAnyH_ready (rs := [8]) (by kernel_rfl) (by simp) ?_
         refine AllReadyH.cons rfl (fun K hK => ?_) AllReadyH.nil
         go_simp
         refine hK.out _ _ trivial (fun hHeld => ?_)
         clear hK K
         refine wpAnyH_ready (rs := [9]) (by kernel_rfl) (by simp) ?_
         refine AllReadyH.cons rfl (fun K hK => ?_) AllReadyH.nil
         go_simp
         refine (frag_pick HW3.out HZ57.out HZ58.out hA).mono ?_
         rintro e w9 ⟨y, i9, h9, hy, rfl, c9, g9⟩
         have hy : y.size ≤ 60 := hy
         have G9 := Lib.hid (HW3.out.2.trans ((World.grownBy_alloc _ _ (some w.heap.size)).trans g9))
         clear c9 g9
         go_wp2_with fail
         refine hK.out _ _ trivial (fun hHeld => ?_)
         clear hK K
         refine take_at (i := 10) (d := some 2) (v := ?_) rfl rfl (by kernel_rfl) (by kernel_rfl) (by kernel_rfl) (fun _ _ _ h => h) (by rfl) ?hy ?_
         case hy => (intro w; go_simp <;> with_reducible rfl)
         simp only [Act.put, sA, sB, sC]
         refine take_at (i := 11) (d := some 3) (v := ?_) rfl rfl (by kernel_rfl) (by kernel_rfl) (by kernel_rfl) (fun _ _ _ h => h) (by rfl) ?hy ?_
         case hy => (intro w; go_simp <;> with_reducible rfl)
         simp only [Act.put, sA, sB, sC]
         refine wpAnyH_done (by kernel_rfl) ?_ _
         go_wp2_with fail
         go_ret2
         exact ⟨k, y, hk.1, hk.2, hy, rfl, below_new G0.out (G2.out.trans G9.out)⟩
       · have hz := zb_text X4.out (by omega)
         rw [HZ58.out] at hz
         go_simp
         clear hz
         refine hK.out _ _ trivial (fun hHeld => ?_)
         clear hK K
         refine wpAnyH_ready (rs := [3]) (by kernel_rfl) (by simp) ?_
         refine (AllReadyH.cons rfl (fun K hK => ?_) AllReadyH.nil)
         have hz := zb_text X2.out (by omega)
         rw [HZ57.out] at hz
         go_simp
         clear hz
         refine hK.out _ _ trivial (fun hHeld => ?_)
         clear hK K
         refine wpAnyH_ready (rs := [8]) (by kernel_rfl) (by simp) ?_
         refine AllReadyH.cons rfl (fun K hK => ?_) AllReadyH.nil
         go_simp
         refine hK.out _ _ trivial (fun hHeld => ?_)
         clear hK K
         refine wpAnyH_ready (rs := [9]) (by kernel_rfl) (by simp) ?_
         refine AllReadyH.cons rfl (fun K hK => ?_) AllReadyH.nil
         go_simp
         refine (frag_pick HW3.out HZ57.out HZ58.out hA).mono ?_
         rintro e w9 ⟨y, i9, h9, hy, rfl, c9, g9⟩
         have hy : y.size ≤ 60 := hy
         have G9 := Lib.hid (HW3.out.2.trans ((World.grownBy_alloc _ _ (some w.heap.size)).trans g9))
         clear c9 g9
         go_wp2_with fail
         refine hK.out _ _ trivial (fun hHeld => ?_)
         clear hK K
         refine take_at (i := 10) (d := some 2) (v := ?_) rfl rfl (by kernel_rfl) (by kernel_rfl) (by kernel_rfl) (fun _ _ _ h => h) (by rfl) ?hy ?_
         case hy => (intro w; go_simp <;> with_reducible rfl)
         simp only [Act.put, sA, sB, sC]
         refine take_at (i := 11) (d := some 3) (v := ?_) rfl rfl (by kernel_rfl) (by kernel_rfl) (by kernel_rfl) (fun _ _ _ h => h) (by rfl) ?hy ?_
         case hy => (intro w; go_simp <;> with_reducible rfl)
         simp only [Act.put, sA, sB, sC]
         refine wpAnyH_done (by kernel_rfl) ?_ _
         go_wp2_with fail
         go_ret2
         exact ⟨k, y, hk.1, hk.2, hy, rfl, below_new G0.out (G2.out.trans G9.out)⟩
   · go_simp
     refine (l01Text_at _ _ _ _ _ _ _ _ 5 _ HW1.out.1 (by omega)).mono ?_
     rintro e W2 ⟨A, i3, h3, hA, rfl, c3, g3⟩
     have HW2 := Lib.hid (And.intro c3 (HW1.out.2.trans g3))
     have X2 := Lib.hid (ZB.grown X2.out g3)
     clear c3 g3
     go_wp2_with fail
     refine hK.out _ _ trivial (fun hHeld => ?_)
     clear hK K
     refine wpAnyH_ready (rs := [3, 4]) (by kernel_rfl) (by simp) ?_
     refine (AllReadyH.cons rfl (fun K hK => ?_) (AllReadyH.cons rfl (fun K hK => ?_) AllReadyH.nil))
     · have hz := zb_text X2.out (by omega)
       rw [HZ57.out] at hz
       go_simp
       clear hz
       refine hK.out _ _ trivial (fun hHeld => ?_)
       clear hK K
       refine wpAnyH_ready (rs := [4]) (by kernel_rfl) (by simp) ?_
       refine (AllReadyH.cons rfl (fun K hK => ?_) AllReadyH.nil)
       have hm : (Instr.makeSlice 22 (.int .i64 58) (.int .i64 58)).run Try.prog W2 = .ok (.slice (some ⟨W2.heap.size, 0, none⟩) 58 58) (W2.alloc (zerosObj 58)) := zeros_made 58 W2 (by omega)
       have X4 := Lib.hid (zb_new W2 58 HW2.out.1.lt)
       have HW3 := Lib.hid (hw_new HW2.out 58)
       obtain ⟨W3, hW3⟩ : ∃ W, W2.alloc (zerosObj 58) = W := ⟨_, rfl⟩
       obtain ⟨g4, hg4⟩ : ∃ g, W2.heap.size = g := ⟨_, rfl⟩
       rw [hW3] at hm X4 HW3
       rw [hg4] at hm X4
       clear hW3 hg4
       go_simp
       clear hm
       refine hK.out _ _ trivial (fun hHeld => ?_)
       clear hK K
       refine wpAnyH_ready (rs := [5]) (by kernel_rfl) (by simp) ?_
       refine (AllReadyH.cons rfl (fun K hK => ?_) AllReadyH.nil)
       have hz := zb_text X4.out (by omega)
       rw [HZ58.out] at hz
       go_simp
       clear hz
       refine hK.out _ _ trivial (fun hHeld => ?_)
       clear hK K
       refine wpAnyH_ready (rs := [8]) (by kernel_rfl) (by simp) ?_
       refine AllReadyH.cons rfl (fun K hK => ?_) AllReadyH.nil
       go_simp
       refine hK.out _ _ trivial (fun hHeld => ?_)
       clear hK K
       refine wpAnyH_ready (rs := [9]) (by kernel_rfl) (by simp) ?_
       refine AllReadyH.cons rfl (fun K hK => ?_) AllReadyH.nil
       go_simp
       refine (frag_pick HW3.out HZ57.out HZ58.out hA).mono ?_
       rintro e w9 ⟨y, i9, h9, hy, rfl, c9, g9⟩
       have hy : y.size ≤ 60 := hy
       have G9 := Lib.hid (HW3.out.2.trans ((World.grownBy_alloc _ _ (some w.heap.size)).trans g9))
       clear c9 g9
       go_wp2_with fail
       refine hK.out _ _ trivial (fun hHeld => ?_)
       clear hK K
       refine take_at (i := 10) (d := some 2) (v := ?_) rfl rfl (by kernel_rfl) (by kernel_rfl) (by kernel_rfl) (fun _ _ _ h => h) (by rfl) ?hy ?_
       case hy => (intro w; go_simp <;> with_reducible rfl)
       simp only [Act.put, sA, sB, sC]
       refine take_at (i := 11) (d := some 3) (v := ?_) rfl rfl (by kernel_rfl) (by kernel_rfl) (by kernel_rfl) (fun _ _ _ h => h) (by rfl) ?hy ?_
       case hy => (intro w; go_simp <;> with_reducible rfl)
       simp only [Act.put, sA, sB, sC]
       refine wpAnyH_done (by kernel_rfl) ?_ _
       go_wp2_with fail
       go_ret2
       exact ⟨k, y, hk.1, hk.2, hy, rfl, below_new G0.out (G2.out.trans G9.out)⟩
     · have hm : (Instr.makeSlice 22 (.int .i64 58) (.int .i64 58)).run Try.prog W2 = .ok (.slice (some ⟨W2.heap.size, 0, none⟩) 58 58) (W2.alloc (zerosObj 58)) := zeros_made 58 W2 (by omega)
       have X4 := Lib.hid (zb_new W2 58 HW2.out.1.lt)
       have HW3 := Lib.hid (hw_new HW2.out 58)
       have X2 := Lib.hid (ZB.alloc X2.out 58)
       obtain ⟨W3, hW3⟩ : ∃ W, W2.alloc (zerosObj 58) = W := ⟨_, rfl⟩
       obtain ⟨g4, hg4⟩ : ∃ g, W2.heap.size = g := ⟨_, rfl⟩
       rw [hW3] at hm X4 HW3 X2
       rw [hg4] at hm X4
       clear hW3 hg4
       go_simp
       clear hm
       refine hK.out _ _ trivial (fun hHeld => ?_)
       clear hK K
       refine wpAnyH_ready (rs := [3, 5]) (by kernel_rfl) (by simp) ?_
       refine (AllReadyH.cons rfl (fun K hK => ?_) (AllReadyH.cons rfl (fun K hK => ?_) AllReadyH.nil))
       · have hz := zb_text X2.out (by omega)
         rw [HZ57.out] at hz
         go_simp
         clear hz
         refine hK.out _ _ trivial (fun hHeld => ?_)
         clear hK K
         refine wpAnyH_ready (rs := [5]) (by kernel_rfl) (by simp) ?_
         refine (AllReadyH.cons rfl (fun K hK => ?_) AllReadyH.nil)
         have hz := zb_text X4.out (by omega)
         rw [HZ58.out] at hz
         go_simp
         clear hz
         refine hK.out _ _ trivial (fun hHeld => ?_)
         clear hK K
         refine wpAnyH_ready (rs := [8]) (by kernel_rfl) (by simp) ?_
         refine AllReadyH.cons rfl (fun K hK => ?_) AllReadyH.nil
         go_simp
         refine hK.out _ _ trivial (fun hHeld => ?_)
         clear hK K
         refine wpAnyH_ready (rs := [9]) (by kernel_rfl) (by simp) ?_
         refine AllReadyH.cons rfl (fun K hK => ?_) AllReadyH.nil
         go_simp
         refine (frag_pick HW3.out HZ57.out HZ58.out hA).mono ?_
         rintro e w9 ⟨y, i9, h9, hy, rfl, c9, g9⟩
         have hy : y.size ≤ 60 := hy
         have G9 := Lib.hid (HW3.out.2.trans ((World.grownBy_alloc _ _ (some w.heap.size)).trans g9))
         clear c9 g9
         go_wp2_with fail
         refine hK.out _ _ trivial (fun hHeld => ?_)
         clear hK K
         refine take_at (i := 10) (d := some 2) (v := ?_) rfl rfl (by kernel_rfl) (by kernel_rfl) (by kernel_rfl) (fun _ _ _ h => h) (by rfl) ?hy ?_
         case hy => (intro w; go_simp <;> with_reducible rfl)
         simp only [Act.put, sA, sB, sC]
         refine take_at (i := 11) (d := some 3) (v := ?_) rfl rfl (by kernel_rfl) (by kernel_rfl) (by kernel_rfl) (fun _ _ _ h => h) (by rfl) ?hy ?_
         case hy => (intro w; go_simp <;> with_reducible rfl)
         simp only [Act.put, sA, sB, sC]
         refine wpAnyH_done (by kernel_rfl) ?_ _
         go_wp2_with fail
         go_ret2
         exact ⟨k, y, hk.1, hk.2, hy, rfl, below_new G0.out (G2.out.trans G9.out)⟩
       · have hz := zb_text X4.out (by omega)
         rw [HZ58.out] at hz
         go_simp
         clear hz
         refine hK.out _ _ trivial (fun hHeld => ?_)
         clear hK K
         refine wpAnyH_ready (rs := [3]) (by kernel_rfl) (by simp) ?_
         refine (AllReadyH.cons rfl (fun K hK => ?_) AllReadyH.nil)
         have hz := zb_text X2.out (by omega)
         rw [HZ57.out] at hz
         go_simp
         clear hz
         refine hK.out _ _ trivial (fun hHeld => ?_)
         clear hK K
         refine wpAnyH_ready (rs := [8]) (by kernel_rfl) (by simp) ?_
         refine AllReadyH.cons rfl (fun K hK => ?_) AllReadyH.nil
         go_simp
         refine hK.out _ _ trivial (fun hHeld => ?_)
         clear hK K
         refine wpAnyH_ready (rs := [9]) (by kernel_rfl) (by simp) ?_
         refine AllReadyH.cons rfl (fun K hK => ?_) AllReadyH.nil
         go_simp
         refine (frag_pick HW3.out HZ57.out HZ58.out hA).mono ?_
         rintro e w9 ⟨y, i9, h9, hy, rfl, c9, g9⟩
         have hy : y.size ≤ 60 := hy
         have G9 := Lib.hid (HW3.out.2.trans ((World.grownBy_alloc _ _ (some w.heap.size)).trans g9))
         clear c9 g9
         go_wp2_with fail
         refine hK.out _ _ trivial (fun hHeld => ?_)
         clear hK K
         refine take_at (i := 10) (d := some 2) (v := ?_) rfl rfl (by kernel_rfl) (by kernel_rfl) (by kernel_rfl) (fun _ _ _ h => h) (by rfl) ?hy ?_
         case hy => (intro w; go_simp <;> with_reducible rfl)
         simp only [Act.put, sA, sB, sC]
         refine take_at (i := 11) (d := some 3) (v := ?_) rfl rfl (by kernel_rfl) (by kernel_rfl) (by kernel_rfl) (fun _ _ _ h => h) (by rfl) ?hy ?_
         case hy => (intro w; go_simp <;> with_reducible rfl)
         simp only [Act.put, sA, sB, sC]
         refine wpAnyH_done (by kernel_rfl) ?_ _
         go_wp2_with fail
         go_ret2
         exact ⟨k, y, hk.1, hk.2, hy, rfl, below_new G0.out (G2.out.trans G9.out)⟩
 · have hm : (Instr.makeSlice 22 (.int .i64 58) (.int .i64 58)).run Try.prog W0 = .ok (.slice (some ⟨W0.heap.size, 0, none⟩) 58 58) (W0.alloc (zerosObj 58)) := zeros_made 58 W0 (by omega)
   have X4 := Lib.hid (zb_new W0 58 HW0.out.1.lt)
   have HW1 := Lib.hid (hw_new HW0.out 58)
   obtain ⟨W1, hW1⟩ : ∃ W, W0.alloc (zerosObj 58) = W := ⟨_, rfl⟩
   obtain ⟨g4, hg4⟩ : ∃ g, W0.heap.size = g := ⟨_, rfl⟩
   rw [hW1] at hm X4 HW1
   rw [hg4] at hm X4
   clear hW1 hg4
   go_simp
   clear hm
   refine hK.out _ _ trivial (fun hHeld => ?_)
   clear hK K
   refine wpAnyH_ready (rs := [2, 5, 7]) (by kernel_rfl) (by simp) ?_
   refine (AllReadyH.cons rfl (fun K hK => ?_) (AllReadyH.cons rfl (fun K hK => ?_) (AllReadyH.cons rfl (fun K hK => ?_) AllReadyH.nil)))
   · have hm : (Instr.makeSlice 22 (.int .i64 57) (.int .i64 57)).run Try.prog W1 = .ok (.slice (some ⟨W1.heap.size, 0, none⟩) 57 57) (W1.alloc (zerosObj 57)) := zeros_made 57 W1 (by omega)
     have X2 := Lib.hid (zb_new W1 57 HW1.out.1.lt)
     have HW2 := Lib.hid (hw_new HW1.out 57)
     have X4 := Lib.hid (ZB.alloc X4.out 57)
     obtain ⟨W2, hW2⟩ : ∃ W, W1.alloc (zerosObj 57) = W := ⟨_, rfl⟩
     obtain ⟨g2, hg2⟩ : ∃ g, W1.heap.size = g := ⟨_, rfl⟩
     rw [hW2] at hm X2 HW2 X4
     rw [hg2] at hm X2
     clear hW2 hg2
     go_simp
     clear hm
     refine hK.out _ _ trivial (fun hHeld => ?_)
     clear hK K
     refine wpAnyH_ready (rs := [3, 5, 7]) (by kernel_rfl) (by simp) ?_
     refine (AllReadyH.cons rfl (fun K hK => ?_) (AllReadyH.cons rfl (fun K hK => ?_) (AllReadyH.cons rfl (fun K hK => ?_) AllReadyH.nil)))
     · have hz := zb_text X2.out (by omega)
       rw [HZ57.out] at hz
       go_simp
       clear hz
       refine hK.out _ _ trivial (fun hHeld => ?_)
       clear hK K
       refine wpAnyH_ready (rs := [5, 7]) (by kernel_rfl) (by simp) ?_
       refine (AllReadyH.cons rfl (fun K hK => ?_) (AllReadyH.cons rfl (fun K hK => ?_) AllReadyH.nil))
       · have hz := zb_text X4.out (by omega)
         rw [HZ58.out] at hz
         go_simp
         clear hz
         refine hK.out _ _ trivial (fun hHeld => ?_)
         clear hK K
         refine wpAnyH_ready (rs := [7]) (by kernel_rfl) (by simp) ?_
         refine (AllReadyH.cons rfl (fun K hK => ?_) AllReadyH.nil)
         go_simp
         refine (l01Text_at _ _ _ _ _ _ _ _ 5 _ HW2.out.1 (by omega)).mono ?_
         rintro e W3 ⟨A, i3, h3, hA, rfl, c3, g3⟩
         have HW3 := Lib.hid (And.intro c3 (HW2.out.2.trans g3))
         clear c3 g3
         go_wp2_with fail
         refine hK.out _ _ trivial (fun hHeld => ?_)
         clear hK K
         refine wpAnyH_ready (rs := [8]) (by kernel_rfl) (by simp) ?_
         refine AllReadyH.cons rfl (fun K hK => ?_) AllReadyH.nil
         go_simp
         refine hK.out _ _ trivial (fun hHeld => ?_)
         clear hK K
         refine wpAnyH_ready (rs := [9]) (by kernel_rfl) (by simp) ?_
         refine AllReadyH.cons rfl (fun K hK => ?_) AllReadyH.nil
         go_simp
         refine (frag_pick HW3.out HZ57.out HZ58.out hA).mono ?_
         rintro e w9 ⟨y, i9, h9, hy, rfl, c9, g9⟩
         have hy : y.size ≤ 60 := hy
         have G9 := Lib.hid (HW3.out.2.trans ((World.grownBy_alloc _ _ (some w.heap.size)).trans g9))
         clear c9 g9
         go_wp2_with fail
         refine hK.out _ _ trivial (fun hHeld => ?_)
         clear hK K
         refine take_at (i := 10) (d := some 2) (v := ?_) rfl rfl (by kernel_rfl) (by kernel_rfl) (by kernel_rfl) (fun _ _ _ h => h) (by rfl) ?hy ?_
         case hy => (intro w; go_simp <;> with_reducible rfl)
         simp only [Act.put, sA, sB, sC]
         refine take_at (i := 11) (d := some 3) (v := ?_) rfl rfl (by kernel_rfl) (by kernel_rfl) (by kernel_rfl) (fun _ _ _ h => h) (by rfl) ?hy ?_
         case hy => (intro w; go_simp <;> with_reducible rfl)
         simp only [Act.put, sA, sB, sC]
         refine wpAnyH_done (by kernel_rfl) ?_ _
         go_wp2_with fail
         go_ret2
         exact ⟨k, y, hk.1, hk.2, hy, rfl, below_new G0.out (G2.out.trans G9.out)⟩
       · go_simp
         refine (l01Text_at _ _ _ _ _ _ _ _ 5 _ HW2.out.1 (by omega)).mono ?_
         rintro e W3 ⟨A, i3, h3, hA, rfl, c3, g3⟩
         have HW3 := Lib.hid (And.intro c3 (HW2.out.2.trans g3))
         have X4 := Lib.hid (ZB.grown X4.out g3)
         clear c3 g3
         go_wp2_with fail
         refine hK.out _ _ trivial (fun hHeld => ?_)
         clear hK K
         refine wpAnyH_ready (rs := [5]) (by kernel_rfl) (by simp) ?_
         refine (AllReadyH.cons rfl (fun K hK => ?_) AllReadyH.nil)
         have hz := zb_text X4.out (by omega)
         rw [HZ58.out] at hz
         go_simp
         clear hz
         refine hK.out _ _ trivial (fun hHeld => ?_)
         clear hK K
         refine wpAnyH_ready (rs := [8]) (by kernel_rfl) (by simp) ?_
         refine AllReadyH.cons rfl (fun K hK => ?_) AllReadyH.nil
         go_simp
         refine hK.out _ _ trivial (fun hHeld => ?_)
         clear hK K
         refine wpAnyH_ready (rs := [9]) (by kernel_rfl) (by simp) ?_
         refine AllReadyH.cons rfl (fun K hK => ?_) AllReadyH.nil
         go_simp
         refine (frag_pick HW3.out HZ57.out HZ58.out hA).mono ?_
         rintro e w9 ⟨y, i9, h9, hy, rfl, c9, g9⟩
         have hy : y.size ≤ 60 := hy
         have G9 := Lib.hid (HW3.out.2.trans ((World.grownBy_alloc _ _ (some w.heap.size)).trans g9))
         clear c9 g9
         go_wp2_with fail
         refine hK.out _ _ trivial (fun hHeld => ?_)
         clear hK K
         refine take_at (i := 10) (d := some 2) (v := ?_) rfl rfl (by kernel_rfl) (by kernel_rfl) (by kernel_rfl) (fun _ _ _ h => h) (by rfl) ?hy ?_
         case hy => (intro w; go_simp <;> with_reducible rfl)
         simp only [Act.put, sA, sB, sC]
         refine take_at (i := 11) (d := some 3) (v := ?_) rfl rfl (by kernel_rfl) (by kernel_rfl) (by kernel_rfl) (fun _ _ _ h => h) (by rfl) ?hy ?_
         case hy => (intro w; go_simp <;> with_reducible rfl)
         simp only [Act.put, sA, sB, sC]
         refine wpAnyH_done (by kernel_rfl) ?_ _
         go_wp2_with fail
         go_ret2
         exact ⟨k, y, hk.1, hk.2, hy, rfl, below_new G0.out (G2.out.trans G9.out)⟩
     · have hz := zb_text X4.out (by omega)
       rw [HZ58.out] at hz
       go_simp
       clear hz
       refine hK.out _ _ trivial (fun hHeld => ?_)
       clear hK K
       refine wpAnyH_ready (rs := [3, 7]) (by kernel_rfl) (by simp) ?_
       refine (AllReadyH.cons rfl (fun K hK => ?_) (AllReadyH.cons rfl (fun K hK => ?_) AllReadyH.nil))
       · have hz := zb_text X2.out (by omega)
         rw [HZ57.out] at hz
         go_simp
         clear hz
         refine hK.out _ _ trivial (fun hHeld => ?_)
         clear hK K
         refine wpAnyH_ready (rs := [7]) (by kernel_rfl) (by simp) ?_
         refine (AllReadyH.cons rfl (fun K hK => ?_) AllReadyH.nil)
         go_simp
         refine (l01Text_at _ _ _ _ _ _ _ _ 5 _ HW2.out.1 (by omega)).mono ?_
         rintro e W3 ⟨A, i3, h3, hA, rfl, c3, g3⟩
         have HW3 := Lib.hid (And.intro c3 (HW2.out.2.trans g3))
         clear c3 g3
         go_wp2_with fail
         refine hK.out _ _ trivial (fun hHeld => ?_)
         clear hK K
         refine wpAnyH_ready (rs := [8]) (by kernel_rfl) (by simp) ?_
         refine AllReadyH.cons rfl (fun K hK => ?_) AllReadyH.nil
         go_simp
         refine hK.out _ _ trivial (fun hHeld => ?_)
         clear hK K
         refine wpAnyH_ready (rs := [9]) (by kernel_rfl) (by simp) ?_
         refine AllReadyH.cons rfl (fun K hK => ?_) AllReadyH.nil
         go_simp
         refine (frag_pick HW3.out HZ57.out HZ58.out hA).mono ?_
         rintro e w9 ⟨y, i9, h9, hy, rfl, c9, g9⟩
         have hy : y.size ≤ 60 := hy
         have G9 := Lib.hid (HW3.out.2.trans ((World.grownBy_alloc _ _ (some w.heap.size)).trans g9))
         clear c9 g9
         go_wp2_with fail
         refine hK.out _ _ trivial (fun hHeld => ?_)
         clear hK K
         refine take_at (i := 10) (d := some 2) (v := ?_) rfl rfl (by kernel_rfl) (by kernel_rfl) (by kernel_rfl) (fun _ _ _ h => h) (by rfl) ?hy ?_
         case hy => (intro w; go_simp <;> with_reducible rfl)
         simp only [Act.put, sA, sB, sC]
         refine take_at (i := 11) (d := some 3) (v := ?_) rfl rfl (by kernel_rfl) (by kernel_rfl) (by kernel_rfl) (fun _ _ _ h => h) (by rfl) ?hy ?_
         case hy => (intro w; go_simp <;> with_reducible rfl)
         simp only [Act.put, sA, sB, sC]
         refine wpAnyH_done (by kernel_rfl) ?_ _
         go_wp2_with fail
         go_ret2
         exact ⟨k, y, hk.1, hk.2, hy, rfl, below_new G0.out (G2.out.trans G9.out)⟩
       · go_simp
         refine (l01Text_at _ _ _ _ _ _ _ _ 5 _ HW2.out.1 (by omega)).mono ?_
         rintro e W3 ⟨A, i3, h3, hA, rfl, c3, g3⟩
         have HW3 := Lib.hid (And.intro c3 (HW2.out.2.trans g3))
         have X2 := Lib.hid (ZB.grown X2.out g3)
         clear c3 g3
         go_wp2_with fail
         refine hK.out _ _ trivial (fun hHeld => ?_)
         clear hK K
         refine wpAnyH_ready (rs := [3]) (by kernel_rfl) (by simp) ?_
         refine (AllReadyH.cons rfl (fun K hK => ?_) AllReadyH.nil)
         have hz := zb_text X2.out (by omega)
         rw [HZ57.out] at hz
         go_simp
         clear hz
         refine hK.out _ _ trivial (fun hHeld => ?_)
         clear hK K
         refine wpAnyH_ready (rs := [8]) (by kernel_rfl) (by simp) ?_
         refine AllReadyH.cons rfl (fun K hK => ?_) AllReadyH.nil
         go_simp
         refine hK.out _ _ trivial (fun hHeld => ?_)
         clear hK K
         refine wpAnyH_ready (rs := [9]) (by kernel_rfl) (by simp) ?_
         refine AllReadyH.cons rfl (fun K hK => ?_) AllReadyH.nil
         go_simp
         refine (frag_pick HW3.out HZ57.out HZ58.out hA).mono ?_
         rintro e w9 ⟨y, i9, h9, hy, rfl, c9, g9⟩
         have hy : y.size ≤ 60 := hy
         have G9 := Lib.hid (HW3.out.2.trans ((World.grownBy_alloc _ _ (some w.heap.size)).trans g9))
         clear c9 g9
         go_wp2_with fail
         refine hK.out _ _ trivial (fun hHeld => ?_)
         clear hK K
         refine take_at (i := 10) (d := some 2) (v := ?_) rfl rfl (by kernel_rfl) (by kernel_rfl) (by kernel_rfl) (fun _ _ _ h => h) (by rfl) ?hy ?_
         case hy => (intro w; go_simp <;> with_reducible rfl)
         simp only [Act.put, sA, sB, sC]
         refine take_at (i := 11) (d := some 3) (v := ?_) rfl rfl (by kernel_rfl) (by kernel_rfl) (by kernel_rfl) (fun _ _ _ h => h) (by rfl) ?hy ?_
         case hy => (intro w; go_simp <;> with_reducible rfl)
         simp only [Act.put, sA, sB, sC]
         refine wpAnyH_done (by kernel_rfl) ?_ _
         go_wp2_with fail
         go_ret2
         exact ⟨k, y, hk.1, hk.2, hy, rfl, below_new G0.out (G2.out.trans G9.out)⟩
     · go_simp
       refine (l01Text_at _ _ _ _ _ _ _ _ 5 _ HW2.out.1 (by omega)).mono ?_
       rintro e W3 ⟨A, i3, h3, hA, rfl, c3, g3⟩
       have HW3 := Lib.hid (And.intro c3 (HW2.out.2.trans g3))
       have X2 := Lib.hid (ZB.grown X2.out g3)
       have X4 := Lib.hid (ZB.grown X4.out g3)
       clear c3 g3
       go_wp2_with fail
       refine hK.out _ _ trivial (fun hHeld => ?_)
       clear hK K
       refine wpAnyH_ready (rs := [3, 5]) (by kernel_rfl) (by simp) ?_
       refine (AllReadyH.cons rfl (fun K hK => ?_) (AllReadyH.cons rfl (fun K hK => ?_) AllReadyH.nil))
       · have hz := zb_text X2.out (by omega)
         rw [HZ57.out] at hz
         go_simp
         clear hz
         refine hK.out _ _ trivial (fun hHeld => ?_)
         clear hK K
         refine wpAnyH_ready (rs := [5]) (by kernel_rfl) (by simp) ?_
         refine (AllReadyH.cons rfl (fun K hK => ?_) AllReadyH.nil)
         have hz := zb_text X4.out (by omega)
         rw [HZ58.out] at hz
         go_simp
         clear hz
         refine hK.out _ _ trivial (fun hHeld => ?_)
         clear hK K
         refine wpAnyH_ready (rs := [8]) (by kernel_rfl) (by simp) ?_
         refine AllReadyH.cons rfl (fun K hK => ?_) AllReadyH.nil
         go_simp
         refine hK.out _ _ trivial (fun hHeld => ?_)
         clear hK K
         refine wpAnyH_ready (rs := [9]) (by kernel_rfl) (by simp) ?_
         refine AllReadyH.cons rfl (fun K hK => ?_) AllReadyH.nil
         go_simp
         refine (frag_pick HW3.out HZ57.out HZ58.out hA).mono ?_
         rintro e w9 ⟨y, i9, h9, hy, rfl, c9, g9⟩
         have hy : y.size ≤ 60 := hy
         have G9 := Lib.hid (HW3.out.2.trans ((World.grownBy_alloc _ _ (some w.heap.size)).trans g9))
         clear c9 g9
         go_wp2_with fail
         refine hK.out _ _ trivial (fun hHeld => ?_)
         clear hK K
         refine take_at (i := 10) (d := some 2) (v := ?_) rfl rfl (by kernel_rfl) (by kernel_rfl) (by kernel_rfl) (fun _ _ _ h => h) (by rfl) ?hy ?_
         case hy => (intro w; go_simp <;> with_reducible rfl)
         simp only [Act.put, sA, sB, sC]
         refine take_at (i := 11) (d := some 3) (v := ?_) rfl rfl (by kernel_rfl) (by kernel_rfl) (by kernel_rfl) (fun _ _ _ h => h) (by rfl) ?hy ?_
         case hy => (intro w; go_simp <;> with_reducible rfl)
         simp only [Act.put, sA, sB, sC]
         refine wpAnyH_done (by kernel_rfl) ?_ _
         go_wp2_with fail
         go_ret2
         exact ⟨k, y, hk.1, hk.2, hy, rfl, below_new G0.out (G2.out.trans G9.out)⟩
       · have hz := zb_text X4.out (by omega)
         rw [HZ58.out] at hz
         go_simp
         clear hz
         refine hK.out _ _ trivial (fun hHeld => ?_)
         clear hK K
         refine wpAnyH_ready (rs := [3]) (by kernel_rfl) (by simp) ?_
         refine (AllReadyH.cons rfl (fun K hK => ?_) AllReadyH.nil)
         have hz := zb_text X2.out (by omega)
         rw [HZ57.out] at hz
         go_simp
         clear hz
         refine hK.out _ _ trivial (fun hHeld => ?_)
         clear hK K
         refine wpAnyH_ready (rs := [8]) (by kernel_rfl) (by simp) ?_
         refine AllReadyH.cons rfl (fun K hK => ?_) AllReadyH.nil
         go_simp
         refine hK.out _ _ trivial (fun hHeld => ?_)
         clear hK K
         refine wpAnyH_ready (rs := [9]) (by kernel_rfl) (by simp) ?_
         refine AllReadyH.cons rfl (fun K hK => ?_) AllReadyH.nil
         go_simp
         refine (frag_pick HW3.out HZ57.out HZ58.out hA).mono ?_
         rintro e w9 ⟨y, i9, h9, hy, rfl, c9, g9⟩
         have hy : y.size ≤ 60 := hy
         have G9 := Lib.hid (HW3.out.2.trans ((World.grownBy_alloc _ _ (some w.heap.size)).trans g9))
         clear c9 g9
         go_wp2_with fail
         refine hK.out _ _ trivial (fun hHeld => ?_)
         clear hK K
         refine take_at (i := 10) (d := some 2) (v := ?_) rfl rfl (by kernel_rfl) (by kernel_rfl) (by kernel_rfl) (fun _ _ _ h => h) (by rfl) ?hy ?_
         case hy => (intro w; go_simp <;> with_reducible rfl)
         simp only [Act.put, sA, sB, sC]
         refine take_at (i := 11) (d := some 3) (v := ?_) rfl rfl (by kernel_rfl) (by kernel_rfl) (by kernel_rfl) (fun _ _ _ h => h) (by rfl) ?hy ?_
         case hy => (intro w; go_simp <;> with_reducible rfl)
         simp only [Act.put, sA, sB, sC]
         refine wpAnyH_done (by kernel_rfl) ?_ _
         go_wp2_with fail
         go_ret2
         exact ⟨k, y, hk.1, hk.2, hy, rfl, below_new G0.out (G2.out.trans G9.out)⟩
   · have hz := zb_text X4.out (by omega)
     rw [HZ58.out] at hz
     go_simp
     clear hz
     refine hK.out _ _ trivial (fun hHeld => ?_)
     clear hK K
     refine wpAnyH_ready (rs := [2, 7]) (by kernel_rfl) (by simp) ?_
     refine (AllReadyH.cons rfl (fun K hK => ?_) (AllReadyH.cons rfl (fun K hK => ?_) AllReadyH.nil))
     · have hm : (Instr.makeSlice 22 (.int .i64 57) (.int .i64 57)).run Try.prog W1 = .ok (.slice (some ⟨W1.heap.size, 0, none⟩) 57 57) (W1.alloc (zerosObj 57)) := zeros_made 57 W1 (by omega)
       have X2 := Lib.hid (zb_new W1 57 HW1.out.1.lt)
       have HW2 := Lib.hid (hw_new HW1.out 57)
       obtain ⟨W2, hW2⟩ : ∃ W, W1.alloc (zerosObj 57) = W := ⟨_, rfl⟩
       obtain ⟨g2, hg2⟩ : ∃ g, W1.heap.size = g := ⟨_, rfl⟩
       rw [hW2] at hm X2 HW2
       rw [hg2] at hm X2
       clear hW2 hg2
       go_simp
       clear hm
       refine hK.out _ _ trivial (fun hHeld => ?_)
       clear hK K
       refine wpAnyH_ready (rs := [3, 7]) (by kernel_rfl) (by simp) ?_
       refine (AllReadyH.cons rfl (fun K hK => ?_) (AllReadyH.cons rfl (fun K hK => ?_) AllReadyH.nil))
       · have hz := zb_text X2.out (by omega)
         rw [HZ57.out] at hz
         go_simp
         clear hz
         refine hK.out _ _ trivial (fun hHeld => ?_)
         clear hK K
         refine wpAnyH_ready (rs := [7]) (by kernel_rfl) (by simp) ?_
         refine (AllReadyH.cons rfl (fun K hK => ?_) AllReadyH.nil)
         go_simp
         refine (l01Text_at _ _ _ _ _ _ _ _ 5 _ HW2.out.1 (by omega)).mono ?_
         rintro e W3 ⟨A, i3, h3, hA, rfl, c3, g3⟩
         have HW3 := Lib.hid (And.intro c3 (HW2.out.2.trans g3))
         clear c3 g3
         go_wp2_with fail
         refine hK.out _ _ trivial (fun hHeld => ?_)
         clear hK K
         refine wpAnyH_ready (rs := [8]) (by kernel_rfl) (by simp) ?_
         refine AllReadyH.cons rfl (fun K hK => ?_) AllReadyH.nil
         go_simp
         refine hK.out _ _ trivial (fun hHeld => ?_)
         clear hK K
         refine wpAnyH_ready (rs := [9]) (by kernel_rfl) (by simp) ?_
         refine AllReadyH.cons rfl (fun K hK => ?_) AllReadyH.nil
         go_simp
         refine (frag_pick HW3.out HZ57.out HZ58.out hA).mono ?_
         rintro e w9 ⟨y, i9, h9, hy, rfl, c9, g9⟩
         have hy : y.size ≤ 60 := hy
         have G9 := Lib.hid (HW3.out.2.trans ((World.grownBy_alloc _ _ (some w.heap.size)).trans g9))
         clear c9 g9
         go_wp2_with fail
         refine hK.out _ _ trivial (fun hHeld => ?_)
         clear hK K
         refine take_at (i := 10) (d := some 2) (v := ?_) rfl rfl (by kernel_rfl) (by kernel_rfl) (by kernel_rfl) (fun _ _ _ h => h) (by rfl) ?hy ?_
         case hy => (intro w; go_simp <;> with_reducible rfl)
         simp only [Act.put, sA, sB, sC]
         refine take_at (i := 11) (d := some 3) (v := ?_) rfl rfl (by kernel_rfl) (by kernel_rfl) (by kernel_rfl) (fun _ _ _ h => h) (by rfl) ?hy ?_
         case hy => (intro w; go_simp <;> with_reducible rfl)
         simp only [Act.put, sA, sB, sC]
         refine wpAnyH_done (by kernel_rfl) ?_ _
         go_wp2_with fail
         go_ret2
         exact ⟨k, y, hk.1, hk.2, hy, rfl, below_new G0.out (G2.out.trans G9.out)⟩
       · go_simp
         refine (l01Text_at _ _ _ _ _ _ _ _ 5 _ HW2.out.1 (by omega)).mono ?_
         rintro e W3 ⟨A, i3, h3, hA, rfl, c3, g3⟩
         have HW3 := Lib.hid (And.intro c3 (HW2.out.2.trans g3))
         have X2 := Lib.hid (ZB.grown X2.out g3)
         clear c3 g3
         go_wp2_with fail
         refine hK.out _ _ trivial (fun hHeld => ?_)
         clear hK K
         refine wpAnyH_ready (rs := [3]) (by kernel_rfl) (by simp) ?_
         refine (AllReadyH.cons rfl (fun K hK => ?_) AllReadyH.nil)
         have hz := zb_text X2.out (by omega)
         rw [HZ57.out] at hz
         go_simp
         clear hz
         refine hK.out _ _ trivial (fun hHeld => ?_)
         clear hK K
         refine wpAnyH_ready (rs := [8]) (by kernel_rfl) (by simp) ?_
         refine AllReadyH.cons rfl (fun K hK => ?_) AllReadyH.nil
         go_simp
         refine hK.out _ _ trivial (fun hHeld => ?_)
         clear hK K
         refine wpAnyH_ready (rs := [9]) (by kernel_rfl) (by simp) ?_
         refine AllReadyH.cons rfl (fun K hK => ?_) AllReadyH.nil
         go_simp
         refine (frag_pick HW3.out HZ57.out HZ58.out hA).mono ?_
         rintro e w9 ⟨y, i9, h9, hy, rfl, c9, g9⟩
         have hy : y.size ≤ 60 := hy
         have G9 := Lib.hid (HW3.out.2.trans ((World.grownBy_alloc _ _ (some w.heap.size)).trans g9))
         clear c9 g9
         go_wp2_with fail
         refine hK.out _ _ trivial (fun hHeld => ?_)
         clear hK K
         refine take_at (i := 10) (d := some 2) (v := ?_) rfl rfl (by kernel_rfl) (by kernel_rfl) (by kernel_rfl) (fun _ _ _ h => h) (by rfl) ?hy ?_
         case hy => (intro w; go_simp <;> with_reducible rfl)
         simp only [Act.put, sA, sB, sC]
         refine take_at (i := 11) (d := some 3) (v := ?_) rfl rfl (by kernel_rfl) (by kernel_rfl) (by kernel_rfl) (fun _ _ _ h => h) (by rfl) ?hy ?_
         case hy => (intro w; go_simp <;> with_reducible rfl)
         simp only [Act.put, sA, sB, sC]
         refine wpAnyH_done (by kernel_rfl) ?_ _
         go_wp2_with fail
         go_ret2
         exact ⟨k, y, hk.1, hk.2, hy, rfl, below_new G0.out (G2.out.trans G9.out)⟩
     · go_simp
       refine (l01Text_at _ _ _ _ _ _ _ _ 5 _ HW1.out.1 (by omega)).mono ?_
       rintro e W2 ⟨A, i3, h3, hA, rfl, c3, g3⟩
       have HW2 := Lib.hid (And.intro c3 (HW1.out.2.trans g3))
       clear c3 g3
       go_wp2_with fail
       refine hK.out _ _ trivial (fun hHeld => ?_)
       clear hK K
       refine wpAnyH_ready (rs := [2]) (by kernel_rfl) (by simp) ?_
       refine (AllReadyH.cons rfl (fun K hK => ?_) AllReadyH.nil)
       have hm : (Instr.makeSlice 22 (.int .i64 57) (.int .i64 57)).run Try.prog W2 = .ok (.slice (some ⟨W2.heap.size, 0, none⟩) 57 57) (W2.alloc (zerosObj 57)) := zeros_made 57 W2 (by omega)
       have X2 := Lib.hid (zb_new W2 57 HW2.out.1.lt)
       have HW3 := Lib.hid (hw_new HW2.out 57)
       obtain ⟨W3, hW3⟩ : ∃ W, W2.alloc (zerosObj 57) = W := ⟨_, rfl⟩
       obtain ⟨g2, hg2⟩ : ∃ g, W2.heap.size = g := ⟨_, rfl⟩
       rw [hW3] at hm X2 HW3
       rw [hg2] at hm X2
       clear hW3 hg2
       go_simp
       clear hm
       refine hK.out _ _ trivial (fun hHeld => ?_)
       clear hK K
       refine wpAnyH_ready (rs := [3]) (by kernel_rfl) (by simp) ?_
       refine (AllReadyH.cons rfl (fun K hK => ?_) AllReadyH.nil)
       have hz := zb_text X2.out (by omega)
       rw [HZ57.out] at hz
       go_simp
       clear hz
       refine hK.out _ _ trivial (fun hHeld => ?_)
       clear hK K
       refine wpAnyH_ready (rs := [8]) (by kernel_rfl) (by simp) ?_
       refine AllReadyH.cons rfl (fun K hK => ?_) AllReadyH.nil
       go_simp
       refine hK.out _ _ trivial (fun hHeld => ?_)
       clear hK K
       refine wpAnyH_ready (rs := [9]) (by kernel_rfl) (by simp) ?_
       refine AllReadyH.cons rfl (fun K hK => ?_) AllReadyH.nil
       go_simp
       refine (frag_pick HW3.out HZ57.out HZ58.out hA).mono ?_
       rintro e w9 ⟨y, i9, h9, hy, rfl, c9, g9⟩
       have hy : y.size ≤ 60 := hy
       have G9 := Lib.hid (HW3.out.2.trans ((World.grownBy_alloc _ _ (some w.heap.size)).trans g9))
       clear c9 g9
       go_wp2_with fail
       refine hK.out _ _ trivial (fun hHeld => ?_)
       clear hK K
       refine take_at (i := 10) (d := some 2) (v := ?_) rfl rfl (by kernel_rfl) (by kernel_rfl) (by kernel_rfl) (fun _ _ _ h => h) (by rfl) ?hy ?_
       case hy => (intro w; go_simp <;> with_reducible rfl)
       simp only [Act.put, sA, sB, sC]
       refine take_at (i := 11) (d := some 3) (v := ?_) rfl rfl (by kernel_rfl) (by kernel_rfl) (by kernel_rfl) (fun _ _ _ h => h) (by rfl) ?hy ?_
       case hy => (intro w; go_simp <;> with_reducible rfl)
       simp only [Act.put, sA, sB, sC]
       refine wpAnyH_done (by kernel_rfl) ?_ _
       go_wp2_with fail
       go_ret2
       exact ⟨k, y, hk.1, hk.2, hy, rfl, below_new G0.out (G2.out.trans G9.out)⟩
   · go_simp
     refine (l01Text_at _ _ _ _ _ _ _ _ 5 _ HW1.out.1 (by omega)).mono ?_
     rintro e W2 ⟨A, i3, h3, hA, rfl, c3, g3⟩
     have HW2 := Lib.hid (And.intro c3 (HW1.out.2.trans g3))
     have X4 := Lib.hid (ZB.grown X4.out g3)
     clear c3 g3
     go_wp2_with fail
     refine hK.out _ _ trivial (fun hHeld => ?_)
     clear hK K
     refine wpAnyH_ready (rs := [2, 5]) (by kernel_rfl) (by simp) ?_
     refine (AllReadyH.cons rfl (fun K hK => ?_) (AllReadyH.cons rfl (fun K hK => ?_) AllReadyH.nil))
     · have hm : (Instr.makeSlice 22 (.int .i64 57) (.int .i64 57)).run Try.prog W2 = .ok (.slice (some ⟨W2.heap.size, 0, none⟩) 57 57) (W2.alloc (zerosObj 57)) := zeros_made 57 W2 (by omega)
       have X2 := Lib.hid (zb_new W2 57 HW2.out.1.lt)
       have HW3 := Lib.hid (hw_new HW2.out 57)
       have X4 := Lib.hid (ZB.alloc X4.out 57)
       obtain ⟨W3, hW3⟩ : ∃ W, W2.alloc (zerosObj 57) = W := ⟨_, rfl⟩
       obtain ⟨g2, hg2⟩ : ∃ g, W2.heap.size = g := ⟨_, rfl⟩
       rw [hW3] at hm X2 HW3 X4
       rw [hg2] at hm X2
       clear hW3 hg2
       go_simp
       clear hm
       refine hK.out _ _ trivial (fun hHeld => ?_)
       clear hK K
       refine wpAnyH_ready (rs := [3, 5]) (by kernel_rfl) (by simp) ?_
       refine (AllReadyH.cons rfl (fun K hK => ?_) (AllReadyH.cons rfl (fun K hK => ?_) AllReadyH.nil))
       · have hz := zb_text X2.out (by omega)
         rw [HZ57.out] at hz
         go_simp
         clear hz
         refine hK.out _ _ trivial (fun hHeld => ?_)
         clear hK K
         refine wpAnyH_ready (rs := [5]) (by kernel_rfl) (by simp) ?_
         refine (AllReadyH.cons rfl (fun K hK => ?_) AllReadyH.nil)
         have hz := zb_text X4.out (by omega)
         rw [HZ58.out] at hz
         go_simp
         clear hz
         refine hK.out _ _ trivial (fun hHeld => ?_)
         clear hK K
         refine wpAnyH_ready (rs := [8]) (by kernel_rfl) (by simp) ?_
         refine AllReadyH.cons rfl (fun K hK => ?_) AllReadyH.nil
         go_simp
         refine hK.out _ _ trivial (fun hHeld => ?_)
         clear hK K
         refine wpAnyH_ready (rs := [9]) (by kernel_rfl) (by simp) ?_
         refine AllReadyH.cons rfl (fun K hK => ?_) AllReadyH.nil
         go_simp
         refine (frag_pick HW3.out HZ57.out HZ58.out hA).mono ?_
         rintro e w9 ⟨y, i9, h9, hy, rfl, c9, g9⟩
         have hy : y.size ≤ 60 := hy
         have G9 := Lib.hid (HW3.out.2.trans ((World.grownBy_alloc _ _ (some w.heap.size)).trans g9))
         clear c9 g9
         go_wp2_with fail
         refine hK.out _ _ trivial (fun hHeld => ?_)
         clear hK K
         refine take_at (i := 10) (d := some 2) (v := ?_) rfl rfl (by kernel_rfl) (by kernel_rfl) (by kernel_rfl) (fun _ _ _ h => h) (by rfl) ?hy ?_
         case hy => (intro w; go_simp <;> with_reducible rfl)
         simp only [Act.put, sA, sB, sC]
         refine take_at (i := 11) (d := some 3) (v := ?_) rfl rfl (by kernel_rfl) (by kernel_rfl) (by kernel_rfl) (fun _ _ _ h => h) (by rfl) ?hy ?_
         case hy => (intro w; go_simp <;> with_reducible rfl)
         simp only [Act.put, sA, sB, sC]
         refine wpAnyH_done (by kernel_rfl) ?_ _
         go_wp2_with fail
         go_ret2
         exact ⟨k, y, hk.1, hk.2, hy, rfl, below_new G0.out (G2.out.trans G9.out)⟩
       · have hz := zb_text X4.out (by omega)
         rw [HZ58.out] at hz
         go_simp
         clear hz
         refine hK.out _ _ trivial (fun hHeld => ?_)
         clear hK K
         refine wpAnyH_ready (rs := [3]) (by kernel_rfl) (by simp) ?_
         refine (AllReadyH.cons rfl (fun K hK => ?_) AllReadyH.nil)
         have hz := zb_text X2.out (by omega)
         rw [HZ57.out] at hz
         go_simp
         clear hz
         refine hK.out _ _ trivial (fun hHeld => ?_)
         clear hK K
         refine wpAnyH_ready (rs := [8]) (by kernel_rfl) (by simp) ?_
         refine AllReadyH.cons rfl (fun K hK => ?_) AllReadyH.nil
         go_simp
         refine hK.out _ _ trivial (fun hHeld => ?_)
         clear hK K
         refine wpAnyH_ready (rs := [9]) (by kernel_rfl) (by simp) ?_
         refine AllReadyH.cons rfl (fun K hK => ?_) AllReadyH.nil
         go_simp
         refine (frag_pick HW3.out HZ57.out HZ58.out hA).mono ?_
         rintro e w9 ⟨y, i9, h9, hy, rfl, c9, g9⟩
         have hy : y.size ≤ 60 := hy
         have G9 := Lib.hid (HW3.out.2.trans ((World.grownBy_alloc _ _ (some w.heap.size)).trans g9))
         clear c9 g9
         go_wp2_with fail
         refine hK.out _ _ trivial (fun hHeld => ?_)
         clear hK K
         refine take_at (i := 10) (d := some 2) (v := ?_) rfl rfl (by kernel_rfl) (by kernel_rfl) (by kernel_rfl) (fun _ _ _ h => h) (by rfl) ?hy ?_
         case hy => (intro w; go_simp <;> with_reducible rfl)
         simp only [Act.put, sA, sB, sC]
         refine take_at (i := 11) (d := some 3) (v := ?_) rfl rfl (by kernel_rfl) (by kernel_rfl) (by kernel_rfl) (fun _ _ _ h => h) (by rfl) ?hy ?_
         case hy => (intro w; go_simp <;> with_reducible rfl)
         simp only [Act.put, sA, sB, sC]
         refine wpAnyH_done (by kernel_rfl) ?_ _
         go_wp2_with fail
         go_ret2
         exact ⟨k, y, hk.1, hk.2, hy, rfl, below_new G0.out (G2.out.trans G9.out)⟩
     · have hz := zb_text X4.out (by omega)
       rw [HZ58.out] at hz
       go_simp
       clear hz
       refine hK.out _ _ trivial (fun hHeld => ?_)
       clear hK K
       refine wpAnyH_ready (rs := [2]) (by kernel_rfl) (by simp) ?_
       refine (AllReadyH.cons rfl (fun K hK => ?_) AllReadyH.nil)
       have hm : (Instr.makeSlice 22 (.int .i64 57) (.int .i64 57)).run Try.prog W2 = .ok (.slice (some ⟨W2.heap.size, 0, none⟩) 57 57) (W2.alloc (zerosObj 57)) := zeros_made 57 W2 (by omega)
       have X2 := Lib.hid (zb_new W2 57 HW2.out.1.lt)
       have HW3 := Lib.hid (hw_new HW2.out 57)
       obtain ⟨W3, hW3⟩ : ∃ W, W2.alloc (zerosObj 57) = W := ⟨_, rfl⟩
       obtain ⟨g2, hg2⟩ : ∃ g, W2.heap.size = g := ⟨_, rfl⟩
       rw [hW3] at hm X2 HW3
       rw [hg2] at hm X2
       clear hW3 hg2
       go_simp
       clear hm
       refine hK.out _ _ trivial (fun hHeld => ?_)
       clear hK K
       refine wpAnyH_ready (rs := [3]) (by kernel_rfl) (by simp) ?_
       refine (AllReadyH.cons rfl (fun K hK => ?_) AllReadyH.nil)
       have hz := zb_text X2.out (by omega)
       rw [HZ57.out] at hz
       go_simp
       clear hz
       refine hK.out _ _ trivial (fun hHeld => ?_)
       clear hK K
       refine wpAnyH_ready (rs := [8]) (by kernel_rfl) (by simp) ?_
       refine AllReadyH.cons rfl (fun K hK => ?_) AllReadyH.nil
       go_simp
       refine hK.out _ _ trivial (fun hHeld => ?_)
       clear hK K
       refine wpAnyH_ready (rs := [9]) (by kernel_rfl) (by simp) ?_
       refine AllReadyH.cons rfl (fun K hK => ?_) AllReadyH.nil
       go_simp
       refine (frag_pick HW3.out HZ57.out HZ58.out hA).mono ?_
       rintro e w9 ⟨y, i9, h9, hy, rfl, c9, g9⟩
       have hy : y.size ≤ 60 := hy
       have G9 := Lib.hid (HW3.out.2.trans ((World.grownBy_alloc _ _ (some w.heap.size)).trans g9))
       clear c9 g9
       go_wp2_with fail
       refine hK.out _ _ trivial (fun hHeld => ?_)
       clear hK K
       refine take_at (i := 10) (d := some 2) (v := ?_) rfl rfl (by kernel_rfl) (by kernel_rfl) (by kernel_rfl) (fun _ _ _ h => h) (by rfl) ?hy ?_
       case hy => (intro w; go_simp <;> with_reducible rfl)
       simp only [Act.put, sA, sB, sC]
       refine take_at (i := 11) (d := some 3) (v := ?_) rfl rfl (by kernel_rfl) (by kernel_rfl) (by kernel_rfl) (fun _ _ _ h => h) (by rfl) ?hy ?_
       case hy => (intro w; go_simp <;> with_reducible rfl)
       simp only [Act.put, sA, sB, sC]
       refine wpAnyH_done (by kernel_rfl) ?_ _
       go_wp2_with fail
       go_ret2
       exact ⟨k, y, hk.1, hk.2, hy, rfl, below_new G0.out (G2.out.trans G9.out)⟩
 · go_simp
   refine (l01Text_at _ _ _ _ _ _ _ _ 5 _ HW0.out.1 (by omega)).mono ?_
   rintro e W1 ⟨A, i3, h3, hA, rfl, c3, g3⟩
   have HW1 := Lib.hid (And.intro c3 (HW0.out.2.trans g3))
   clear c3 g3
   go_wp2_with fail
   refine hK.out _ _ trivial (fun hHeld => ?_)
   clear hK K
   refine wpAnyH_ready (rs := [2, 4]) (by kernel_rfl) (by simp) ?_
   refine (AllReadyH.cons rfl (fun K hK => ?_) (AllReadyH.cons rfl (fun K hK => ?_) AllReadyH.nil))
   · have hm : (Instr.makeSlice 22 (.int .i64 57) (.int .i64 57)).run Try.prog W1 = .ok (.slice (some ⟨W1.heap.size, 0, none⟩) 57 57) (W1.alloc (zerosObj 57)) := zeros_made 57 W1 (by omega)
     have X2 := Lib.hid (zb_new W1 57 HW1.out.1.lt)
     have HW2 := Lib.hid (hw_new HW1.out 57)
     obtain ⟨W2, hW2⟩ : ∃ W, W1.alloc (zerosObj 57) = W := ⟨_, rfl⟩
     obtain ⟨g2, hg2⟩ : ∃ g, W1.heap.size = g := ⟨_, rfl⟩
     rw [hW2] at hm X2 HW2
     rw [hg2] at hm X2
     clear hW2 hg2
     go_simp
     clear hm
     refine hK.out _ _ trivial (fun hHeld => ?_)
     clear hK K
     refine wpAnyH_ready (rs := [3, 4]) (by kernel_rfl) (by simp) ?_
     refine (AllReadyH.cons rfl (fun K hK => ?_) (AllReadyH.cons rfl (fun K hK => ?_) AllReadyH.nil))
     · have hz := zb_text X2.out (by omega)
       rw [HZ57.out] at hz
       go_simp
       clear hz
       refine hK.out _ _ trivial (fun hHeld => ?_)
       clear hK K
       refine wpAnyH_ready (rs := [4]) (by kernel_rfl) (by simp) ?_
       refine (AllReadyH.cons rfl (fun K hK => ?_) AllReadyH.nil)
       have hm : (Instr.makeSlice 22 (.int .i64 58) (.int .i64 58)).run Try.prog W2 = .ok (.slice (some ⟨W2.heap.size, 0, none⟩) 58 58) (W2.alloc (zerosObj 58)) := zeros_made 58 W2 (by omega)
       have X4 := Lib.hid (zb_new W2 58 HW2.out.1.lt)
       have HW3 := Lib.hid (hw_new HW2.out 58)
       obtain ⟨W3, hW3⟩ : ∃ W, W2.alloc (zerosObj 58) = W := ⟨_, rfl⟩
       obtain ⟨g4, hg4⟩ : ∃ g, W2.heap.size = g := ⟨_, rfl⟩
       rw [hW3] at hm X4 HW3
       rw [hg4] at hm X4
       clear hW3 hg4
       go_simp
       clear hm
       refine hK.out _ _ trivial (fun hHeld => ?_)
       clear hK K
       refine wpAnyH_ready (rs := [5]) (by kernel_rfl) (by simp) ?_
       refine (AllReadyH.cons rfl (fun K hK => ?_) AllReadyH.nil)
       have hz := zb_text X4.out (by omega)
       rw [HZ58.out] at hz
       go_simp
       clear hz
       refine hK.out _ _ trivial (fun hHeld => ?_)
       clear hK K
       refine wpAnyH_ready (rs := [8]) (by kernel_rfl) (by simp) ?_
       refine AllReadyH.cons rfl (fun K hK => ?_) AllReadyH.nil
       go_simp
       refine hK.out _ _ trivial (fun hHeld => ?_)
       clear hK K
       refine wpAnyH_ready (rs := [9]) (by kernel_rfl) (by simp) ?_
       refine AllReadyH.cons rfl (fun K hK => ?_) AllReadyH.nil
       go_simp
       refine (frag_pick HW3.out HZ57.out HZ58.out hA).mono ?_
       rintro e w9 ⟨y, i9, h9, hy, rfl, c9, g9⟩
       have hy : y.size ≤ 60 := hy
       have G9 := Lib.hid (HW3.out.2.trans ((World.grownBy_alloc _ _ (some w.heap.size)).trans g9))
       clear c9 g9
       go_wp2_with fail
       refine hK.out _ _ trivial (fun hHeld => ?_)
       clear hK K
       refine take_at (i := 10) (d := some 2) (v := ?_) rfl rfl (by kernel_rfl) (by kernel_rfl) (by kernel_rfl) (fun _ _ _ h => h) (by rfl) ?hy ?_
       case hy => (intro w; go_simp <;> with_reducible rfl)
       simp only [Act.put, sA, sB, sC]
       refine take_at (i := 11) (d := some 3) (v := ?_) rfl rfl (by kernel_rfl) (by kernel_rfl) (by kernel_rfl) (fun _ _ _ h => h) (by rfl) ?hy ?_
       case hy => (intro w; go_simp <;> with_reducible rfl)
       simp only [Act.put, sA, sB, sC]
       refine wpAnyH_done (by kernel_rfl) ?_ _
       go_wp2_with fail
       go_ret2
       exact ⟨k, y, hk.1, hk.2, hy, rfl, below_new G0.out (G2.out.trans G9.out)⟩
     · have hm : (Instr.makeSlice 22 (.int .i64 58) (.int .i64 58)).run Try.prog W2 = .ok (.slice (some ⟨W2.heap.size, 0, none⟩) 58 58) (W2.alloc (zerosObj 58)) := zeros_made 58 W2 (by omega)
       have X4 := Lib.hid (zb_new W2 58 HW2.out.1.lt)
       have HW3 := Lib.hid (hw_new HW2.out 58)
       have X2 := Lib.hid (ZB.alloc X2.out 58)
       obtain ⟨W3, hW3⟩ : ∃ W, W2.alloc (zerosObj 58) = W := ⟨_, rfl⟩
       obtain ⟨g4, hg4⟩ : ∃ g, W2.heap.size = g := ⟨_, rfl⟩
       rw [hW3] at hm X4 HW3 X2
       rw [hg4] at hm X4
       clear hW3 hg4
       go_simp
       clear hm
       refine hK.out _ _ trivial (fun hHeld => ?_)
       clear hK K
       refine wpAnyH_ready (rs := [3, 5]) (by kernel_rfl) (by simp) ?_
       refine (AllReadyH.cons rfl (fun K hK => ?_) (AllReadyH.cons rfl (fun K hK => ?_) AllReadyH.nil))
       · have hz := zb_text X2.out (by omega)
         rw [HZ57.out] at hz
         go_simp
         clear hz
         refine hK.out _ _ trivial (fun hHeld => ?_)
         clear hK K
         refine wpAnyH_ready (rs := [5]) (by kernel_rfl) (by simp) ?_
         refine (AllReadyH.cons rfl (fun K hK => ?_) AllReadyH.nil)
         have hz := zb_text X4.out (by omega)
         rw [HZ58.out] at hz
         go_simp
         clear hz
         refine hK.out _ _ trivial (fun hHeld => ?_)
         clear hK K
         refine wpAnyH_ready (rs := [8]) (by kernel_rfl) (by simp) ?_
         refine AllReadyH.cons rfl (fun K hK => ?_) AllReadyH.nil
         go_simp
         refine hK.out _ _ trivial (fun hHeld => ?_)
         clear hK K
         refine wpAnyH_ready (rs := [9]) (by kernel_rfl) (by simp) ?_
         refine AllReadyH.cons rfl (fun K hK => ?_) AllReadyH.nil
         go_simp
         refine (frag_pick HW3.out HZ57.out HZ58.out hA).mono ?_
         rintro e w9 ⟨y, i9, h9, hy, rfl, c9, g9⟩
         have hy : y.size ≤ 60 := hy
         have G9 := Lib.hid (HW3.out.2.trans ((World.grownBy_alloc _ _ (some w.heap.size)).trans g9))
         clear c9 g9
         go_wp2_with fail
         refine hK.out _ _ trivial (fun hHeld => ?_)
         clear hK K
         refine take_at (i := 10) (d := some 2) (v := ?_) rfl rfl (by kernel_rfl) (by kernel_rfl) (by kernel_rfl) (fun _ _ _ h => h) (by rfl) ?hy ?_
         case hy => (intro w; go_simp <;> with_reducible rfl)
         simp only [Act.put, sA, sB, sC]
         refine take_at (i := 11) (d := some 3) (v := ?_) rfl rfl (by kernel_rfl) (by kernel_rfl) (by kernel_rfl) (fun _ _ _ h => h) (by rfl) ?hy ?_
         case hy => (intro w; go_simp <;> with_reducible rfl)
         simp only [Act.put, sA, sB, sC]
         refine wpAnyH_done (by kernel_rfl) ?_ _
         go_wp2_with fail
         go_ret2
         exact ⟨k, y, hk.1, hk.2, hy, rfl, below_new G0.out (G2.out.trans G9.out)⟩
       · have hz := zb_text X4.out (by omega)
         rw [HZ58.out] at hz
         go_simp
         clear hz
         refine hK.out _ _ trivial (fun hHeld => ?_)
         clear hK K
         refine wpAnyH_ready (rs := [3]) (by kernel_rfl) (by simp) ?_
         refine (AllReadyH.cons rfl (fun K hK => ?_) AllReadyH.nil)
         have hz := zb_text X2.out (by omega)
         rw [HZ57.out] at hz
         go_simp
         clear hz
         refine hK.out _ _ trivial (fun hHeld => ?_)
         clear hK K
         refine wpAnyH_ready (rs := [8]) (by kernel_rfl) (by simp) ?_
         refine AllReadyH.cons rfl (fun K hK => ?_) AllReadyH.nil
         go_simp
         refine hK.out _ _ trivial (fun hHeld => ?_)
         clear hK K
         refine wpAnyH_ready (rs := [9]) (by kernel_rfl) (by simp) ?_
         refine AllReadyH.cons rfl (fun K hK => ?_) AllReadyH.nil
         go_simp
         refine (frag_pick HW3.out HZ57.out HZ58.out hA).mono ?_
         rintro e w9 ⟨y, i9, h9, hy, rfl, c9, g9⟩
         have hy : y.size ≤ 60 := hy
         have G9 := Lib.hid (HW3.out.2.trans ((World.grownBy_alloc _ _ (some w.heap.size)).trans g9))
         clear c9 g9
         go_wp2_with fail
         refine hK.out _ _ trivial (fun hHeld => ?_)
         clear hK K
         refine take_at (i := 10) (d := some 2) (v := ?_) rfl rfl (by kernel_rfl) (by kernel_rfl) (by kernel_rfl) (fun _ _ _ h => h) (by rfl) ?hy ?_
         case hy => (intro w; go_simp <;> with_reducible rfl)
         simp only [Act.put, sA, sB, sC]
         refine take_at (i := 11) (d := some 3) (v := ?_) rfl rfl (by kernel_rfl) (by kernel_rfl) (by kernel_rfl) (fun _ _ _ h => h) (by rfl) ?hy ?_
         case hy => (intro w; go_simp <;> with_reducible rfl)
         simp only [Act.put, sA, sB, sC]
         refine wpAnyH_done (by kernel_rfl) ?_ _
         go_wp2_with fail
         go_ret2
         exact ⟨k, y, hk.1, hk.2, hy, rfl, below_new G0.out (G2.out.trans G9.out)⟩
   · have hm : (Instr.makeSlice 22 (.int .i64 58) (.int .i64 58)).run Try.prog W1 = .ok (.slice (some ⟨W1.heap.size, 0, none⟩) 58 58) (W1.alloc (zerosObj 58)) := zeros_made 58 W1 (by omega)
     have X4 := Lib.hid (zb_new W1 58 HW1.out.1.lt)
     have HW2 := Lib.hid (hw_new HW1.out 58)
     obtain ⟨W2, hW2⟩ : ∃ W, W1.alloc (zerosObj 58) = W := ⟨_, rfl⟩
     obtain ⟨g4, hg4⟩ : ∃ g, W1.heap.size = g := ⟨_, rfl⟩
     rw [hW2] at hm X4 HW2
     rw [hg4] at hm X4
     clear hW2 hg4
     go_simp
     clear hm
     refine hK.out _ _ trivial (fun hHeld => ?_)
     clear hK K
     refine wpAnyH_ready (rs := [2, 5]) (by kernel_rfl) (by simp) ?_
     refine (AllReadyH.cons rfl (fun K hK => ?_) (AllReadyH.cons rfl (fun K hK => ?_) AllReadyH.nil))
     · have hm : (Instr.makeSlice 22 (.int .i64 57) (.int .i64 57)).run Try.prog W2 = .ok (.slice (some ⟨W2.heap.size, 0, none⟩) 57 57) (W2.alloc (zerosObj 57)) := zeros_made 57 W2 (by omega)
       have X2 := Lib.hid (zb_new W2 57 HW2.out.1.lt)
       have HW3 := Lib.hid (hw_new HW2.out 57)
       have X4 := Lib.hid (ZB.alloc X4.out 57)
       obtain ⟨W3, hW3⟩ : ∃ W, W2.alloc (zerosObj 57) = W := ⟨_, rfl⟩
       obtain ⟨g2, hg2⟩ : ∃ g, W2.heap.size = g := ⟨_, rfl⟩
       rw [hW3] at hm X2 HW3 X4
       rw [hg2] at hm X2
       clear hW3 hg2
       go_simp
       clear hm
       refine hK.out _ _ trivial (fun hHeld => ?_)
       clear hK K
       refine wpAnyH_ready (rs := [3, 5]) (by kernel_rfl) (by simp) ?_
       refine (AllReadyH.cons rfl (fun K hK => ?_) (AllReadyH.cons rfl (fun K hK => ?_) AllReadyH.nil))
       · have hz := zb_text X2.out (by omega)
         rw [HZ57.out] at hz
         go_simp
         clear hz
         refine hK.out _ _ trivial (fun hHeld => ?_)
         clear hK K
         refine wpAnyH_ready (rs := [5]) (by kernel_rfl) (by simp) ?_
         refine (AllReadyH.cons rfl (fun K hK => ?_) AllReadyH.nil)
         have hz := zb_text X4.out (by omega)
         rw [HZ58.out] at hz
         go_simp
         clear hz
         refine hK.out _ _ trivial (fun hHeld => ?_)
         clear hK K
         refine wpAnyH_ready (rs := [8]) (by kernel_rfl) (by simp) ?_
         refine AllReadyH.cons rfl (fun K hK => ?_) AllReadyH.nil
         go_simp
         refine hK.out _ _ trivial (fun hHeld => ?_)
         clear hK K
         refine wpAnyH_ready (rs := [9]) (by kernel_rfl) (by simp) ?_
         refine AllReadyH.cons rfl (fun K hK => ?_) AllReadyH.nil
         go_simp
         refine (frag_pick HW3.out HZ57.out HZ58.out hA).mono ?_
         rintro e w9 ⟨y, i9, h9, hy, rfl, c9, g9⟩
         have hy : y.size ≤ 60 := hy
         have G9 := Lib.hid (HW3.out.2.trans ((World.grownBy_alloc _ _ (some w.heap.size)).trans g9))
         clear c9 g9
         go_wp2_with fail
         refine hK.out _ _ trivial (fun hHeld => ?_)
         clear hK K
         refine take_at (i := 10) (d := some 2) (v := ?_) rfl rfl (by kernel_rfl) (by kernel_rfl) (by kernel_rfl) (fun _ _ _ h => h) (by rfl) ?hy ?_
         case hy => (intro w; go_simp <;> with_reducible rfl)
         simp only [Act.put, sA, sB, sC]
         refine take_at (i := 11) (d := some 3) (v := ?_) rfl rfl (by kernel_rfl) (by kernel_rfl) (by kernel_rfl) (fun _ _ _ h => h) (by rfl) ?hy ?_
         case hy => (intro w; go_simp <;> with_reducible rfl)
         simp only [Act.put, sA, sB, sC]
         refine wpAnyH_done (by kernel_rfl) ?_ _
         go_wp2_with fail
         go_ret2
         exact ⟨k, y, hk.1, hk.2, hy, rfl, below_new G0.out (G2.out.trans G9.out)⟩
       · have hz := zb_text X4.out (by omega)
         rw [HZ58.out] at hz
         go_simp
         clear hz
         refine hK.out _ _ trivial (fun hHeld => ?_)
         clear hK K
         refine wpAnyH_ready (rs := [3]) (by kernel_rfl) (by simp) ?_
         refine (AllReadyH.cons rfl (fun K hK => ?_) AllReadyH.nil)
         have hz := zb_text X2.out (by omega)
         rw [HZ57.out] at hz
         go_simp
         clear hz
         refine hK.out _ _ trivial (fun hHeld => ?_)
         clear hK K
         refine wpAnyH_ready (rs := [8]) (by kernel_rfl) (by simp) ?_
         refine AllReadyH.cons rfl (fun K hK => ?_) AllReadyH.nil
         go_simp
         refine hK.out _ _ trivial (fun hHeld => ?_)
         clear hK K
         refine wpAnyH_ready (rs := [9]) (by kernel_rfl) (by simp) ?_
         refine AllReadyH.cons rfl (fun K hK => ?_) AllReadyH.nil
         go_simp
         refine (frag_pick HW3.out HZ57.out HZ58.out hA).mono ?_
         rintro e w9 ⟨y, i9, h9, hy, rfl, c9, g9⟩
         have hy : y.size ≤ 60 := hy
         have G9 := Lib.hid (HW3.out.2.trans ((World.grownBy_alloc _ _ (some w.heap.size)).trans g9))
         clear c9 g9
         go_wp2_with fail
         refine hK.out _ _ trivial (fun hHeld => ?_)
         clear hK K
         refine take_at (i := 10) (d := some 2) (v := ?_) rfl rfl (by kernel_rfl) (by kernel_rfl) (by kernel_rfl) (fun _ _ _ h => h) (by rfl) ?hy ?_
         case hy => (intro w; go_simp <;> with_reducible rfl)
         simp only [Act.put, sA, sB, sC]
         refine take_at (i := 11) (d := some 3) (v := ?_) rfl rfl (by kernel_rfl) (by kernel_rfl) (by kernel_rfl) (fun _ _ _ h => h) (by rfl) ?hy ?_
         case hy => (intro w; go_simp <;> with_reducible rfl)
         simp only [Act.put, sA, sB, sC]
         refine wpAnyH_done (by kernel_rfl) ?_ _
         go_wp2_with fail
         go_ret2
         exact ⟨k, y, hk.1, hk.2, hy, rfl, below_new G0.out (G2.out.trans G9.out)⟩
     · have hz := zb_text X4.out (by omega)
       rw [HZ58.out] at hz
       go_simp
       clear hz
       refine hK.out _ _ trivial (fun hHeld => ?_)
       clear hK K
       refine wpAnyH_ready (rs := [2]) (by kernel_rfl) (by simp) ?_
       refine (AllReadyH.cons rfl (fun K hK => ?_) AllReadyH.nil)
       have hm : (Instr.makeSlice 22 (.int .i64 57) (.int .i64 57)).run Try.prog W2 = .ok (.slice (some ⟨W2.heap.size, 0, none⟩) 57 57) (W2.alloc (zerosObj 57)) := zeros_made 57 W2 (by omega)
       have X2 := Lib.hid (zb_new W2 57 HW2.out.1.lt)
       have HW3 := Lib.hid (hw_new HW2.out 57)
       obtain ⟨W3, hW3⟩ : ∃ W, W2.alloc (zerosObj 57) = W := ⟨_, rfl⟩
       obtain ⟨g2, hg2⟩ : ∃ g, W2.heap.size = g := ⟨_, rfl⟩
       rw [hW3] at hm X2 HW3
       rw [hg2] at hm X2
       clear hW3 hg2
       go_simp
       clear hm
       refine hK.out _ _ trivial (fun hHeld => ?_)
       clear hK K
       refine wpAnyH_ready (rs := [3]) (by kernel_rfl) (by simp) ?_
       refine (AllReadyH.cons rfl (fun K hK => ?_) AllReadyH.nil)
       have hz := zb_text X2.out (by omega)
       rw [HZ57.out] at hz
       go_simp
       clear hz
       refine hK.out _ _ trivial (fun hHeld => ?_)
       clear hK K
       refine wpAnyH_ready (rs := [8]) (by kernel_rfl) (by simp) ?_
       refine AllReadyH.cons rfl (fun K hK => ?_) AllReadyH.nil
       go_simp
       refine hK.out _ _ trivial (fun hHeld => ?_)
       clear hK K
       refine wpAnyH_ready (rs := [9]) (by kernel_rfl) (by simp) ?_
       refine AllReadyH.cons rfl (fun K hK => ?_) AllReadyH.nil
       go_simp
       refine (frag_pick HW3.out HZ57.out HZ58.out hA).mono ?_
       rintro e w9 ⟨y, i9, h9, hy, rfl, c9, g9⟩
       have hy : y.size ≤ 60 := hy
       have G9 := Lib.hid (HW3.out.2.trans ((World.grownBy_alloc _ _ (some w.heap.size)).trans g9))
       clear c9 g9
       go_wp2_with fail
       refine hK.out _ _ trivial (fun hHeld => ?_)
       clear hK K
       refine take_at (i := 10) (d := some 2) (v := ?_) rfl rfl (by kernel_rfl) (by kernel_rfl) (by kernel_rfl) (fun _ _ _ h => h) (by rfl) ?hy ?_
       case hy => (intro w; go_simp <;> with_reducible rfl)
       simp only [Act.put, sA, sB, sC]
       refine take_at (i := 11) (d := some 3) (v := ?_) rfl rfl (by kernel_rfl) (by kernel_rfl) (by kernel_rfl) (fun _ _ _ h => h) (by rfl) ?hy ?_
       case hy => (intro w; go_simp <;> with_reducible rfl)
       simp only [Act.put, sA, sB, sC]
       refine wpAnyH_done (by kernel_rfl) ?_ _
       go_wp2_with fail
       go_ret2
       exact ⟨k, y, hk.1, hk.2, hy, rfl, below_new G0.out (G2.out.trans G9.out)⟩
end Go.Proofs.Ytjcgbpjgoacdjaa
