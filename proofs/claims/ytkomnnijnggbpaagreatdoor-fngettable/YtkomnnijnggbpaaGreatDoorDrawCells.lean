/- The model's draws of lists of cells: some list, in a row of its own. -/
import Derived.Test.YtkomnnijnggbpaaGreatDoorZ3
import Derived.Test.YtkomnnijnggbpaaGreatDoorZ1
import Derived.Test.YtkomnnijnggbpaaGreatDoorCellBefore
import Derived.Test.YtkomnnijnggbpaaGreatDoorZ0
import Derived.Laws.AppendOwn
import Derived.RangeFuncBox
import Derived.Deep.RegionHeld3
namespace Go.Proofs.YtkomnnijnggbpaaGreatDoor
open Go.RowKit
set_option linter.unusedVariables false

theorem row_part {w : World} {g n c : Nat} {ys : List Cel} (h : CelRow w (some ⟨g, 0, none⟩) n c ys) : ∀ j u, (ys.flatMap celCells)[j]? = some u → w.cell? ⟨g, j, none⟩ = some u := by
 intro j u hj
 have hlt := (List.getElem?_eq_some_iff.1 hj).1
 rw [celCells_len] at hlt
 obtain ⟨y, hy⟩ : ∃ y, ys[j / 5]? = some y := ⟨_, List.getElem?_eq_getElem (by omega)⟩
 have h1 := cel_cell ys (j / 5) (j % 5) y hy (by omega)
 rw [show j / 5 * 5 + j % 5 = j by omega, hj] at h1
 obtain ⟨g', e, h5⟩ := h.2.2 (j / 5) y hy
 cases e
 obtain ⟨c0, c1, c2, c3, c4⟩ := h5
 have hj5 : j = j / 5 * 5 + j % 5 := by omega
 rcases (show j % 5 = 0 ∨ j % 5 = 1 ∨ j % 5 = 2 ∨ j % 5 = 3 ∨ j % 5 = 4 by omega) with e | e | e | e | e <;> rw [e] at h1 hj5 <;> rw [hj5] <;> simp [celCells] at h1 <;> subst h1
 · exact c0
 · exact c1
 · exact c2
 · exact c3
 · exact c4
theorem flat_take (ys : List Cel) (k : Nat) : (ys.take k).flatMap celCells = (ys.flatMap celCells).take (k * 5) := by
 induction ys generalizing k with
 | nil => simp
 | cons a l ih =>
   cases k with
   | zero => simp
   | succ k =>
     rw [List.take_succ_cons, List.flatMap_cons, List.flatMap_cons, ih, List.take_append]
     have ha : (celCells a).length = 5 := rfl
     have e1 : (celCells a).take ((k + 1) * 5) = celCells a := List.take_of_length_le (by rw [ha]; omega)
     rw [ha, e1, show (k + 1) * 5 - 5 = k * 5 by omega]
theorem flat_drop (ys : List Cel) (k : Nat) : (ys.drop k).flatMap celCells = (ys.flatMap celCells).drop (k * 5) := by
 induction ys generalizing k with
 | nil => simp
 | cons a l ih =>
   cases k with
   | zero => simp
   | succ k =>
     rw [List.drop_succ_cons, List.flatMap_cons, ih, List.drop_append]
     have ha : (celCells a).length = 5 := rfl
     have e1 : (celCells a).drop ((k + 1) * 5) = [] := List.drop_eq_nil_of_le (by rw [ha]; omega)
     rw [ha, e1, show (k + 1) * 5 - 5 = k * 5 by omega, List.nil_append]
theorem addr_plus (b off k : Nat) : (⟨b, off, none⟩ : Addr).add k = ⟨b, off + k, none⟩ := by
 unfold Addr.add; split
 · subst_vars; rfl
 · rfl

structure Drawing (w W : World) (T p : Nat) (a : Option Addr) (len cap : Nat) (zs : List Int) (i : Nat) (h : Int) (g n c : Nat) (ys : List Cel) : Prop where
 own : OwnC w.heap.size W (.slice (some ⟨g, 0, none⟩) n c) ys
 cur : CurAt W T p a len cap zs i h
 grow : w.grownBy W (some p)
 len : ys.length = n
 small : ∀ y ∈ ys, SmallC y
theorem Drawing.below {w W W' : World} {T p : Nat} {a : Option Addr} {len cap : Nat} {zs : List Int} {i : Nat} {h : Int} {g n c : Nat} {ys : List Cel} (d : Drawing w W T p a len cap zs i h g n c ys) (hb : Below W.heap.size W W') : Drawing w W' T p a len cap zs i h g n c ys :=
 ⟨d.own.below hb, d.cur.below hb, ⟨hb.os.trans d.grow.os, hb.tape.trans d.grow.tape, hb.output.trans d.grow.output, Nat.le_trans d.grow.size hb.size, fun k hk hne => (hb.block k (by have := d.grow.size; omega)).trans (d.grow.block k hk hne)⟩, d.len, d.small⟩
theorem Drawing.drewN {w W : World} {T p : Nat} {a : Option Addr} {len cap : Nat} {zs : List Int} {i : Nat} {h : Int} {g n c : Nat} {ys : List Cel} (d : Drawing w W T p a len cap zs i h g n c ys) (m : Nat) : Drawing w (W.drewN m) T p a len cap zs i h g n c ys := d.below (below_draws m)
theorem Drawing.draw {w W W' : World} {T p : Nat} {a : Option Addr} {len cap : Nat} {zs : List Int} {i i' : Nat} {h h' : Int} {g n c : Nat} {ys : List Cel} (d : Drawing w W T p a len cap zs i h g n c ys) (hp : p < w.heap.size) (hg : W.grownBy W' (some p)) (cu : CurAt W' T p a len cap zs i' h') : Drawing w W' T p a len cap zs i' h' g n c ys :=
 ⟨d.own.grown hg hp, cu, grown_two d.grow hg, d.len, d.small⟩
theorem small_fit {y : Cel} (h : SmallC y) : y.row.size ≤ maxLen ∧ y.col.size ≤ maxLen ∧ y.value.size ≤ maxLen := ⟨Nat.le_trans h.1 (by unfold maxLen; omega), Nat.le_trans h.2.1 (by unfold maxLen; omega), Nat.le_trans h.2.2.1 (by unfold maxLen; omega)⟩

theorem take_cells {w : World} {g n c : Nat} {ys : List Cel} (h : CelRow w (some ⟨g, 0, none⟩) n c ys) (k : Nat) : ∀ j u, ((ys.take k).flatMap celCells)[j]? = some u → w.cell? ((⟨g, 0, none⟩ : Addr).add j) = some u := by
 intro j u hj
 rw [flat_take, List.getElem?_take] at hj
 split at hj
 · rw [addr_plus, Nat.zero_add]; exact row_part h j u hj
 · cases hj
theorem drop_cells {w : World} {g n c : Nat} {ys : List Cel} (h : CelRow w (some ⟨g, 0, none⟩) n c ys) (k : Nat) : ∀ j u, ((ys.drop k).flatMap celCells)[j]? = some u → w.cell? ((⟨g, k * 5, none⟩ : Addr).add j) = some u := by
 intro j u hj
 rw [flat_drop, List.getElem?_drop] at hj
 rw [addr_plus]
 exact row_part h _ u hj
theorem drop_cells_if {w : World} {g n c : Nat} {ys : List Cel} (h : CelRow w (some ⟨g, 0, none⟩) n c ys) (k : Nat) : ∀ j u, ((ys.drop k).flatMap celCells)[j]? = some u → w.cell? ((if c = k then (⟨g, 0, none⟩ : Addr) else ⟨g, k * 5, none⟩).add j) = some u := by
 intro j u hj
 by_cases hck : c = k
 · rw [List.drop_eq_nil_of_le (by have := h.1; have := h.2.1; omega)] at hj
   simp at hj
 · rw [if_neg hck]
   exact drop_cells h k j u hj
theorem new_cells (w : World) (x : Cel) {b : Nat} (hbb : w.heap.size = b) : ∀ j u, ([x].flatMap celCells)[j]? = some u → (w.alloc (.cells #[.string x.row, .string x.col, .int .i64 x.time, .bool x.gone, .string x.value] 41)).cell? ((⟨b, 0, none⟩ : Addr).add j) = some u := by
 subst hbb
 intro j u hj
 have hb := alloc_at w (.cells #[.string x.row, .string x.col, .int .i64 x.time, .bool x.gone, .string x.value] 41)
 rw [addr_plus, Nat.zero_add]
 simp only [World.cell?, hb]
 simpa [celCells] using hj
theorem later_cells {w : World} {b : Nat} {x : Cel} (h : ∀ j u, ([x].flatMap celCells)[j]? = some u → w.cell? ((⟨b, 0, none⟩ : Addr).add j) = some u) (o : Obj) : ∀ j u, ([x].flatMap celCells)[j]? = some u → (w.alloc o).cell? ((⟨b, 0, none⟩ : Addr).add j) = some u := by
 intro j u hj
 have h1 := h j u hj
 rw [addr_plus] at h1 ⊢
 have hlt : b < w.heap.size := cell_lt h1
 exact (World.cell?_of_block (w := w) (alloc_old w o hlt)).trans h1
theorem kept_cells {w w' : World} {b : Nat} {x : Cel} {row : Option Nat} (h : ∀ j u, ([x].flatMap celCells)[j]? = some u → w.cell? ((⟨b, 0, none⟩ : Addr).add j) = some u) (hg : w.grownBy w' row) (hb : b < w.heap.size) (hne : some b ≠ row) : ∀ j u, ([x].flatMap celCells)[j]? = some u → w'.cell? ((⟨b, 0, none⟩ : Addr).add j) = some u := by
 intro j u hj
 have h1 := h j u hj
 rw [addr_plus] at h1 ⊢
 exact (World.cell?_of_block (w := w) (hg.block b hb hne)).trans h1
theorem drawn_new {w W W' : World} {T p : Nat} {a : Option Addr} {len cap : Nat} {zs : List Int} {i : Nat} {h : Int} {g n c : Nat} {ys : List Cel} (d : Drawing w W T p a len cap zs i h g n c ys) (hb : Below W.heap.size W W') {gn m cn k : Nat} {x : Cel} (ho : OwnC W.heap.size W' (.slice (some ⟨gn, 0, none⟩) m cn) (ys.take k ++ [x] ++ ys.drop k)) (hl : (ys.take k ++ [x] ++ ys.drop k).length = m) (hx : SmallC x) :
   Drawing w W' T p a len cap zs i h gn m cn (ys.take k ++ [x] ++ ys.drop k) := by
 have d' := d.below hb
 refine ⟨own_base ho d.grow.size, d'.cur, d'.grow, hl, fun y hy => ?_⟩
 simp only [List.mem_append, List.mem_singleton] at hy
 rcases hy with (h1 | rfl) | h1
 · exact d.small y (List.mem_of_mem_take h1)
 · exact hx
 · exact d.small y (List.mem_of_mem_drop h1)

theorem insert_ok {ys : List Cel} {x : Cel} {k : Nat} (h : cellsOk ys = true) (hx : cellOk x = true) (hk : k ≤ ys.length) (h1 : ∀ y ∈ ys.take k, celBefore y x = true) (h2 : ∀ y, ys[k]? = some y → celBefore x y = true) : cellsOk (ys.take k ++ [x] ++ ys.drop k) = true := by
 have hl : (ys.take k).length = k := by rw [List.length_take]; omega
 have at1 : ∀ j, j < k → (ys.take k ++ [x] ++ ys.drop k)[j]? = ys[j]? := fun j hj => by
   rw [List.getElem?_append_left (by rw [List.length_append, hl]; omega), List.getElem?_append_left (by rw [hl]; exact hj), List.getElem?_take, if_pos hj]
 have at2 : (ys.take k ++ [x] ++ ys.drop k)[k]? = some x := by
   rw [List.getElem?_append_left (by rw [List.length_append, hl]; simp), List.getElem?_append_right (by rw [hl]; omega), hl, Nat.sub_self]; rfl
 have at3 : ∀ j, k < j → (ys.take k ++ [x] ++ ys.drop k)[j]? = ys[j - 1]? := fun j hj => by
   rw [List.getElem?_append_right (by rw [List.length_append, hl]; simp; omega), List.length_append, hl, List.getElem?_drop]
   congr 1
   simp
   omega
 refine cellsOk_yes fun j hj => ?_
 obtain ⟨y, hy⟩ : ∃ y, (ys.take k ++ [x] ++ ys.drop k)[j]? = some y := ⟨_, List.getElem?_eq_getElem hj⟩
 rcases Nat.lt_trichotomy j k with hjk | rfl | hjk
 · have hy' := hy
   rw [at1 j hjk] at hy'
   cases j with
   | zero => rw [okAt_zero hy]; exact cells_ok h hy'
   | succ j =>
     obtain ⟨z, hz⟩ : ∃ z, ys[j]? = some z := ⟨_, List.getElem?_eq_getElem (by omega)⟩
     rw [okAt_succ hy (by rw [at1 j (by omega)]; exact hz), ← okAt_succ hy' hz]
     exact cellsOk_at h (by omega)
 · rw [at2] at hy
   cases hy
   cases j with
   | zero => rw [okAt_zero at2]; exact hx
   | succ j =>
     obtain ⟨z, hz⟩ : ∃ z, ys[j]? = some z := ⟨_, List.getElem?_eq_getElem (by omega)⟩
     rw [okAt_succ at2 (by rw [at1 j (by omega)]; exact hz), hx, h1 z (List.mem_iff_getElem?.2 ⟨j, by rw [List.getElem?_take, if_pos (by omega)]; exact hz⟩)]
     rfl
 · have hy' := hy
   rw [at3 j hjk] at hy'
   obtain ⟨j, rfl⟩ : ∃ i, j = i + 1 := ⟨j - 1, by omega⟩
   rw [Nat.add_sub_cancel] at hy'
   by_cases hjk2 : j = k
   · subst hjk2
     rw [okAt_succ hy at2, cells_ok h hy', h2 y hy']
     rfl
   · obtain ⟨i, rfl⟩ : ∃ i, j = i + 1 := ⟨j - 1, by omega⟩
     have hlt := (List.getElem?_eq_some_iff.1 hy').1
     obtain ⟨z, hz⟩ : ∃ z, ys[i]? = some z := ⟨_, List.getElem?_eq_getElem (by omega)⟩
     rw [okAt_succ hy (by rw [at3 (i + 1) (by omega), Nat.add_sub_cancel]; exact hz), ← okAt_succ hy' hz]
     exact cellsOk_at h hlt
theorem take_ahead {ys : List Cel} {x y : Cel} {k : Nat} (h : ∀ z ∈ ys.take k, celBefore z x = true) (hy : ys[k]? = some y) (hb : celBefore y x = true) : ∀ z ∈ ys.take (k + 1), celBefore z x = true := by
 intro z hz
 obtain ⟨i, hi⟩ := List.mem_iff_getElem?.1 hz
 rw [List.getElem?_take] at hi
 split at hi
 · by_cases hik : i = k
   · subst hik
     rw [hy] at hi
     cases hi
     exact hb
   · exact h z (List.mem_iff_getElem?.2 ⟨i, by rw [List.getElem?_take, if_pos (by omega)]; exact hi⟩)
 · cases hi

def SomeCels (most : Nat) (T p : Nat) (a : Option Addr) (len cap : Nat) (zs : List Int) (w : World) (e : Ending) (w' : World) : Prop :=
 ∃ (g n c i : Nat) (h : Int) (ys : List Cel), e = .returned (.slice (some ⟨g, 0, none⟩) n c) ∧ n ≤ most ∧ Drawing w w' T p a len cap zs i h g n c ys

def RightCels (most : Nat) (T p : Nat) (a : Option Addr) (len cap : Nat) (zs : List Int) (w : World) (e : Ending) (w' : World) : Prop :=
 ∃ (g n c i : Nat) (h : Int) (ys : List Cel), e = .returned (.slice (some ⟨g, 0, none⟩) n c) ∧ n ≤ most ∧ cellsOk ys = true ∧ Drawing w w' T p a len cap zs i h g n c ys

set_option maxHeartbeats 8000000 in
set_option maxRecDepth 100000 in
theorem l04Cells_ok (most : Nat) (hmost : most ≤ 12) (T p : Nat) (a : Option Addr) (len cap : Nat) (zs : List Int) (i : Nat) (h : Int) (w : World) (cu : CurAt w T p a len cap zs i h) :
   Calls Tryz.prog 86 #[.pointer (some ⟨p, 0, none⟩), .int .i64 most] w (RightCels most T p a len cap zs w) := by
 have hpl := cu.lt
 have D0 := Lib.hid (show Drawing w (w.alloc (.cells #[] 41)) T p a len cap zs i h w.heap.size 0 0 [] from ⟨World.ownsRow_made w #[] 0 (Nat.le_refl _) (by unfold maxLen; omega) (by simp), cu.new _, World.grownBy_alloc _ _ _, rfl, (fun y hy => by simp at hy)⟩)
 clear cu
 go_enter Tryz.func86, Tryz.ntmps86
 go_wp2_with fail
 refine (l01Below_any T p a len cap zs i h (most + 1) _ D0.out.cur (by omega) (by omega)).mono ?_
 rintro e w1 ⟨N, i1, h1, hN0, hN1, rfl, c1, g1⟩
 obtain ⟨N, rfl⟩ := Int.eq_ofNat_of_zero_le hN0
 have hN : N ≤ most := by omega
 have D1 := Lib.hid (D0.out.draw hpl g1 c1)
 clear c1 g1 hN0 hN1
 go_wp2_with fail
 go_loopw [5, 7] (fun vv ii wr => ∃ (j g n c ih : Nat) (hh : Int) (ys : List Cel), j ≤ N ∧ ii = .int .i64 j ∧ vv = .slice (some ⟨g, 0, none⟩) n c ∧ n ≤ j ∧ cellsOk ys = true ∧ Drawing w wr T p a len cap zs ih hh g n c ys) (fun _ ii _ => N - (intOf ii).toNat)
 case atStart => exact ⟨0, _, 0, 0, i1, h1, [], Nat.zero_le _, rfl, rfl, Nat.le_refl _, rfl, D1.out⟩
 case round =>
   obtain ⟨j, g, n, c, ih, hh, ys, hj, rfl, rfl, hnj, hok, dd⟩ := hrel
   have DJ := Lib.hid dd
   have OKS := Lib.hid hok
   clear dd hok
   by_cases hjn : j < N
   · have jj : (j : Int) < (N : Int) := by omega
     go_wp2_with fail
     refine (l04Make_ok T p a len cap zs ih hh _ DJ.out.cur).mono ?_
     rintro e w3 ⟨⟨R, C, t, G, V⟩, i3, h3, hs3, rfl, c3, g3⟩
     have K3 := Lib.hid (one_below w3 (.cells #[.string R, .string C, .int .i64 t, .bool G, .string V] 41))
     have D3 := Lib.hid ((DJ.out.draw hpl g3 c3).below K3.out)
     have X3 := Lib.hid (one5_new w3 (.string R) (.string C) (.int .i64 t) (.bool G) (.string V) 41)
     have HS := Lib.hid hs3.1
     have HOK := Lib.hid hs3.2
     have hR := (small_fit hs3.1).1
     have hC := (small_fit hs3.1).2.1
     have hnc : n ≤ c := D3.out.own.row.2.1
     clear c3 g3 hs3 K3
     go_wp2_with fail
     obtain ⟨w4, hw4⟩ : ∃ W, w3.alloc (.cells #[.string R, .string C, .int .i64 t, .bool G, .string V] 41) = W := ⟨_, rfl⟩
     rw [hw4] at D3 X3 ⊢
     clear hw4
     obtain ⟨A, hA⟩ : ∃ A, w3.heap.size = A := ⟨_, rfl⟩
     rw [hA] at X3 ⊢
     clear hA
     go_loopw [9] (fun kk wr => ∃ k : Nat, k ≤ n ∧ kk = .int .i64 k ∧ Drawing w wr T p a len cap zs i3 h3 g n c ys ∧ One5 A (.string R) (.string C) (.int .i64 t) (.bool G) (.string V) wr ∧ Hid (∀ y ∈ ys.take k, celBefore y ⟨R, C, t, G, V⟩ = true)) (fun kk _ => n - (intOf kk).toNat)
     case atStart => exact ⟨0, Nat.zero_le _, rfl, D3.out, X3.out, Lib.hid (fun y hy => by simp at hy)⟩
     case round =>
       obtain ⟨k, hk, rfl, dd, xx, INN⟩ := hrel
       have DD := Lib.hid dd
       have XX := Lib.hid xx
       clear dd xx
       have hkc : (k : Int) ≤ (c : Int) := by omega
       have hkn : (k : Int) ≤ (n : Int) := by omega
       by_cases hlt : k < n
       · skip
         obtain ⟨⟨R', C', t', G', V'⟩, hy⟩ : ∃ y, ys[k]? = some y := ⟨_, List.getElem?_eq_getElem (by rw [DD.out.len]; exact hlt)⟩
         obtain ⟨g', hg', k5⟩ := DD.out.own.row.2.2 k _ hy
         cases hg'
         obtain ⟨hR', hC', _⟩ := small_fit (DD.out.small _ (List.mem_of_getElem? hy))
         have M1 := Lib.hid (And.intro XX.out k5)
         have i1 : (k : Int) < (n : Int) := by omega
         have i2 : (0 : Int) ≤ (k : Int) := by omega
         have HY := Lib.hid hy
         clear hy k5
         obtain ⟨b, hb⟩ : ∃ b, celBefore ⟨R', C', t', G', V'⟩ ⟨R, C, t, G, V⟩ = b := ⟨_, rfl⟩
         have HB := Lib.hid hb
         clear hb
         go_wp2_with fail
         refine wp_region_held_drew (S := fun w' => One5 A (.string R) (.string C) (.int .i64 t) (.bool G) (.string V) w' ∧ Cel5 w' g k ⟨R', C', t', G', V'⟩) (by kernel_rfl) M1.out (fun hHeld => ?_)
         refine tk 0 (some 22) ?_ ?hy hHeld ?_
         case hy => (intro w' hS; clear hS; go_simp <;> with_reducible rfl)
         simp only [Act.put, sA, sB, sC]
         refine tk 1 (some 23) ?_ ?hy hHeld ?_
         case hy => (intro w' hS; clear hS; go_simp <;> with_reducible rfl)
         simp only [Act.put, sA, sB, sC]
         refine tk 2 (some 24) ?_ ?hy hHeld ?_
         case hy => (intro w' hS; clear hS; go_simp <;> with_reducible rfl)
         simp only [Act.put, sA, sB, sC]
         refine tk 3 (some 25) ?_ ?hy hHeld ?_
         case hy => (intro w' hS; clear hS; go_simp <;> with_reducible rfl)
         simp only [Act.put, sA, sB, sC]
         refine tk 4 (some 26) ?_ ?hy hHeld ?_
         case hy => (intro w' hS; clear hS; go_simp <;> with_reducible rfl)
         simp only [Act.put, sA, sB, sC]
         refine tk 5 (some 27) ?_ ?hy hHeld ?_
         case hy => (intro w' hS; clear hS; go_simp <;> with_reducible rfl)
         simp only [Act.put, sA, sB, sC]
         refine tk 6 (some 28) ?_ ?hy hHeld ?_
         case hy => (intro w' hS; clear hS; go_simp <;> with_reducible rfl)
         simp only [Act.put, sA, sB, sC]
         refine tk 7 (some 29) ?_ ?hy hHeld ?_
         case hy => (intro w' hS; clear hS; go_simp <;> with_reducible rfl)
         simp only [Act.put, sA, sB, sC]
         refine tk 8 (some 30) ?_ ?hy hHeld ?_
         case hy => (intro w' hS; unfold One5 Cel5 at hS; obtain ⟨⟨s0, s1, s2, s3, s4⟩, ⟨s5, s6, s7, s8, s9⟩⟩ := hS; go_simp <;> with_reducible rfl)
         simp only [Act.put, sA, sB, sC]
         refine tk 9 (some 31) ?_ ?hy hHeld ?_
         case hy => (intro w' hS; unfold One5 Cel5 at hS; obtain ⟨⟨s0, s1, s2, s3, s4⟩, ⟨s5, s6, s7, s8, s9⟩⟩ := hS; go_simp <;> with_reducible rfl)
         simp only [Act.put, sA, sB, sC]
         refine wpAnyH_ready (rs := [10]) (by kernel_rfl) (by simp) ?_
         refine AllReadyH.cons rfl (fun K hK => ?_) AllReadyH.nil
         go_simp
         refine (specCellBefore R' C' t' G' V' R C t G V hR' hC' hR hC _).mono ?_
         rw [HB.out]
         rintro e w2 ⟨rfl, hb2⟩
         have M2 := Lib.hid (And.intro (One5.below (w := wr.drewN 1) M1.out.1 hb2) (Cel5.below (w := wr.drewN 1) M1.out.2 hb2))
         have D2 := Lib.hid ((DD.out.drewN 1).below hb2)
         have X2 := Lib.hid (One5.below (w := wr.drewN 1) XX.out hb2)
         clear hb2
         go_wp2_with fail
         refine hK.out _ _ M2.out (fun hHeld => ?_)
         clear hK K
         refine tk 11 (some 33) ?_ ?hy hHeld ?_
         case hy => (intro w' hS; clear hS; go_simp <;> with_reducible rfl)
         simp only [Act.put, sA, sB, sC]
         refine wpAnyH_done (by kernel_rfl) ?_ _
         cases b
         · obtain ⟨b2, hb2⟩ : ∃ b, celBefore ⟨R, C, t, G, V⟩ ⟨R', C', t', G', V'⟩ = b := ⟨_, rfl⟩
           have HB2 := Lib.hid hb2
           clear hb2
           go_wp2_with fail
           refine wp_region_held_drew (S := fun w' => One5 A (.string R) (.string C) (.int .i64 t) (.bool G) (.string V) w' ∧ Cel5 w' g k ⟨R', C', t', G', V'⟩) (by kernel_rfl) M2.out (fun hHeld => ?_)
           refine tk 0 (some 36) ?_ ?hy hHeld ?_
           case hy => (intro w' hS; clear hS; go_simp <;> with_reducible rfl)
           simp only [Act.put, sA, sB, sC]
           refine tk 1 (some 37) ?_ ?hy hHeld ?_
           case hy => (intro w' hS; clear hS; go_simp <;> with_reducible rfl)
           simp only [Act.put, sA, sB, sC]
           refine tk 2 (some 38) ?_ ?hy hHeld ?_
           case hy => (intro w' hS; clear hS; go_simp <;> with_reducible rfl)
           simp only [Act.put, sA, sB, sC]
           refine tk 3 (some 39) ?_ ?hy hHeld ?_
           case hy => (intro w' hS; clear hS; go_simp <;> with_reducible rfl)
           simp only [Act.put, sA, sB, sC]
           refine tk 4 (some 40) ?_ ?hy hHeld ?_
           case hy => (intro w' hS; clear hS; go_simp <;> with_reducible rfl)
           simp only [Act.put, sA, sB, sC]
           refine tk 5 (some 41) ?_ ?hy hHeld ?_
           case hy => (intro w' hS; unfold One5 Cel5 at hS; obtain ⟨⟨s0, s1, s2, s3, s4⟩, ⟨s5, s6, s7, s8, s9⟩⟩ := hS; go_simp <;> with_reducible rfl)
           simp only [Act.put, sA, sB, sC]
           refine tk 6 (some 42) ?_ ?hy hHeld ?_
           case hy => (intro w' hS; clear hS; go_simp <;> with_reducible rfl)
           simp only [Act.put, sA, sB, sC]
           refine tk 7 (some 43) ?_ ?hy hHeld ?_
           case hy => (intro w' hS; clear hS; go_simp <;> with_reducible rfl)
           simp only [Act.put, sA, sB, sC]
           refine tk 8 (some 44) ?_ ?hy hHeld ?_
           case hy => (intro w' hS; clear hS; go_simp <;> with_reducible rfl)
           simp only [Act.put, sA, sB, sC]
           refine tk 9 (some 45) ?_ ?hy hHeld ?_
           case hy => (intro w' hS; unfold One5 Cel5 at hS; obtain ⟨⟨s0, s1, s2, s3, s4⟩, ⟨s5, s6, s7, s8, s9⟩⟩ := hS; go_simp <;> with_reducible rfl)
           simp only [Act.put, sA, sB, sC]
           refine wpAnyH_ready (rs := [10]) (by kernel_rfl) (by simp) ?_
           refine AllReadyH.cons rfl (fun K hK => ?_) AllReadyH.nil
           go_simp
           refine (specCellBefore R C t G V R' C' t' G' V' hR hC hR' hC' _).mono ?_
           rw [HB2.out]
           rintro e w5 ⟨rfl, hb5⟩
           have M5 := Lib.hid (And.intro (One5.below (w := w2.drewN 1) M2.out.1 hb5) (Cel5.below (w := w2.drewN 1) M2.out.2 hb5))
           have D5 := Lib.hid ((D2.out.drewN 1).below hb5)
           have X5 := Lib.hid (One5.below (w := w2.drewN 1) X2.out hb5)
           clear hb5
           go_wp2_with fail
           refine hK.out _ _ M5.out (fun hHeld => ?_)
           clear hK K
           refine tk 11 (some 47) ?_ ?hy hHeld ?_
           case hy => (intro w' hS; clear hS; go_simp <;> with_reducible rfl)
           simp only [Act.put, sA, sB, sC]
           refine tk 12 (some 48) ?_ ?hy hHeld ?_
           case hy => (intro w' hS; clear hS; go_simp <;> with_reducible rfl)
           simp only [Act.put, sA, sB, sC]
           refine wpAnyH_done (by kernel_rfl) ?_ _
           cases b2
           · go_wp2
             go_roundw
             case rel => exact ⟨j + 1, g, n, c, i3, h3, ys, by omega, by go_num, rfl, by omega, OKS.out, D5.out⟩
             case measure => simp [intOf]; omega
           · go_wp2_with fail
             have DW := Lib.hid D5.out
             have FIT := Lib.hid (insert_ok OKS.out HOK.out (by rw [DW.out.len]; omega) INN.out (fun y hy => by rw [HY.out] at hy; cases hy; exact HB2.out))
             have XW := Lib.hid X5.out
             obtain ⟨W, hW⟩ : ∃ W, w5 = W := ⟨_, rfl⟩
             rw [hW] at DW XW ⊢
             clear hW
             have HT := Lib.hid (show (ys.take k).length = k by have := DW.out.len; rw [List.length_take]; omega)
             have HD := Lib.hid (show (ys.drop k).length = (n - k) by have := DW.out.len; rw [List.length_drop]; omega)
             have HLEN := Lib.hid (show (ys.take k ++ [(⟨R, C, t, G, V⟩ : Cel)] ++ ys.drop k).length = n + 1 by rw [List.length_append, List.length_append, HT.out, HD.out]; show k + 1 + (n - k) = n + 1; omega)
             refine wp_region_held_drew (S := fun w' => One5 A (.string R) (.string C) (.int .i64 t) (.bool G) (.string V) w') (by kernel_rfl) XW.out (fun hHeld => ?_)
             refine tk 1 (some 50) ?_ ?hy hHeld ?_
             case hy => (intro w' hS; clear hS; go_simp <;> with_reducible rfl)
             simp only [Act.put, sA, sB, sC]
             refine tk 2 (some 51) ?_ ?hy hHeld ?_
             case hy => (intro w' hS; clear hS; go_simp <;> with_reducible rfl)
             simp only [Act.put, sA, sB, sC]
             refine tk 3 (some 52) ?_ ?hy hHeld ?_
             case hy => (intro w' hS; clear hS; go_simp <;> with_reducible rfl)
             simp only [Act.put, sA, sB, sC]
             refine tk 5 (some 54) ?_ ?hy hHeld ?_
             case hy => (intro w' hS; unfold One5 at hS; obtain ⟨s0, s1, s2, s3, s4⟩ := hS; go_simp <;> with_reducible rfl)
             simp only [Act.put, sA, sB, sC]
             refine tk 8 (some 57) ?_ ?hy hHeld ?_
             case hy => (intro w' hS; clear hS; go_simp <;> with_reducible rfl)
             simp only [Act.put, sA, sB, sC]
             refine tk 9 (some 58) ?_ ?hy hHeld ?_
             case hy => (intro w' hS; clear hS; go_simp <;> with_reducible rfl)
             simp only [Act.put, sA, sB, sC]
             refine tk 10 (some 59) (.slice (some (if c = k then (⟨g, 0, none⟩ : Addr) else ⟨g, k * 5, none⟩)) (n - k) (c - k)) ?hy hHeld ?_
             case hy => 
               intro w' hS
               clear hS
               by_cases hck : c = k
               · subst hck
                 go_simp <;> rfl
               · rw [if_neg hck]
                 go_simp <;> rfl
             simp only [Act.put, sA, sB, sC]
             have L0 := Lib.hid (below_draws (B := W.heap.size) (w := W) 1)
             refine wpAnyH_ready (rs := [0, 6]) (by kernel_rfl) (by simp) ?_
             refine (AllReadyH.cons rfl (fun K hK => ?_) (AllReadyH.cons rfl (fun K hK => ?_) AllReadyH.nil))
             · skip
               go_simp
               have L1 := Lib.hid (L0.out.trans ((one_below W.drew (.cells #[] 41)).mono L0.out.size))
               have O1 := Lib.hid (show OwnC W.heap.size (W.drew.alloc (.cells #[] 41)) (.slice (some ⟨W.heap.size, 0, none⟩) 0 0) [] from World.ownsRow_made W.drew #[] 0 (Nat.le_refl _) (by unfold maxLen; omega) (by simp))
               refine hK.out _ _ (XW.out.below L1.out) (fun hHeld => ?_)
               clear hK K
               refine wpAnyH_ready (rs := [4, 6]) (by kernel_rfl) (by simp) ?_
               refine (AllReadyH.cons rfl (fun K hK => ?_) (AllReadyH.cons rfl (fun K hK => ?_) AllReadyH.nil))
               · skip
                 rw [if_pos (by rfl)]
                 refine op_pushC (v := .slice (some ⟨W.heap.size, 0, none⟩) 0 0) (ys.take k) _ _ rfl rfl rfl HT.out (take_cells (DW.out.own.row.below L1.out) k) O1.out L1.out.size (by rw [HT.out]; show 0 + k < 1000; omega) ?_
                 intro v4 w4 o4 gr4
                 have L4 := Lib.hid (L1.out.grown gr4 L1.out.size (fun q e => (O1.out.lt e).1))
                 have O4 := Lib.hid (show OwnC W.heap.size w4 v4 (ys.take k) from o4)
                 have N4 := Lib.hid gr4
                 clear o4 gr4
                 refine hK.out _ _ (XW.out.below L4.out) (fun hHeld => ?_)
                 clear hK K
                 refine wpAnyH_ready (rs := [6]) (by kernel_rfl) (by simp) ?_
                 refine (AllReadyH.cons rfl (fun K hK => ?_) AllReadyH.nil)
                 go_simp
                 have L5 := Lib.hid (L4.out.trans ((one_below w4 (.cells #[.string R, .string C, .int .i64 t, .bool G, .string V] 41)).mono L4.out.size))
                 have O5 := Lib.hid (O4.out.new (.cells #[.string R, .string C, .int .i64 t, .bool G, .string V] 41))
                 have TC := Lib.hid (new_cells w4 ⟨R, C, t, G, V⟩ rfl)
                 refine hK.out _ _ (XW.out.below L5.out) (fun hHeld => ?_)
                 clear hK K
                 refine wpAnyH_ready (rs := [7]) (by kernel_rfl) (by simp) ?_
                 refine (AllReadyH.cons rfl (fun K hK => ?_) AllReadyH.nil)
                 rw [if_pos (by rfl)]
                 refine op_pushC (v := v4) [⟨R, C, t, G, V⟩] _ _ rfl rfl rfl rfl TC.out O5.out L5.out.size (by rw [HT.out]; show k + 1 < 1000; omega) ?_
                 intro v7 w7 o7 gr7
                 have L7 := Lib.hid (L5.out.grown gr7 L5.out.size (fun q e => (O5.out.lt e).1))
                 have O7 := Lib.hid o7
                 clear o7 gr7
                 refine hK.out _ _ (XW.out.below L7.out) (fun hHeld => ?_)
                 clear hK K
                 refine wpAnyH_ready (rs := [11]) (by kernel_rfl) (by simp) ?_
                 refine (AllReadyH.cons rfl (fun K hK => ?_) AllReadyH.nil)
                 rw [if_pos (by rfl)]
                 refine op_pushC (v := v7) (ys.drop k) _ _ rfl rfl rfl HD.out (drop_cells_if (DW.out.own.row.below L7.out) k) O7.out L7.out.size (by rw [HD.out, List.length_append, HT.out]; show k + 1 + (n - k) < 1000; omega) ?_
                 intro v8 w8 o8 gr8
                 have L8 := Lib.hid (L7.out.grown gr8 L7.out.size (fun q e => (O7.out.lt e).1))
                 have O8 := Lib.hid o8
                 clear o8 gr8
                 refine hK.out _ _ (XW.out.below L8.out) (fun hHeld => ?_)
                 clear hK K
                 refine tk 12 (some 5) ?_ ?hy hHeld ?_
                 case hy => (intro w' hS; clear hS; go_simp <;> with_reducible rfl)
                 refine wpAnyH_done (by kernel_rfl) ?_ _
                 obtain ⟨gn, cn, rfl⟩ := ownsRow_succ (k := n) (v := v8) (by have := O8.out; unfold OwnC at this; rw [HLEN.out] at this; exact this)
                 have DN := Lib.hid (drawn_new DW.out L8.out O8.out HLEN.out HS.out)
                 go_wp2
                 go_roundw
                 case rel => exact ⟨j + 1, gn, n + 1, cn, i3, h3, ys.take k ++ [⟨R, C, t, G, V⟩] ++ ys.drop k, by omega, by go_num, rfl, by omega, FIT.out, DN.out⟩
                 case measure => simp [intOf]; omega
               · skip
                 go_simp
                 have L2 := Lib.hid (L1.out.trans ((one_below (W.drew.alloc (.cells #[] 41)) (.cells #[.string R, .string C, .int .i64 t, .bool G, .string V] 41)).mono L1.out.size))
                 have O2 := Lib.hid (O1.out.new (.cells #[.string R, .string C, .int .i64 t, .bool G, .string V] 41))
                 refine hK.out _ _ (XW.out.below L2.out) (fun hHeld => ?_)
                 clear hK K
                 refine wpAnyH_ready (rs := [4]) (by kernel_rfl) (by simp) ?_
                 refine (AllReadyH.cons rfl (fun K hK => ?_) AllReadyH.nil)
                 rw [if_pos (by rfl)]
                 refine op_pushC (v := .slice (some ⟨W.heap.size, 0, none⟩) 0 0) (ys.take k) _ _ rfl rfl rfl HT.out (take_cells (DW.out.own.row.below L2.out) k) O2.out L2.out.size (by rw [HT.out]; show 0 + k < 1000; omega) ?_
                 intro v4 w4 o4 gr4
                 have L4 := Lib.hid (L2.out.grown gr4 L2.out.size (fun q e => (O2.out.lt e).1))
                 have O4 := Lib.hid (show OwnC W.heap.size w4 v4 (ys.take k) from o4)
                 have N4 := Lib.hid gr4
                 clear o4 gr4
                 refine hK.out _ _ (XW.out.below L4.out) (fun hHeld => ?_)
                 clear hK K
                 have TC := Lib.hid (kept_cells (new_cells (W.drew.alloc (.cells #[] 41)) ⟨R, C, t, G, V⟩ (b := W.heap.size + 1) (by simp)) N4.out (by simp) (by simp [Value.ownBlock]))
                 refine wpAnyH_ready (rs := [7]) (by kernel_rfl) (by simp) ?_
                 refine (AllReadyH.cons rfl (fun K hK => ?_) AllReadyH.nil)
                 rw [if_pos (by rfl)]
                 refine op_pushC (v := v4) [⟨R, C, t, G, V⟩] _ _ rfl rfl rfl rfl TC.out O4.out L4.out.size (by rw [HT.out]; show k + 1 < 1000; omega) ?_
                 intro v7 w7 o7 gr7
                 have L7 := Lib.hid (L4.out.grown gr7 L4.out.size (fun q e => (O4.out.lt e).1))
                 have O7 := Lib.hid o7
                 clear o7 gr7
                 refine hK.out _ _ (XW.out.below L7.out) (fun hHeld => ?_)
                 clear hK K
                 refine wpAnyH_ready (rs := [11]) (by kernel_rfl) (by simp) ?_
                 refine (AllReadyH.cons rfl (fun K hK => ?_) AllReadyH.nil)
                 rw [if_pos (by rfl)]
                 refine op_pushC (v := v7) (ys.drop k) _ _ rfl rfl rfl HD.out (drop_cells_if (DW.out.own.row.below L7.out) k) O7.out L7.out.size (by rw [HD.out, List.length_append, HT.out]; show k + 1 + (n - k) < 1000; omega) ?_
                 intro v8 w8 o8 gr8
                 have L8 := Lib.hid (L7.out.grown gr8 L7.out.size (fun q e => (O7.out.lt e).1))
                 have O8 := Lib.hid o8
                 clear o8 gr8
                 refine hK.out _ _ (XW.out.below L8.out) (fun hHeld => ?_)
                 clear hK K
                 refine tk 12 (some 5) ?_ ?hy hHeld ?_
                 case hy => (intro w' hS; clear hS; go_simp <;> with_reducible rfl)
                 refine wpAnyH_done (by kernel_rfl) ?_ _
                 obtain ⟨gn, cn, rfl⟩ := ownsRow_succ (k := n) (v := v8) (by have := O8.out; unfold OwnC at this; rw [HLEN.out] at this; exact this)
                 have DN := Lib.hid (drawn_new DW.out L8.out O8.out HLEN.out HS.out)
                 go_wp2
                 go_roundw
                 case rel => exact ⟨j + 1, gn, n + 1, cn, i3, h3, ys.take k ++ [⟨R, C, t, G, V⟩] ++ ys.drop k, by omega, by go_num, rfl, by omega, FIT.out, DN.out⟩
                 case measure => simp [intOf]; omega
             · skip
               go_simp
               have L1 := Lib.hid (L0.out.trans ((one_below W.drew (.cells #[.string R, .string C, .int .i64 t, .bool G, .string V] 41)).mono L0.out.size))

               refine hK.out _ _ (XW.out.below L1.out) (fun hHeld => ?_)
               clear hK K
               refine wpAnyH_ready (rs := [0]) (by kernel_rfl) (by simp) ?_
               refine (AllReadyH.cons rfl (fun K hK => ?_) AllReadyH.nil)
               go_simp
               have L2 := Lib.hid (L1.out.trans ((one_below (W.drew.alloc (.cells #[.string R, .string C, .int .i64 t, .bool G, .string V] 41)) (.cells #[] 41)).mono L1.out.size))
               have O2 := Lib.hid (show OwnC W.heap.size ((W.drew.alloc (.cells #[.string R, .string C, .int .i64 t, .bool G, .string V] 41)).alloc (.cells #[] 41)) (.slice (some ⟨W.heap.size + 1, 0, none⟩) 0 0) [] from by unfold OwnC; have := World.ownsRow_made (base := W.heap.size) (e := 41) (size := 5) (W.drew.alloc (.cells #[.string R, .string C, .int .i64 t, .bool G, .string V] 41)) #[] 0 (by simp) (by unfold maxLen; omega) (by simp); simpa using this)
               refine hK.out _ _ (XW.out.below L2.out) (fun hHeld => ?_)
               clear hK K
               refine wpAnyH_ready (rs := [4]) (by kernel_rfl) (by simp) ?_
               refine (AllReadyH.cons rfl (fun K hK => ?_) AllReadyH.nil)
               rw [if_pos (by rfl)]
               refine op_pushC (v := .slice (some ⟨W.heap.size + 1, 0, none⟩) 0 0) (ys.take k) _ _ rfl rfl rfl HT.out (take_cells (DW.out.own.row.below L2.out) k) O2.out L2.out.size (by rw [HT.out]; show 0 + k < 1000; omega) ?_
               intro v4 w4 o4 gr4
               have L4 := Lib.hid (L2.out.grown gr4 L2.out.size (fun q e => (O2.out.lt e).1))
               have O4 := Lib.hid (show OwnC W.heap.size w4 v4 (ys.take k) from o4)
               have N4 := Lib.hid gr4
               clear o4 gr4
               refine hK.out _ _ (XW.out.below L4.out) (fun hHeld => ?_)
               clear hK K
               have TC := Lib.hid (kept_cells (later_cells (new_cells W.drew ⟨R, C, t, G, V⟩ (b := W.heap.size) rfl) (.cells #[] 41)) N4.out (by simp; omega) (by simp [Value.ownBlock]))
               refine wpAnyH_ready (rs := [7]) (by kernel_rfl) (by simp) ?_
               refine (AllReadyH.cons rfl (fun K hK => ?_) AllReadyH.nil)
               rw [if_pos (by rfl)]
               refine op_pushC (v := v4) [⟨R, C, t, G, V⟩] _ _ rfl rfl rfl rfl TC.out O4.out L4.out.size (by rw [HT.out]; show k + 1 < 1000; omega) ?_
               intro v7 w7 o7 gr7
               have L7 := Lib.hid (L4.out.grown gr7 L4.out.size (fun q e => (O4.out.lt e).1))
               have O7 := Lib.hid o7
               clear o7 gr7
               refine hK.out _ _ (XW.out.below L7.out) (fun hHeld => ?_)
               clear hK K
               refine wpAnyH_ready (rs := [11]) (by kernel_rfl) (by simp) ?_
               refine (AllReadyH.cons rfl (fun K hK => ?_) AllReadyH.nil)
               rw [if_pos (by rfl)]
               refine op_pushC (v := v7) (ys.drop k) _ _ rfl rfl rfl HD.out (drop_cells_if (DW.out.own.row.below L7.out) k) O7.out L7.out.size (by rw [HD.out, List.length_append, HT.out]; show k + 1 + (n - k) < 1000; omega) ?_
               intro v8 w8 o8 gr8
               have L8 := Lib.hid (L7.out.grown gr8 L7.out.size (fun q e => (O7.out.lt e).1))
               have O8 := Lib.hid o8
               clear o8 gr8
               refine hK.out _ _ (XW.out.below L8.out) (fun hHeld => ?_)
               clear hK K
               refine tk 12 (some 5) ?_ ?hy hHeld ?_
               case hy => (intro w' hS; clear hS; go_simp <;> with_reducible rfl)
               refine wpAnyH_done (by kernel_rfl) ?_ _
               obtain ⟨gn, cn, rfl⟩ := ownsRow_succ (k := n) (v := v8) (by have := O8.out; unfold OwnC at this; rw [HLEN.out] at this; exact this)
               have DN := Lib.hid (drawn_new DW.out L8.out O8.out HLEN.out HS.out)
               go_wp2
               go_roundw
               case rel => exact ⟨j + 1, gn, n + 1, cn, i3, h3, ys.take k ++ [⟨R, C, t, G, V⟩] ++ ys.drop k, by omega, by go_num, rfl, by omega, FIT.out, DN.out⟩
               case measure => simp [intOf]; omega
         · go_wp2
           go_roundw
           case rel => exact ⟨k + 1, by omega, by go_num, D2.out, X2.out, Lib.hid (take_ahead INN.out HY.out HB.out)⟩
           case measure => simp [intOf]; omega
       · obtain rfl : k = n := by omega
         have hnl : ¬ ((k : Int) < (k : Int)) := by omega
         go_wp2_with fail
         refine wp_region_held_drew (S := fun w' => One5 A (.string R) (.string C) (.int .i64 t) (.bool G) (.string V) w') (by kernel_rfl) XX.out (fun hHeld => ?_)
         refine tk 0 (some 22) ?_ ?hy hHeld ?_
         case hy => (intro w' hS; clear hS; go_simp <;> with_reducible rfl)
         simp only [Act.put, sA, sB, sC]
         refine tk 1 (some 23) ?_ ?hy hHeld ?_
         case hy => (intro w' hS; clear hS; go_simp <;> with_reducible rfl)
         simp only [Act.put, sA, sB, sC]
         refine tk 2 (some 24) ?_ ?hy hHeld ?_
         case hy => (intro w' hS; clear hS; go_simp <;> with_reducible rfl)
         simp only [Act.put, sA, sB, sC]
         refine tk 3 (some 25) ?_ ?hy hHeld ?_
         case hy => (intro w' hS; clear hS; go_simp <;> with_reducible rfl)
         simp only [Act.put, sA, sB, sC]
         refine tk 4 (some 26) ?_ ?hy hHeld ?_
         case hy => (intro w' hS; clear hS; go_simp <;> with_reducible rfl)
         simp only [Act.put, sA, sB, sC]
         refine sk 5 (some 27) hHeld ?_
         simp only [Act.put, sA, sB, sC]
         refine sk 6 (some 28) hHeld ?_
         simp only [Act.put, sA, sB, sC]
         refine sk 7 (some 29) hHeld ?_
         simp only [Act.put, sA, sB, sC]
         refine sk 8 (some 30) hHeld ?_
         simp only [Act.put, sA, sB, sC]
         refine sk 9 (some 31) hHeld ?_
         simp only [Act.put, sA, sB, sC]
         refine sk 10 (some 32) hHeld ?_
         simp only [Act.put, sA, sB, sC]
         refine tk 11 (some 33) ?_ ?hy hHeld ?_
         case hy => (intro w' hS; clear hS; go_simp <;> with_reducible rfl)
         simp only [Act.put, sA, sB, sC]
         refine wpAnyH_done (by kernel_rfl) ?_ _
         go_wp2_with fail
         refine wp_region_held_drew (S := fun w' => One5 A (.string R) (.string C) (.int .i64 t) (.bool G) (.string V) w') (by kernel_rfl) XX.out (fun hHeld => ?_)
         refine tk 0 (some 36) ?_ ?hy hHeld ?_
         case hy => (intro w' hS; clear hS; go_simp <;> with_reducible rfl)
         simp only [Act.put, sA, sB, sC]
         refine tk 1 (some 37) ?_ ?hy hHeld ?_
         case hy => (intro w' hS; clear hS; go_simp <;> with_reducible rfl)
         simp only [Act.put, sA, sB, sC]
         refine tk 2 (some 38) ?_ ?hy hHeld ?_
         case hy => (intro w' hS; clear hS; go_simp <;> with_reducible rfl)
         simp only [Act.put, sA, sB, sC]
         refine tk 3 (some 39) ?_ ?hy hHeld ?_
         case hy => (intro w' hS; clear hS; go_simp <;> with_reducible rfl)
         simp only [Act.put, sA, sB, sC]
         refine tk 4 (some 40) ?_ ?hy hHeld ?_
         case hy => (intro w' hS; clear hS; go_simp <;> with_reducible rfl)
         simp only [Act.put, sA, sB, sC]
         refine sk 5 (some 41) hHeld ?_
         simp only [Act.put, sA, sB, sC]
         refine sk 6 (some 42) hHeld ?_
         simp only [Act.put, sA, sB, sC]
         refine sk 7 (some 43) hHeld ?_
         simp only [Act.put, sA, sB, sC]
         refine sk 8 (some 44) hHeld ?_
         simp only [Act.put, sA, sB, sC]
         refine sk 9 (some 45) hHeld ?_
         simp only [Act.put, sA, sB, sC]
         refine sk 10 (some 46) hHeld ?_
         simp only [Act.put, sA, sB, sC]
         refine sk 11 (some 47) hHeld ?_
         simp only [Act.put, sA, sB, sC]
         refine tk 12 (some 48) ?_ ?hy hHeld ?_
         case hy => (intro w' hS; clear hS; go_simp <;> with_reducible rfl)
         simp only [Act.put, sA, sB, sC]
         refine wpAnyH_done (by kernel_rfl) ?_ _
         go_wp2_with fail
         have DW := Lib.hid (show Drawing w wr.drew.drew T p a len cap zs i3 h3 g k c ys from (DD.out.drewN 1).drewN 1)
         have XW := Lib.hid (show One5 A (.string R) (.string C) (.int .i64 t) (.bool G) (.string V) wr.drew.drew from XX.out)
         obtain ⟨W, hW⟩ : ∃ W, wr.drew.drew = W := ⟨_, rfl⟩
         rw [hW] at DW XW ⊢
         clear hW
         have FIT := Lib.hid (insert_ok OKS.out HOK.out (by rw [DW.out.len]; omega) INN.out (fun y hy => by have := (List.getElem?_eq_some_iff.1 hy).1; rw [DW.out.len] at this; omega))
         have HT := Lib.hid (show (ys.take k).length = k by have := DW.out.len; rw [List.length_take]; omega)
         have HD := Lib.hid (show (ys.drop k).length = 0 by have := DW.out.len; rw [List.length_drop]; omega)
         have HLEN := Lib.hid (show (ys.take k ++ [(⟨R, C, t, G, V⟩ : Cel)] ++ ys.drop k).length = k + 1 by rw [List.length_append, List.length_append, HT.out, HD.out]; show k + 1 + 0 = k + 1; omega)
         refine wp_region_held_drew (S := fun w' => One5 A (.string R) (.string C) (.int .i64 t) (.bool G) (.string V) w') (by kernel_rfl) XW.out (fun hHeld => ?_)
         refine tk 1 (some 50) ?_ ?hy hHeld ?_
         case hy => (intro w' hS; clear hS; go_simp <;> with_reducible rfl)
         simp only [Act.put, sA, sB, sC]
         refine tk 2 (some 51) ?_ ?hy hHeld ?_
         case hy => (intro w' hS; clear hS; go_simp <;> with_reducible rfl)
         simp only [Act.put, sA, sB, sC]
         refine tk 3 (some 52) ?_ ?hy hHeld ?_
         case hy => (intro w' hS; clear hS; go_simp <;> with_reducible rfl)
         simp only [Act.put, sA, sB, sC]
         refine tk 5 (some 54) ?_ ?hy hHeld ?_
         case hy => (intro w' hS; unfold One5 at hS; obtain ⟨s0, s1, s2, s3, s4⟩ := hS; go_simp <;> with_reducible rfl)
         simp only [Act.put, sA, sB, sC]
         refine tk 8 (some 57) ?_ ?hy hHeld ?_
         case hy => (intro w' hS; clear hS; go_simp <;> with_reducible rfl)
         simp only [Act.put, sA, sB, sC]
         refine tk 9 (some 58) ?_ ?hy hHeld ?_
         case hy => (intro w' hS; clear hS; go_simp <;> with_reducible rfl)
         simp only [Act.put, sA, sB, sC]
         refine tk 10 (some 59) (.slice (some (if c = k then (⟨g, 0, none⟩ : Addr) else ⟨g, k * 5, none⟩)) 0 (c - k)) ?hy hHeld ?_
         case hy => 
           intro w' hS
           clear hS
           by_cases hck : c = k
           · subst hck
             go_simp <;> rfl
           · rw [if_neg hck]
             go_simp <;> rfl
         simp only [Act.put, sA, sB, sC]
         have L0 := Lib.hid (below_draws (B := W.heap.size) (w := W) 1)
         refine wpAnyH_ready (rs := [0, 6]) (by kernel_rfl) (by simp) ?_
         refine (AllReadyH.cons rfl (fun K hK => ?_) (AllReadyH.cons rfl (fun K hK => ?_) AllReadyH.nil))
         · skip
           go_simp
           have L1 := Lib.hid (L0.out.trans ((one_below W.drew (.cells #[] 41)).mono L0.out.size))
           have O1 := Lib.hid (show OwnC W.heap.size (W.drew.alloc (.cells #[] 41)) (.slice (some ⟨W.heap.size, 0, none⟩) 0 0) [] from World.ownsRow_made W.drew #[] 0 (Nat.le_refl _) (by unfold maxLen; omega) (by simp))
           refine hK.out _ _ (XW.out.below L1.out) (fun hHeld => ?_)
           clear hK K
           refine wpAnyH_ready (rs := [4, 6]) (by kernel_rfl) (by simp) ?_
           refine (AllReadyH.cons rfl (fun K hK => ?_) (AllReadyH.cons rfl (fun K hK => ?_) AllReadyH.nil))
           · skip
             rw [if_pos (by rfl)]
             refine op_pushC (v := .slice (some ⟨W.heap.size, 0, none⟩) 0 0) (ys.take k) _ _ rfl rfl rfl HT.out (take_cells (DW.out.own.row.below L1.out) k) O1.out L1.out.size (by rw [HT.out]; show 0 + k < 1000; omega) ?_
             intro v4 w4 o4 gr4
             have L4 := Lib.hid (L1.out.grown gr4 L1.out.size (fun q e => (O1.out.lt e).1))
             have O4 := Lib.hid (show OwnC W.heap.size w4 v4 (ys.take k) from o4)
             have N4 := Lib.hid gr4
             clear o4 gr4
             refine hK.out _ _ (XW.out.below L4.out) (fun hHeld => ?_)
             clear hK K
             refine wpAnyH_ready (rs := [6]) (by kernel_rfl) (by simp) ?_
             refine (AllReadyH.cons rfl (fun K hK => ?_) AllReadyH.nil)
             go_simp
             have L5 := Lib.hid (L4.out.trans ((one_below w4 (.cells #[.string R, .string C, .int .i64 t, .bool G, .string V] 41)).mono L4.out.size))
             have O5 := Lib.hid (O4.out.new (.cells #[.string R, .string C, .int .i64 t, .bool G, .string V] 41))
             have TC := Lib.hid (new_cells w4 ⟨R, C, t, G, V⟩ rfl)
             refine hK.out _ _ (XW.out.below L5.out) (fun hHeld => ?_)
             clear hK K
             refine wpAnyH_ready (rs := [7]) (by kernel_rfl) (by simp) ?_
             refine (AllReadyH.cons rfl (fun K hK => ?_) AllReadyH.nil)
             rw [if_pos (by rfl)]
             refine op_pushC (v := v4) [⟨R, C, t, G, V⟩] _ _ rfl rfl rfl rfl TC.out O5.out L5.out.size (by rw [HT.out]; show k + 1 < 1000; omega) ?_
             intro v7 w7 o7 gr7
             have L7 := Lib.hid (L5.out.grown gr7 L5.out.size (fun q e => (O5.out.lt e).1))
             have O7 := Lib.hid o7
             clear o7 gr7
             refine hK.out _ _ (XW.out.below L7.out) (fun hHeld => ?_)
             clear hK K
             refine wpAnyH_ready (rs := [11]) (by kernel_rfl) (by simp) ?_
             refine (AllReadyH.cons rfl (fun K hK => ?_) AllReadyH.nil)
             rw [if_pos (by rfl)]
             refine op_pushC (v := v7) (ys.drop k) _ _ rfl rfl rfl HD.out (drop_cells_if (DW.out.own.row.below L7.out) k) O7.out L7.out.size (by rw [HD.out, List.length_append, HT.out]; show k + 1 + 0 < 1000; omega) ?_
             intro v8 w8 o8 gr8
             have L8 := Lib.hid (L7.out.grown gr8 L7.out.size (fun q e => (O7.out.lt e).1))
             have O8 := Lib.hid o8
             clear o8 gr8
             refine hK.out _ _ (XW.out.below L8.out) (fun hHeld => ?_)
             clear hK K
             refine tk 12 (some 5) ?_ ?hy hHeld ?_
             case hy => (intro w' hS; clear hS; go_simp <;> with_reducible rfl)
             refine wpAnyH_done (by kernel_rfl) ?_ _
             obtain ⟨gn, cn, rfl⟩ := ownsRow_succ (k := k) (v := v8) (by have := O8.out; unfold OwnC at this; rw [HLEN.out] at this; exact this)
             have DN := Lib.hid (drawn_new DW.out L8.out O8.out HLEN.out HS.out)
             go_wp2
             go_roundw
             case rel => exact ⟨j + 1, gn, k + 1, cn, i3, h3, ys.take k ++ [⟨R, C, t, G, V⟩] ++ ys.drop k, by omega, by go_num, rfl, by omega, FIT.out, DN.out⟩
             case measure => simp [intOf]; omega
           · skip
             go_simp
             have L2 := Lib.hid (L1.out.trans ((one_below (W.drew.alloc (.cells #[] 41)) (.cells #[.string R, .string C, .int .i64 t, .bool G, .string V] 41)).mono L1.out.size))
             have O2 := Lib.hid (O1.out.new (.cells #[.string R, .string C, .int .i64 t, .bool G, .string V] 41))
             refine hK.out _ _ (XW.out.below L2.out) (fun hHeld => ?_)
             clear hK K
             refine wpAnyH_ready (rs := [4]) (by kernel_rfl) (by simp) ?_
             refine (AllReadyH.cons rfl (fun K hK => ?_) AllReadyH.nil)
             rw [if_pos (by rfl)]
             refine op_pushC (v := .slice (some ⟨W.heap.size, 0, none⟩) 0 0) (ys.take k) _ _ rfl rfl rfl HT.out (take_cells (DW.out.own.row.below L2.out) k) O2.out L2.out.size (by rw [HT.out]; show 0 + k < 1000; omega) ?_
             intro v4 w4 o4 gr4
             have L4 := Lib.hid (L2.out.grown gr4 L2.out.size (fun q e => (O2.out.lt e).1))
             have O4 := Lib.hid (show OwnC W.heap.size w4 v4 (ys.take k) from o4)
             have N4 := Lib.hid gr4
             clear o4 gr4
             refine hK.out _ _ (XW.out.below L4.out) (fun hHeld => ?_)
             clear hK K
             have TC := Lib.hid (kept_cells (new_cells (W.drew.alloc (.cells #[] 41)) ⟨R, C, t, G, V⟩ (b := W.heap.size + 1) (by simp)) N4.out (by simp) (by simp [Value.ownBlock]))
             refine wpAnyH_ready (rs := [7]) (by kernel_rfl) (by simp) ?_
             refine (AllReadyH.cons rfl (fun K hK => ?_) AllReadyH.nil)
             rw [if_pos (by rfl)]
             refine op_pushC (v := v4) [⟨R, C, t, G, V⟩] _ _ rfl rfl rfl rfl TC.out O4.out L4.out.size (by rw [HT.out]; show k + 1 < 1000; omega) ?_
             intro v7 w7 o7 gr7
             have L7 := Lib.hid (L4.out.grown gr7 L4.out.size (fun q e => (O4.out.lt e).1))
             have O7 := Lib.hid o7
             clear o7 gr7
             refine hK.out _ _ (XW.out.below L7.out) (fun hHeld => ?_)
             clear hK K
             refine wpAnyH_ready (rs := [11]) (by kernel_rfl) (by simp) ?_
             refine (AllReadyH.cons rfl (fun K hK => ?_) AllReadyH.nil)
             rw [if_pos (by rfl)]
             refine op_pushC (v := v7) (ys.drop k) _ _ rfl rfl rfl HD.out (drop_cells_if (DW.out.own.row.below L7.out) k) O7.out L7.out.size (by rw [HD.out, List.length_append, HT.out]; show k + 1 + 0 < 1000; omega) ?_
             intro v8 w8 o8 gr8
             have L8 := Lib.hid (L7.out.grown gr8 L7.out.size (fun q e => (O7.out.lt e).1))
             have O8 := Lib.hid o8
             clear o8 gr8
             refine hK.out _ _ (XW.out.below L8.out) (fun hHeld => ?_)
             clear hK K
             refine tk 12 (some 5) ?_ ?hy hHeld ?_
             case hy => (intro w' hS; clear hS; go_simp <;> with_reducible rfl)
             refine wpAnyH_done (by kernel_rfl) ?_ _
             obtain ⟨gn, cn, rfl⟩ := ownsRow_succ (k := k) (v := v8) (by have := O8.out; unfold OwnC at this; rw [HLEN.out] at this; exact this)
             have DN := Lib.hid (drawn_new DW.out L8.out O8.out HLEN.out HS.out)
             go_wp2
             go_roundw
             case rel => exact ⟨j + 1, gn, k + 1, cn, i3, h3, ys.take k ++ [⟨R, C, t, G, V⟩] ++ ys.drop k, by omega, by go_num, rfl, by omega, FIT.out, DN.out⟩
             case measure => simp [intOf]; omega
         · skip
           go_simp
           have L1 := Lib.hid (L0.out.trans ((one_below W.drew (.cells #[.string R, .string C, .int .i64 t, .bool G, .string V] 41)).mono L0.out.size))

           refine hK.out _ _ (XW.out.below L1.out) (fun hHeld => ?_)
           clear hK K
           refine wpAnyH_ready (rs := [0]) (by kernel_rfl) (by simp) ?_
           refine (AllReadyH.cons rfl (fun K hK => ?_) AllReadyH.nil)
           go_simp
           have L2 := Lib.hid (L1.out.trans ((one_below (W.drew.alloc (.cells #[.string R, .string C, .int .i64 t, .bool G, .string V] 41)) (.cells #[] 41)).mono L1.out.size))
           have O2 := Lib.hid (show OwnC W.heap.size ((W.drew.alloc (.cells #[.string R, .string C, .int .i64 t, .bool G, .string V] 41)).alloc (.cells #[] 41)) (.slice (some ⟨W.heap.size + 1, 0, none⟩) 0 0) [] from by unfold OwnC; have := World.ownsRow_made (base := W.heap.size) (e := 41) (size := 5) (W.drew.alloc (.cells #[.string R, .string C, .int .i64 t, .bool G, .string V] 41)) #[] 0 (by simp) (by unfold maxLen; omega) (by simp); simpa using this)
           refine hK.out _ _ (XW.out.below L2.out) (fun hHeld => ?_)
           clear hK K
           refine wpAnyH_ready (rs := [4]) (by kernel_rfl) (by simp) ?_
           refine (AllReadyH.cons rfl (fun K hK => ?_) AllReadyH.nil)
           rw [if_pos (by rfl)]
           refine op_pushC (v := .slice (some ⟨W.heap.size + 1, 0, none⟩) 0 0) (ys.take k) _ _ rfl rfl rfl HT.out (take_cells (DW.out.own.row.below L2.out) k) O2.out L2.out.size (by rw [HT.out]; show 0 + k < 1000; omega) ?_
           intro v4 w4 o4 gr4
           have L4 := Lib.hid (L2.out.grown gr4 L2.out.size (fun q e => (O2.out.lt e).1))
           have O4 := Lib.hid (show OwnC W.heap.size w4 v4 (ys.take k) from o4)
           have N4 := Lib.hid gr4
           clear o4 gr4
           refine hK.out _ _ (XW.out.below L4.out) (fun hHeld => ?_)
           clear hK K
           have TC := Lib.hid (kept_cells (later_cells (new_cells W.drew ⟨R, C, t, G, V⟩ (b := W.heap.size) rfl) (.cells #[] 41)) N4.out (by simp; omega) (by simp [Value.ownBlock]))
           refine wpAnyH_ready (rs := [7]) (by kernel_rfl) (by simp) ?_
           refine (AllReadyH.cons rfl (fun K hK => ?_) AllReadyH.nil)
           rw [if_pos (by rfl)]
           refine op_pushC (v := v4) [⟨R, C, t, G, V⟩] _ _ rfl rfl rfl rfl TC.out O4.out L4.out.size (by rw [HT.out]; show k + 1 < 1000; omega) ?_
           intro v7 w7 o7 gr7
           have L7 := Lib.hid (L4.out.grown gr7 L4.out.size (fun q e => (O4.out.lt e).1))
           have O7 := Lib.hid o7
           clear o7 gr7
           refine hK.out _ _ (XW.out.below L7.out) (fun hHeld => ?_)
           clear hK K
           refine wpAnyH_ready (rs := [11]) (by kernel_rfl) (by simp) ?_
           refine (AllReadyH.cons rfl (fun K hK => ?_) AllReadyH.nil)
           rw [if_pos (by rfl)]
           refine op_pushC (v := v7) (ys.drop k) _ _ rfl rfl rfl HD.out (drop_cells_if (DW.out.own.row.below L7.out) k) O7.out L7.out.size (by rw [HD.out, List.length_append, HT.out]; show k + 1 + 0 < 1000; omega) ?_
           intro v8 w8 o8 gr8
           have L8 := Lib.hid (L7.out.grown gr8 L7.out.size (fun q e => (O7.out.lt e).1))
           have O8 := Lib.hid o8
           clear o8 gr8
           refine hK.out _ _ (XW.out.below L8.out) (fun hHeld => ?_)
           clear hK K
           refine tk 12 (some 5) ?_ ?hy hHeld ?_
           case hy => (intro w' hS; clear hS; go_simp <;> with_reducible rfl)
           refine wpAnyH_done (by kernel_rfl) ?_ _
           obtain ⟨gn, cn, rfl⟩ := ownsRow_succ (k := k) (v := v8) (by have := O8.out; unfold OwnC at this; rw [HLEN.out] at this; exact this)
           have DN := Lib.hid (drawn_new DW.out L8.out O8.out HLEN.out HS.out)
           go_wp2
           go_roundw
           case rel => exact ⟨j + 1, gn, k + 1, cn, i3, h3, ys.take k ++ [⟨R, C, t, G, V⟩] ++ ys.drop k, by omega, by go_num, rfl, by omega, FIT.out, DN.out⟩
           case measure => simp [intOf]; omega
   · go_wp2
     go_ret
     exact ⟨g, n, c, ih, hh, ys, rfl, by omega, OKS.out, DJ.out⟩
theorem l04Cells_at (most : Nat) (hmost : most ≤ 12) (T p : Nat) (a : Option Addr) (len cap : Nat) (zs : List Int) (i : Nat) (h : Int) (w : World) (cu : CurAt w T p a len cap zs i h) :
   Calls Tryz.prog 86 #[.pointer (some ⟨p, 0, none⟩), .int .i64 most] w (SomeCels most T p a len cap zs w) :=
 (l04Cells_ok most hmost T p a len cap zs i h w cu).mono fun _ _ ⟨g, n, c, i, h, ys, e, hn, _, d⟩ => ⟨g, n, c, i, h, ys, e, hn, d⟩
end Go.Proofs.YtkomnnijnggbpaaGreatDoor
