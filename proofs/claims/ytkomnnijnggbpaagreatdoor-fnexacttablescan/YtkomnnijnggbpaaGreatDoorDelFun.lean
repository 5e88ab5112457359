/- The library's IndexFunc and DeleteFunc over cells, asked with the program's predicate; the program's TableScan. -/
import Derived.Test.YtkomnnijnggbpaaGreatDoorDelI
namespace Go.Proofs.YtkomnnijnggbpaaGreatDoor
open Go.RowKit
set_option linter.unusedVariables false

def TwoBox (w : World) (bl bh : Nat) (lo hi : ByteArray) : Prop := w.heap[bl]? = some (.cells #[.string lo] 9 (0, 0)) ∧ w.heap[bh]? = some (.cells #[.string hi] 9 (0, 0))
theorem TwoBox.under {w w' : World} {B bl bh : Nat} {lo hi : ByteArray} (h : TwoBox w bl bh lo hi) (hb : Below B w w') (h1 : bl < B) (h2 : bh < B) : TwoBox w' bl bh lo hi := ⟨(hb.block bl h1).trans h.1, (hb.block bh h2).trans h.2⟩
theorem scan_pred (x : Cel) (bl bh : Nat) (lo hi : ByteArray) (w : World) (h : TwoBox w bl bh lo hi) :
   Calls Tryz.prog 79 #[celVal x, .pointer (some ⟨bl, 0, none⟩), .pointer (some ⟨bh, 0, none⟩)] w fun e w' => e = .returned (.bool (!between lo.data.toList hi.data.toList x)) ∧ Below w.heap.size w w' := by
 obtain ⟨R, C, t, G, V⟩ := x
 have B0 := Lib.hid (one_below w (.cells #[.string R, .string C, .int .i64 t, .bool G, .string V] 41))
 have L0 := (alloc_old w (.cells #[.string R, .string C, .int .i64 t, .bool G, .string V] 41) (Array.getElem?_eq_some_iff.1 h.1).1).trans h.1
 have H0 := (alloc_old w (.cells #[.string R, .string C, .int .i64 t, .bool G, .string V] 41) (Array.getElem?_eq_some_iff.1 h.2).1).trans h.2
 have X0 := Lib.hid (alloc_at w (.cells #[.string R, .string C, .int .i64 t, .bool G, .string V] 41))
 obtain ⟨c1, _⟩ := blk1 L0
 obtain ⟨c2, _⟩ := blk1 H0
 have HH := Lib.hid (And.intro L0 H0)
 obtain ⟨b1, hb1⟩ : ∃ b, ahead R.data.toList lo.data.toList = b := ⟨_, rfl⟩
 obtain ⟨b2, hb2⟩ : ∃ b, ahead R.data.toList hi.data.toList = b := ⟨_, rfl⟩
 have HB1 := Lib.hid hb1
 have HB2 := Lib.hid hb2
 have HBT := Lib.hid (show between lo.data.toList hi.data.toList ⟨R, C, t, G, V⟩ = (!b1 && b2) by unfold between; rw [hb1, hb2])
 unfold celVal
 clear hb1 hb2 h L0 H0
 cases b1
 · go_enter Tryz.func79, Tryz.ntmps79
   go_wp2_with fail
   refine (implBefore R lo _).mono ?_
   rw [HB1.out]
   rintro e w1 ⟨rfl, n1, rfl⟩
   have B1 := Lib.hid (B0.out.trans (below_draws n1))
   obtain ⟨c1', _⟩ := blk1 HH.out.1
   obtain ⟨c2', _⟩ := blk1 HH.out.2
   obtain ⟨w1, hw1⟩ : ∃ W, (w.alloc (.cells #[.string R, .string C, .int .i64 t, .bool G, .string V] 41)).drewN n1 = W := ⟨_, rfl⟩
   have k2 : w1.cell? ⟨bh, 0, none⟩ = some (.string hi) := by rw [← hw1]; exact c2'
   have k0 : w1.cell? ⟨w.heap.size, 0, none⟩ = some (.string R) := by
     have k5 := (blk5 X0.out).1
     unfold One5 at k5
     rw [← hw1]; exact k5.1
   rw [hw1] at B1 ⊢
   clear hw1 c1 c2 c1' c2'
   go_wp2_with fail
   refine (implBefore R hi _).mono ?_
   rw [HB2.out]
   rintro e w2 ⟨rfl, n2, rfl⟩
   have B2 := Lib.hid (B1.out.trans (below_draws n2))
   go_wp2
   go_ret
   exact ⟨by rw [HBT.out]; cases b2 <;> rfl, B2.out⟩
 · go_enter Tryz.func79, Tryz.ntmps79
   go_wp2_with fail
   refine (implBefore R lo _).mono ?_
   rw [HB1.out]
   rintro e w1 ⟨rfl, n1, rfl⟩
   have B1 := Lib.hid (B0.out.trans (below_draws n1))
   go_wp2
   go_ret
   exact ⟨by rw [HBT.out]; rfl, B1.out⟩

def IdxOut (w : World) (xs : List Cel) (keep : Cel → Bool) (e : Ending) (w' : World) : Prop :=
 Below w.heap.size w w' ∧ (((∀ (j : Nat) (y : Cel), xs[j]? = some y → keep y = true) ∧ e = .returned (.int .i64 (-1))) ∨ ∃ k y, xs[k]? = some y ∧ keep y = false ∧ (∀ (j : Nat) (z : Cel), j < k → xs[j]? = some z → keep z = true) ∧ e = .returned (.int .i64 ((k : Nat) : Int)))
set_option maxHeartbeats 2000000 in
set_option maxRecDepth 100000 in
theorem index_at (a : Option Addr) (n c : Nat) (xs : List Cel) (bl bh : Nat) (lo hi : ByteArray) (w : World) (hn : n ≤ 1000) (h : CelRow w a n c xs) (hb : TwoBox w bl bh lo hi) :
   Calls Tryz.prog 120 #[.slice a n c, .func (.func 79) #[] #[.pointer (some ⟨bl, 0, none⟩), .pointer (some ⟨bh, 0, none⟩)]] w (IdxOut w xs (between lo.data.toList hi.data.toList)) := by
 have HR := Lib.hid h
 have HB := Lib.hid hb
 have h1 : bl < w.heap.size := (Array.getElem?_eq_some_iff.1 hb.1).1
 have h2 : bh < w.heap.size := (Array.getElem?_eq_some_iff.1 hb.2).1
 clear h hb
 go_enter Tryz.func120, Tryz.ntmps120
 go_wp2_with fail
 go_loopw [8] (fun ii wr => ∃ i : Nat, i ≤ n ∧ ii = .int .i64 i ∧ Hid (Below w.heap.size w wr) ∧ Hid (∀ (j : Nat) (z : Cel), j < i → xs[j]? = some z → between lo.data.toList hi.data.toList z = true)) (fun ii _ => n - (intOf ii).toNat)
 case atStart => exact ⟨0, Nat.zero_le _, rfl, Below.refl _ _, fun j z hj => absurd hj (by omega)⟩
 case round =>
   obtain ⟨i, hin, rfl, HX, HK⟩ := hrel
   by_cases hlt : i < n
   · obtain ⟨y, hy⟩ : ∃ y, xs[i]? = some y := ⟨_, List.getElem?_eq_getElem (by rw [HR.out.1]; exact hlt)⟩
     obtain ⟨g, hag, k5⟩ := HR.out.2.2 i _ hy
     subst hag
     have K5 := k5.below HX.out
     unfold Cel5 at K5
     obtain ⟨c0, c1, c2, c3, c4⟩ := K5
     obtain ⟨b, hbv⟩ : ∃ b, between lo.data.toList hi.data.toList y = b := ⟨_, rfl⟩
     have HBV := Lib.hid hbv
     have HY := Lib.hid hy
     have hp := scan_pred y bl bh lo hi wr (HB.out.under HX.out h1 h2)
     rw [hbv] at hp
     have HP := Lib.hid hp
     have i1 : (i : Int) < (n : Int) := by omega
     have i0 : (0 : Int) ≤ (i : Int) := by omega
     clear hbv hy hp k5
     go_wp2_with fail
     refine HP.out.mono ?_
     rintro e w1 ⟨rfl, b1⟩
     have B1 := Lib.hid (HX.out.trans (b1.mono HX.out.size))
     clear b1 c0 c1 c2 c3 c4
     cases b
     · go_wp2
       go_ret
       exact ⟨B1.out, .inr ⟨i, y, HY.out, HBV.out, HK.out, rfl⟩⟩
     · go_wp2
       go_roundw
       case rel =>
         refine ⟨i + 1, by omega, by go_num, B1.out, fun j z hj hz => ?_⟩
         by_cases hji : j < i
         · exact HK.out j z hji hz
         · obtain rfl : j = i := by omega
           have hzz := HY.out
           rw [hz] at hzz
           cases hzz
           exact HBV.out
       case measure => simp [intOf]; omega
   · obtain rfl : i = n := by omega
     go_wp2
     go_ret
     exact ⟨HX.out, .inl ⟨fun j y hj => HK.out j y (by have := (List.getElem?_eq_some_iff.1 hj).1; rw [HR.out.1] at this; exact this) hj, rfl⟩⟩
theorem zero_len (cs : Array Value) (n : Nat) (h : cs.size = 5) : (Builtin.zeroCells cs n).toList.length = n * 5 := by
 simp [Builtin.zeroCells, h]
theorem zero_one (cs : Array Value) (n : Nat) (h : cs.size = 5) (h1 : ∀ (i : Nat) (hi : i < cs.size), cs[i].oneCell' = true) : ∀ v ∈ (Builtin.zeroCells cs n).toList, v.oneCell' = true := by
 intro v hv
 obtain ⟨i, hi, rfl⟩ := List.getElem_of_mem hv
 simp [Builtin.zeroCells] at hi ⊢
 have h5 : i % cs.size < cs.size := Nat.mod_lt _ (by omega)
 have := h1 (i % cs.size) h5
 simpa [h5] using this
theorem clear_row (W : World) (g o m c : Nat) (hm : 0 < m) (hc : ∀ j, j < m * 5 → (W.cell? ⟨g, o + j, none⟩).isSome = true) (hf : ∀ j, j < m * 5 → W.frozen? ⟨g, o + j, none⟩ = false) :
   ∃ zs : List Value, ∀ ty, (Builtin.clear_ #[24] ty #[.slice (some ⟨g, o, none⟩) m c]).run Tryz.prog W = .ok (.tuple #[]) (W.setCells g o zs) := by
 obtain ⟨cs, hcs⟩ : ∃ cs, (Value.agg #[.string ⟨#[]⟩, .string ⟨#[]⟩, .int .i64 0, .bool false, .string ⟨#[]⟩]).cells = cs := ⟨_, rfl⟩
 have h5 : cs.size = 5 := by rw [← hcs]; rfl
 have h1 : ∀ (i : Nat) (hi : i < cs.size), cs[i].oneCell' = true := by subst hcs; decide +kernel
 have hz : ∀ w, (zeroValue 41).run Tryz.prog w = .ok (.agg #[.string ⟨#[]⟩, .string ⟨#[]⟩, .int .i64 0, .bool false, .string ⟨#[]⟩]) w := fun w => by kernel_rfl
 have hst := run_storeCells_cells (P := Tryz.prog) g o (Builtin.zeroCells cs m).toList 0 W (by rw [zero_len cs m h5]; simpa using hc) (by rw [zero_len cs m h5]; simpa using hf) (zero_one cs m h5 h1)
 simp only [Nat.add_zero] at hst
 refine ⟨(Builtin.zeroCells cs m).toList, fun ty => ?_⟩
 obtain ⟨k, rfl⟩ : ∃ k, m = k + 1 := ⟨m - 1, by omega⟩
 have hu := run_underlying (P := Tryz.prog) (w := W) Tryz.underlying24
 simp [Builtin.clear_, hu, hz, hcs, hst]

theorem cut_head (W : World) (g m c i : Nat) (h : i ≤ c) :
   (Instr.sliceAt 24 (.slice (some ⟨g, 0, none⟩) m c) none (some (.int .i64 i)) none).run Tryz.prog W = .ok (.slice (some ⟨g, 0, none⟩) i c) W := by
 have hu : Tryz.prog.underlying 24 = some (.slice (Tryz.prog.elem 24)) := by kernel_rfl
 have hsz : (sizeOf (Tryz.prog.elem 24)).run Tryz.prog W = .ok 5 W := by kernel_rfl
 have e1 := run_sliceAt_slice (P := Tryz.prog) (w := W) 24 (.slice (some ⟨g, 0, none⟩) m c) none (some (.int .i64 i)) none hu
 have e2 := run_slice_h (P := Tryz.prog) (w := W) 24 (some ⟨g, 0, none⟩) m c hu .i64 i (by omega) (by omega)
 rw [e1, e2, hsz]
 show Result.ok (sliced _ _ _ _ _) W = _
 unfold sliced
 rw [Int.toNat_natCast]
 have e3 : (⟨g, 0, none⟩ : Addr).add (0 * 5) = ⟨g, 0, none⟩ := by unfold Addr.add; split <;> rfl
 simp only [Option.map_some, e3, Nat.sub_zero, ite_self]
theorem DRow.there {w : World} {B g n cp : Nat} {d : List Cel} (h : DRow w B g n cp d) {m : Nat} (hm : m < cp * 5) : (w.cell? ⟨g, m, none⟩).isSome = true := by
 obtain ⟨cur, h1, h2, _⟩ := h
 have : m < cur.size := by omega
 simp [World.cell?, h1, this]
theorem DRow.cleared {w : World} {B g n cp : Nat} {d : List Cel} (h : DRow w B g n cp d) (i : Nat) (hi : i ≤ n) (zs : List Value) : OwnC B (w.setCells g (i * 5) zs) (.slice (some ⟨g, 0, none⟩) i cp) (d.take i) := by
 obtain ⟨cur, h1, h2, h3, h4, h5, h6, h7⟩ := h
 obtain ⟨cur', k1, k2, k3⟩ := setCells_block g _ _ zs (i * 5) w cur h1
 have hl : (d.take i).length = i := by rw [List.length_take]; omega
 refine ⟨by rw [celCells_len], .inr ⟨g, cp, cur', by rw [hl], h3, k1, by omega, h6, by omega, ?_⟩⟩
 refine cells_flat _ _ (fun k y hk => ?_)
 rw [List.getElem?_take] at hk
 split at hk
 · rename_i hki
   have := h7 k y hk
   unfold Five at this
   obtain ⟨a0, a1, a2, a3, a4⟩ := this
   simp only [Array.getElem?_toList]
   rw [k3 _ (by omega), k3 _ (by omega), k3 _ (by omega), k3 _ (by omega), k3 _ (by omega)]
   exact ⟨a0, a1, a2, a3, a4⟩
 · cases hk

theorem filter_next {keep : Cel → Bool} {xs : List Cel} {j : Nat} {y : Cel} (h : xs[j]? = some y) : (xs.take (j + 1)).filter keep = (xs.take j).filter keep ++ (if keep y = true then [y] else []) := by
 rw [take_next h, List.filter_append]
 congr 1
 by_cases hb : keep y = true
 · rw [List.filter_cons_of_pos hb, if_pos hb]; rfl
 · rw [List.filter_cons_of_neg hb, if_neg hb]; rfl
theorem take_set_next {d : List Cel} {i : Nat} {y : Cel} (h : i < d.length) : (d.set i y).take (i + 1) = d.take i ++ [y] := by
 rw [take_next (x := y) (by rw [List.getElem?_set_self h])]
 congr 1
 rw [List.take_set_of_le (Nat.le_refl _)]
def Kept (w W : World) (B g n cp : Nat) (xs : List Cel) (keep : Cel → Bool) (i j : Nat) : Prop :=
 ∃ d, DRow W B g n cp d ∧ d.take i = (xs.take j).filter keep ∧ d.drop j = xs.drop j ∧ Below B w W
set_option maxHeartbeats 4000000 in
set_option maxRecDepth 100000 in
theorem delete_at (B : Nat) (a : Option Addr) (n c : Nat) (xs : List Cel) (bl bh : Nat) (lo hi : ByteArray) (w : World) (hn : n ≤ 1000) (hl : xs.length = n) (h : OwnC B w (.slice a n c) xs) (hB : B ≤ w.heap.size) (hb : TwoBox w bl bh lo hi) (h1 : bl < B) (h2 : bh < B) :
   Calls Tryz.prog 78 #[.slice a n c, .func (.func 79) #[] #[.pointer (some ⟨bl, 0, none⟩), .pointer (some ⟨bh, 0, none⟩)]] w fun e w' => ∃ v, e = .returned v ∧ OwnC B w' v (xs.filter (between lo.data.toList hi.data.toList)) ∧ Below B w w' := by
 have O0 := Lib.hid h
 have HB := Lib.hid hb
 have HL := Lib.hid hl
 have HR := Lib.hid (show CelRow w a n c xs from h.row)
 clear h hb hl
 go_enter Tryz.func78, Tryz.ntmps78
 go_wp2_with fail
 refine (index_at a n c xs bl bh lo hi _ hn HR.out HB.out).mono ?_
 rintro e w1 ⟨b1, (⟨hall, rfl⟩ | ⟨k, y, hk, hkp, hfirst, rfl⟩)⟩
 · have HF := Lib.hid (show xs.filter (between lo.data.toList hi.data.toList) = xs from List.filter_eq_self.2 (fun x hx => by obtain ⟨j, hj⟩ := List.mem_iff_getElem?.1 hx; exact hall j x hj))
   have O1 := Lib.hid (O0.out.below b1)
   have B1 := Lib.hid (b1.mono hB)
   clear hall b1
   go_wp2
   go_ret
   exact ⟨_, rfl, by rw [HF.out]; exact O1.out, B1.out⟩
 · have hkn : k < n := by have := (List.getElem?_eq_some_iff.1 hk).1; rw [HL.out] at this; exact this
   obtain ⟨g, hag, _⟩ := HR.out.2.2 k _ hk
   subst hag
   have B1 := Lib.hid (b1.mono hB)
   have D1 := Lib.hid ((DRow.of O0.out HL.out).under b1)
   have hne : ¬ (k : Int) = -1 := by omega
   have hgB : B ≤ g := by obtain ⟨_, _, _, h, _⟩ := D1.out; exact h
   have hnc : n ≤ c := by obtain ⟨_, _, _, _, _, h, _⟩ := D1.out; exact h
   have K1 := Lib.hid (show Kept w w1 B g n c xs (between lo.data.toList hi.data.toList) k (k + 1) from by
     refine ⟨xs, D1.out, ?_, rfl, B1.out⟩
     rw [filter_next hk, hkp, if_neg (by decide), List.append_nil, List.filter_eq_self.2 (fun x hx => ?_)]
     obtain ⟨j, hj⟩ := List.mem_iff_getElem?.1 hx
     rw [List.getElem?_take] at hj
     split at hj
     · exact hfirst j x (by assumption) hj
     · cases hj)
   clear hk hkp hfirst b1
   go_wp2_with fail
   go_loopw [5, 6] (fun ii jj wr => ∃ i j : Nat, i < j ∧ j ≤ n ∧ ii = .int .i64 i ∧ jj = .int .i64 j ∧ Hid (Kept w wr B g n c xs (between lo.data.toList hi.data.toList) i j)) (fun _ jj _ => n - (intOf jj).toNat)
   case atStart => exact ⟨k, k + 1, by omega, by omega, rfl, by go_num, K1.out⟩
   case round =>
     obtain ⟨i, j, hij, hjn, rfl, rfl, HK⟩ := hrel
     by_cases hlt : j < n
     · obtain ⟨d, hd, hd1, hd2, hd3⟩ := HK.out
       obtain ⟨y, hy⟩ : ∃ y, xs[j]? = some y := ⟨_, List.getElem?_eq_getElem (by rw [HL.out]; exact hlt)⟩
       have hdl : d.length = n := by obtain ⟨_, _, _, _, h, _⟩ := hd; exact h
       have hdy : d[j]? = some y := by
         have h3 := congrArg (·[0]?) hd2
         simp only [List.getElem?_drop, Nat.add_zero] at h3
         rw [h3, hy]
       have c5 := hd.cel hdy
       unfold Cel5O at c5
       obtain ⟨c0, c1, c2, c3, c4⟩ := c5
       have j1 : (j : Int) < (n : Int) := by omega
       have j0 : (0 : Int) ≤ (j : Int) := by omega
       have i1 : (i : Int) < (n : Int) := by omega
       have i0 : (0 : Int) ≤ (i : Int) := by omega
       have bA := one_below wr (.cells #[.string y.row, .string y.col, .int .i64 y.time, .bool y.gone, .string y.value] 41)
       have X0 := Lib.hid (alloc_at wr (.cells #[.string y.row, .string y.col, .int .i64 y.time, .bool y.gone, .string y.value] 41))
       have BA := Lib.hid (hd3.trans (bA.mono (by have := hd3.size; omega)))
       have DA := Lib.hid (hd.under bA)
       have HD1 := Lib.hid (And.intro hd1 (And.intro hd2 hdl))
       have hp := scan_pred y bl bh lo hi _ (HB.out.under BA.out h1 h2)
       obtain ⟨b, hbv⟩ : ∃ b, between lo.data.toList hi.data.toList y = b := ⟨_, rfl⟩
       have HBV := Lib.hid hbv
       have HY := Lib.hid hy
       rw [hbv] at hp
       have HP := Lib.hid hp
       have x5 := (blk5 X0.out).1
       unfold One5 at x5
       obtain ⟨e0, e1, e2, e3, e4⟩ := x5
       unfold celVal at HP
       clear hd hd1 hd2 hd3 hdl hdy hp hbv hy bA
       go_wp2_with fail
       refine HP.out.mono ?_
       rintro e w2 ⟨rfl, b2⟩
       have BC := Lib.hid (BA.out.trans (b2.mono (by have := BA.out.size; omega)))
       have DC := Lib.hid (DA.out.under b2)
       have XC := Lib.hid ((b2.block wr.heap.size (by simp)).trans X0.out)
       clear b2 c0 c1 c2 c3 c4 e0 e1 e2 e3 e4
       cases b
       · go_wp2
         go_roundw
         case rel =>
           repeat apply Exists.intro
           refine ⟨?_, rfl⟩
           refine ⟨i, j + 1, by omega, by omega, rfl, by go_num, d, DC.out, ?_, ?_, BC.out⟩
           · rw [filter_next HY.out, HBV.out, if_neg (by decide), List.append_nil, HD1.out.1]
           · rw [← List.drop_drop, ← List.drop_drop, HD1.out.2.1]
         case measure => simp [intOf]; omega
       · obtain ⟨z, hz⟩ : ∃ z, d[i]? = some z := ⟨_, List.getElem?_eq_getElem (by rw [HD1.out.2.2]; omega)⟩
         have z5 := DC.out.cel hz
         unfold Cel5O at z5
         obtain ⟨d0, d1, d2, d3, d4⟩ := z5
         have g0 := DC.out.frz (i * 5)
         have g1 := DC.out.frz (i * 5 + 1)
         have g2 := DC.out.frz (i * 5 + 2)
         have g3 := DC.out.frz (i * 5 + 3)
         have g4 := DC.out.frz (i * 5 + 4)
         have x5 := (blk5 XC.out).1
         unfold One5 at x5
         obtain ⟨e0, e1, e2, e3, e4⟩ := x5
         clear hz
         go_wp2
         go_roundw
         case rel =>
           repeat apply Exists.intro
           refine ⟨?_, rfl⟩
           refine ⟨i + 1, j + 1, by omega, by omega, by go_num, by go_num, d.set i y, DC.out.put i (by omega) y, ?_, ?_, below_five BC.out hgB _ _ _ _ _ _ _ _ _ _⟩
           · rw [filter_next HY.out, HBV.out, if_pos rfl, take_set_next (by rw [HD1.out.2.2]; omega), HD1.out.1]
           · rw [List.drop_set_of_lt (by omega), ← List.drop_drop, ← List.drop_drop, HD1.out.2.1]
         case measure => simp [intOf]; omega
     · obtain rfl : j = n := by omega
       obtain ⟨d, hd, hd1, hd2, hd3⟩ := HK.out
       have HFX := Lib.hid (show d.take i = xs.filter (between lo.data.toList hi.data.toList) by rw [hd1, List.take_of_length_le (by rw [HL.out]; omega)])
       have hcr := cut_rest wr g 0 j c i hij hnc
       have hch := cut_head wr g j c i (by omega)
       rw [Nat.zero_add] at hcr
       obtain ⟨zs, hzs⟩ := clear_row wr g (i * 5) (j - i) (c - i) (by omega) (fun m hm => hd.there (by omega)) (fun m _ => hd.frz _)
       have hch2 := cut_head (wr.setCells g (i * 5) zs) g j c i (by omega)
       have DD := Lib.hid hd
       have BD := Lib.hid hd3
       clear hd hd1 hd2 hd3 hch
       go_wp2
       go_ret
       exact ⟨_, rfl, by rw [← HFX.out]; exact DD.out.cleared i (by omega) zs, below_setCells hgB _ _ _ BD.out⟩
set_option maxHeartbeats 2000000 in
set_option maxRecDepth 100000 in
theorem implTableScan (s lo hi : ByteArray) (hs : s.size ≤ 1048576) (xs : List Cel) (c : Conf) (k : Nat) (hT : Tab s.data.toList xs c k) (w : World) (hL : ErrLaid w) :
   Calls Tryz.prog 34 #[.string s, .string lo, .string hi] w fun e w' => ∃ v, e = .returned v ∧ OwnC w.heap.size w' v (xs.filter (between lo.data.toList hi.data.toList)) ∧ Below w.heap.size w w' := by
 have HT := Lib.hid hT
 have T0 := Lib.hid (show TwoBox ((w.alloc (.cells #[.string lo] 9)).alloc (.cells #[.string hi] 9)) w.heap.size (w.heap.size + 1) lo hi from ⟨(alloc_old _ _ (by simp)).trans (alloc_at w _), alloc_at2 w _ _⟩)
 have B0 := Lib.hid (two_below0 w (.cells #[.string lo] 9) (.cells #[.string hi] 9))
 have L0 := Lib.hid (hL.below B0.out hL.lt)
 clear hT hL
 go_enter Tryz.func34, Tryz.ntmps34
 go_wp2_with fail
 obtain ⟨w0, hw0⟩ : ∃ W, (w.alloc (.cells #[.string lo] 9)).alloc (.cells #[.string hi] 9) = W := ⟨_, rfl⟩
 have hsz : w0.heap.size = w.heap.size + 2 := by rw [← hw0]; simp
 rw [hw0] at T0 B0 L0 ⊢
 clear hw0
 refine (implGetTable s hs _ L0.out).mono ?_
 rintro e w1 ⟨v, xs', c', k', rfl, hT', o1, b1⟩
 obtain ⟨rfl, rfl, rfl⟩ := tab_one HT.out hT'
 obtain ⟨ad, cp, hv, _, hlc⟩ := own_parts o1
 subst hv
 obtain ⟨ev, sz, pk⟩ := c
 have hx60 := (tab_few HT.out).1
 have O1 := Lib.hid (o1.new (.cells #[.int .i64 ev, .int .i64 sz, .bool pk] 26))
 have b1' := b1.alloc b1.size (.cells #[.int .i64 ev, .int .i64 sz, .bool pk] 26)
 have B1 := Lib.hid (B0.out.trans (b1'.mono B0.out.size))
 have T1 := Lib.hid (T0.out.under b1' (by omega) (by omega))
 have hbs := b1'.size
 unfold confV
 clear o1 b1 b1' hT'
 go_wp2_with fail
 refine (delete_at w0.heap.size ad xs.length cp xs w.heap.size (w.heap.size + 1) lo hi _ (by omega) rfl O1.out hbs T1.out (by omega) (by omega)).mono ?_
 rintro e w2 ⟨v2, rfl, o2, b2⟩
 have O2 := Lib.hid (own_base (B' := w.heap.size) o2 (by omega))
 have B2 := Lib.hid (B1.out.trans (b2.mono (by omega)))
 clear o2 b2
 go_wp2
 go_ret
 exact ⟨_, rfl, O2.out, B2.out⟩
end Go.Proofs.YtkomnnijnggbpaaGreatDoor
