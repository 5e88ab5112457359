/- The model's draw of a list of cells and of a way for a table. -/
import Derived.Test.YtkomnnijnggbpaaGreatDoorDrawTab
import Derived.Test.YtkomnnijnggbpaaGreatDoorZ11
import Derived.Test.YtkomnnijnggbpaaGreatDoorGetTabS
import Derived.Test.YtkomnnijnggbpaaGreatDoorTabLaws
import Derived.Test.YtkomnnijnggbpaaGreatDoorZ10
import Derived.Test.YtkomnnijnggbpaaGreatDoorSameCels
import Derived.Test.YtkomnnijnggbpaaGreatDoorTabMore
import Derived.Test.YtkomnnijnggbpaaGreatDoorBig
namespace Go.Proofs.YtkomnnijnggbpaaGreatDoor
open Go.RowKit
set_option linter.unusedVariables false

structure Heaped (w W : World) (T p : Nat) (a : Option Addr) (len cap : Nat) (zs : List Int) (i : Nat) (h : Int) (v : Value) (ys : List Cel) : Prop where
 own : OwnC w.heap.size W v ys
 cur : CurAt W T p a len cap zs i h
 grow : w.grownBy W (some p)
section
variable {w W W' : World} {T p : Nat} {a : Option Addr} {len cap : Nat} {zs : List Int} {i i' : Nat} {h h' : Int} {v v' : Value} {ys ys' : List Cel}
theorem Heaped.draw (d : Heaped w W T p a len cap zs i h v ys) (hp : p < w.heap.size) (hg : W.grownBy W' (some p)) (cu : CurAt W' T p a len cap zs i' h') : Heaped w W' T p a len cap zs i' h' v ys := ⟨d.own.grown hg hp, cu, d.grow.trans hg⟩
theorem Heaped.new (d : Heaped w W T p a len cap zs i h v ys) (o : Obj) : Heaped w (W.alloc o) T p a len cap zs i h v ys := ⟨d.own.new o, d.cur.new o, d.grow.trans (World.grownBy_alloc _ _ _)⟩
theorem Heaped.push (d : Heaped w W T p a len cap zs i h v ys) (hp : p < w.heap.size) (hr : ∀ x, a = some x → x.block < w.heap.size ∨ len = 0) (o : OwnC w.heap.size W' v' ys') (gr : W.grownBy W' v.ownBlock) : Heaped w W' T p a len cap zs i h v' ys' := by
 have hb : ∀ k, v.ownBlock = some k → w.heap.size ≤ k := fun k e => (d.own.lt e).1
 refine ⟨o, d.cur.kept gr (fun e => ?_) (fun x hx => ?_), ⟨gr.os.trans d.grow.os, gr.tape.trans d.grow.tape, gr.output.trans d.grow.output, Nat.le_trans d.grow.size gr.size, fun k hk hne => (gr.block k (Nat.lt_of_lt_of_le hk d.grow.size) (fun e => ?_)).trans (d.grow.block k hk hne)⟩⟩
 · have := hb p e.symm
   omega
 · rcases hr x hx with h1 | h1
   · refine .inl (fun e => ?_)
     have := hb _ e.symm
     omega
   · exact .inr h1
 · have := hb k e.symm
   omega
end
def PutTabOf (w : World) (e : Ending) (w' : World) : Prop := ∃ (ad : Option Addr) (n c : Nat) (ys : List Cel) (ev sz : Int) (pk : Bool), e = .returned (.tuple #[.slice ad n c, .agg #[.int .i64 ev, .int .i64 sz, .bool pk]]) ∧ n ≤ 61 ∧ CelRow w' ad n c ys ∧ Fit ys ∧ 0 ≤ ev ∧ ev ≤ 17 ∧ 0 ≤ sz ∧ sz ≤ 51 ∧ Below w.heap.size w w'

theorem res_slice_conf {P : Program} {fn : Func} {p q : Tmp} {ty : TypeId} {v1 : Value} (h : fn.results = #[.tmp p, .cell q ty]) (tmps : Array Value) (w : World) (g : Nat) (t : TypeId) (cs : Array Value) (fr : Nat × Nat) (d : TypeDesc)
   (hp : tmps.getD p undef = v1) (hq : tmps.getD q undef = .pointer (some ⟨g, 0, none⟩)) (hg : w.heap[g]? = some (.cells cs t fr))
   (hu : P.underlying ty = some d) (hd : (match d with | .struct _ | .array _ _ => true | _ => false) = true) (hi : (P.info? ty).map (·.size) = some cs.size) :
   (results fn tmps).run P w = .ok (.tuple #[v1, .agg cs]) w := by
 have hp' : tmps[p]?.getD undef = v1 := by simpa using hp
 have hq' : tmps[q]?.getD undef = .pointer (some ⟨g, 0, none⟩) := by simpa using hq
 simp [results, h, hp', hq', asAddr, run_loadVar_row w g t ty cs fr d hg hu hd hi]
def confPut (w : World) (g : Nat) (x y z : Value) : World := ((w.setCell ⟨g, 0, none⟩ x).setCell ⟨g, 1, none⟩ y).setCell ⟨g, 2, none⟩ z
theorem confPut_below {B : Nat} {w W : World} (h : Below B w W) {g : Nat} (hg : B ≤ g) (x y z : Value) : Below B w (confPut W g x y z) :=
 ((h.setCell (p := ⟨g, 0, none⟩) hg _).setCell (p := ⟨g, 1, none⟩) hg _).setCell (p := ⟨g, 2, none⟩) hg _
set_option maxHeartbeats 2000000 in
set_option maxRecDepth 100000 in
theorem drawPutTable_at (a : Option Addr) (len cap : Nat) (zs : List Int) (w : World) (hr : Bytes w w.heap.size a len zs) :
   Calls Tryz.prog 14 #[.slice a len cap] w (PutTabOf w) := by
 have B0 := Lib.hid (one_below w (.cells #[.int .i64 0, .int .i64 0, .bool false] 26))
 have X0 := Lib.hid (alloc_at w (.cells #[.int .i64 0, .int .i64 0, .bool false] 26))
 have HR := Lib.hid (below_bytes hr B0.out)
 clear hr
 obtain ⟨w0, hw0⟩ : ∃ W, w.alloc (.cells #[.int .i64 0, .int .i64 0, .bool false] 26) = W := ⟨_, rfl⟩
 rw [hw0] at B0 X0 HR
 go_enter Tryz.func14, Tryz.ntmps14
 go_wp2_with fail
 clear hw0
 refine (l01New_at a len cap zs _ HR.out).mono ?_
 rintro e w1 ⟨rfl, ⟨h, c1⟩, g0⟩
 have C1 := Lib.hid c1
 have hpl := c1.lt
 have HRL := Lib.hid c1.rowlt
 have G0 := Lib.hid g0
 clear c1 g0
 go_wp2_with fail
 refine (l04OddCells_at 12 (by omega) _ _ _ _ _ _ _ _ _ C1.out).mono ?_
 rintro e w2 ⟨g, n, c, i2, h2, ys, rfl, hn, d2⟩
 have D2 := Lib.hid d2
 clear d2
 go_wp2_with fail
 refine (l01Once_at _ _ _ _ _ _ _ _ 24 _ D2.out.cur (by omega) (by omega)).mono ?_
 rintro e w3 ⟨b3, i3, h3, rfl, c3, g3⟩
 have D3 := Lib.hid (D2.out.draw hpl g3 c3)
 clear c3 g3
 cases b3
 · go_wp2_with fail
   refine (l07Odd_at _ _ _ _ _ _ _ _ _ D3.out.cur).mono ?_
   rintro e w4 ⟨ev, sz, pk, i4, h4, hx, rfl, c4, g4⟩
   have D4 := Lib.hid (D3.out.draw hpl g4 c4)
   have hx : 0 ≤ ev ∧ ev ≤ 17 ∧ 0 ≤ sz ∧ sz ≤ 51 := hx
   clear c4 g4
   have HX := Lib.hid (keeps_block X0.out (below_new G0.out D4.out.grow))
   have BX := Lib.hid (B0.out.trans ((below_new G0.out D4.out.grow).mono B0.out.size))
   obtain ⟨y0, y1, y2, z0, z1, z2⟩ := blk_three HX.out
   go_wp2_with fail
   refine bodyPost_ret (res_slice_conf Tryz.results14 _ _ w.heap.size _ _ _ _ rfl rfl (set_three HX.out (.int .i64 ev) (.int .i64 sz) (.bool pk)) Tryz.underlying26 rfl (by rw [sizeConf]; rfl)) rfl ?_
   exact ⟨_, n, c, ys, ev, sz, pk, rfl, by omega, (own_three D4.out.own HX.out (by decide) _ _ _).row, (fun y hy => small_fit (D4.out.small y hy)), hx.1, hx.2.1, hx.2.2.1, hx.2.2.2, confPut_below BX.out (Nat.le_refl _) _ _ _⟩
 · have P3 := Lib.hid (show Heaped w1 w3 _ _ _ _ _ _ _ _ (.slice none 0 0) [] from ⟨own_nil _ _, D3.out.cur, D3.out.grow⟩)
   clear D2 D3
   go_wp2_with fail
   go_loopw [5, 6] (fun vv ii wr => ∃ (j ih : Nat) (hh : Int) (zs' : List Cel), j ≤ 61 ∧ ii = .int .i64 j ∧ zs'.length = j ∧ Hid (Heaped w1 wr 102 w0.heap.size a len cap zs ih hh vv zs' ∧ Fit zs')) (fun _ ii _ => 70 - (intOf ii).toNat)
   case atStart => exact ⟨0, i3, h3, [], by omega, rfl, rfl, ⟨P3.out, fun y hy => by simp at hy⟩⟩
   case round =>
     obtain ⟨j, ih, hh, xs, hj, rfl, hxl, HX⟩ := hrel
     obtain ⟨ad, cp, hv⟩ := own_slice HX.out.1.own
     rw [hxl] at hv
     subst hv
     go_wp2_with fail
     refine (l01Below_any _ _ _ _ _ _ _ _ 3 _ HX.out.1.cur (by omega) (by omega)).mono ?_
     rintro e w5 ⟨x, i5, h5, hx0, hx1, rfl, c5, g5⟩
     have P5 := Lib.hid (HX.out.1.draw hpl g5 c5)
     have HF := Lib.hid HX.out.2
     have HL := Lib.hid hxl
     clear c5 g5 HX hxl
     by_cases hlt : (j : Int) < 59 + x
     · have N6 := Lib.hid (new5 w5 ⟨#[114, 111, 119]⟩ ⟨#[99]⟩ (100 - (j : Int)) false ⟨#[]⟩)
       have P6 := Lib.hid (P5.out.new (.cells #[.string ⟨#[114, 111, 119]⟩, .string ⟨#[99]⟩, .int .i64 (100 - (j : Int)), .bool false, .string ⟨#[]⟩] 41))
       go_wp2_with (at_builtin; refine wpList_plain rfl (fun K hK => ?_); refine op_pushC [⟨⟨#[114, 111, 119]⟩, ⟨#[99]⟩, 100 - (j : Int), false, ⟨#[]⟩⟩] _ _ rfl rfl rfl rfl N6.out P6.out.own P6.out.grow.size (by rw [HL.out]; simp; omega) ?_; intro v7 w7 o7 gr7; refine hK _ _ ?_; clear hK K; have P7 := Lib.hid (P6.out.push hpl HRL.out o7 gr7); clear o7 gr7)
       go_roundw
       case rel =>
         refine ⟨j + 1, i5, h5, xs ++ [⟨⟨#[114, 111, 119]⟩, ⟨#[99]⟩, 100 - (j : Int), false, ⟨#[]⟩⟩], by omega, by go_num, by rw [List.length_append, HL.out]; rfl, ⟨P7.out, fun y hy => ?_⟩⟩
         rcases List.mem_append.1 hy with hm | hm
         · exact HF.out y hm
         · rw [List.mem_singleton.1 hm]
           refine ⟨?_, ?_, ?_⟩
           · show 3 ≤ maxLen
             unfold maxLen; omega
           · show 1 ≤ maxLen
             unfold maxLen; omega
           · show 0 ≤ maxLen
             omega
       case measure => simp [intOf]; omega
     · go_wp2_with fail
       refine (l07Odd_at _ _ _ _ _ _ _ _ _ P5.out.cur).mono ?_
       rintro e w6 ⟨ev, sz, pk, i6, h6, hx, rfl, c6, g6⟩
       have P6 := Lib.hid (P5.out.draw hpl g6 c6)
       have hx : 0 ≤ ev ∧ ev ≤ 17 ∧ 0 ≤ sz ∧ sz ≤ 51 := hx
       clear c6 g6
       have HX := Lib.hid (keeps_block X0.out (below_new G0.out P6.out.grow))
       have BX := Lib.hid (B0.out.trans ((below_new G0.out P6.out.grow).mono B0.out.size))
       obtain ⟨y0, y1, y2, z0, z1, z2⟩ := blk_three HX.out
       go_wp2_with fail
       refine bodyPost_ret (res_slice_conf Tryz.results14 _ _ w.heap.size _ _ _ _ rfl rfl (set_three HX.out (.int .i64 ev) (.int .i64 sz) (.bool pk)) Tryz.underlying26 rfl (by rw [sizeConf]; rfl)) rfl ?_
       exact ⟨ad, j, cp, xs, ev, sz, pk, rfl, hj, by have := (own_three P6.out.own HX.out (by decide) (.int .i64 ev) (.int .i64 sz) (.bool pk)).row; exact this, HF.out, hx.1, hx.2.1, hx.2.2.1, hx.2.2.2, confPut_below BX.out (Nat.le_refl _) _ _ _⟩
set_option maxHeartbeats 4000000 in
set_option maxRecDepth 100000 in
theorem fnTable_walk (a0 : Option Addr) (len0 cap0 : Nat) (z0 : List Int) (w : World) (w0 : IsRow .u8 w a0 len0 cap0 z0) (hL : ErrLaid w) :
   Calls Tryz.prog 3 #[.slice a0 len0 cap0] w fun e w' => e = .returned (.bool true) ∧ Below w.heap.size w w' := by
 have HR := Lib.hid (bytes_of_row w0 w.heap.size (Nat.le_refl _))
 have HERR := Lib.hid hL
 have hl0 := hL.lt
 clear w0 hL
 by_cases hbig : len0 ≤ 1048576
 · go_enter Tryz.func3, Tryz.ntmps3
   go_wp2_with fail
   refine (big_no a0 len0 cap0 _ hbig).mono ?_
   rintro e w1 ⟨rfl, rfl⟩
   go_wp2_with fail
   refine (drawPutTable_at a0 len0 cap0 z0 _ HR.out).mono ?_
   rintro e w1 ⟨ad, n, c, xs, ev, sz, pk, rfl, hn, hrow, hfit, he0, he1, hs0, hs1, b1⟩
   have K1 := Lib.hid (one_below w1 (.cells #[.int .i64 ev, .int .i64 sz, .bool pk] 26))
   have X1 := Lib.hid (alloc_at w1 (.cells #[.int .i64 ev, .int .i64 sz, .bool pk] 26))
   have R1 := Lib.hid (hrow.below K1.out)
   have B1 := Lib.hid (b1.trans (K1.out.mono b1.size))
   have HF := Lib.hid hfit
   clear hrow hfit b1 K1
   obtain ⟨wa, hwa⟩ : ∃ X, w1.alloc (.cells #[.int .i64 ev, .int .i64 sz, .bool pk] 26) = X := ⟨_, rfl⟩
   obtain ⟨ga, hga⟩ : ∃ g, w1.heap.size = g := ⟨_, rfl⟩
   rw [hwa, hga] at X1
   rw [hwa] at R1 B1
   obtain ⟨x0, x1, x2⟩ := conf_cells X1.out
   go_wp2_with fail
   clear hwa hga
   refine (implPutTable ad n c xs ev sz pk (by omega) HF.out _ R1.out.o).mono ?_
   intro e w3 h3
   obtain ⟨S, hS, hSz, rfl, b3⟩ := h3.text
   have HS := Lib.hid hS
   have hSs : S.size ≤ 130000 := by rw [hSz]; exact put_short7 _ _
   have X3 := Lib.hid (keeps_block X1.out b3)
   have R3 := Lib.hid (R1.out.below b3)
   have B3 := Lib.hid (B1.out.trans (b3.mono B1.out.size))
   have X3d := Lib.hid (keeps_block X3.out (below_draws 1))
   have R3d := Lib.hid (R3.out.below (below_draws (B := w3.heap.size) 1))
   have B3d := Lib.hid (B3.out.trans (below_draws (B := w.heap.size) 1))
   clear h3 hS hSz b3 x0 x1 x2
   go_wp2_with fail
   refine wp_region_held_drew (S := fun W => W.heap[ga]? = some (.cells #[.int .i64 ev, .int .i64 sz, .bool pk] 26 (0, 0))) (by kernel_rfl) X3.out (fun hHeld => ?_)
   refine tk 0 (some 19) ?_ ?hy hHeld ?_
   case hy => (intro w' hS; clear hS; go_simp <;> with_reducible rfl)
   simp only [Act.put, sA, sB, sC]
   refine tk 1 (some 20) ?_ ?hy hHeld ?_
   case hy => (intro w' hS; clear hS; go_simp <;> with_reducible rfl)
   simp only [Act.put, sA, sB, sC]
   refine tk 2 (some 21) ?_ ?hy hHeld ?_
   case hy => (intro w' hS; obtain ⟨c0, c1, c2⟩ := conf_cells hS; clear hS; go_simp <;> with_reducible rfl)
   simp only [Act.put, sA, sB, sC]
   refine wpAnyH_ready (rs := [3]) (by kernel_rfl) (by simp) ?_
   refine AllReadyH.cons rfl (fun K hK => ?_) AllReadyH.nil
   go_simp
   refine (specPutTable ad n c xs ev sz pk (by omega) HF.out _ R3d.out.o).mono ?_
   intro e w4 h4
   obtain ⟨S', hS', hSz', rfl, b4⟩ := h4.text
   obtain rfl : S' = S := bytes_ext (by rw [hS', HS.out])
   have X4 := Lib.hid (keeps_block X3d.out b4)
   have R4 := Lib.hid (R3d.out.below b4)
   have B4 := Lib.hid (B3d.out.trans (b4.mono B3d.out.size))
   clear h4 hS' hSz' b4
   go_wp2_with fail
   refine hK.out _ _ X4.out (fun hHeld => ?_)
   clear hK K
   refine tk 4 (some 23) (.bool false) ?hy hHeld ?_
   case hy => (intro w' hS; clear hS; go_simp <;> with_reducible rfl)
   simp only [Act.put, sA, sB, sC]
   refine tk 5 (some 24) ?_ ?hy hHeld ?_
   case hy => (intro w' hS; clear hS; go_simp <;> with_reducible rfl)
   simp only [Act.put, sA, sB, sC]
   refine tk 6 (some 25) ?_ ?hy hHeld ?_
   case hy => (intro w' hS; obtain ⟨c0, c1, c2⟩ := conf_cells hS; clear hS; go_simp <;> with_reducible rfl)
   simp only [Act.put, sA, sB, sC]
   refine tk 8 (some 27) ?_ ?hy hHeld ?_
   case hy => (intro w' hS; obtain ⟨c0, c1, c2⟩ := conf_cells hS; clear hS; go_simp <;> with_reducible rfl)
   simp only [Act.put, sA, sB, sC]
   obtain ⟨bk, hbk⟩ : ∃ b, confOk ⟨ev, sz, pk⟩ = b := ⟨_, rfl⟩
   have HBK := Lib.hid hbk
   clear hbk
   refine wpAnyH_ready (rs := [7]) (by kernel_rfl) (by simp) ?_
   refine AllReadyH.cons rfl (fun K hK => ?_) AllReadyH.nil
   go_simp
   refine (implConfigOk ev sz pk _).mono ?_
   rw [HBK.out]
   rintro e w5 ⟨rfl, b5⟩
   have X5 := Lib.hid (keeps_block X4.out b5)
   have R5 := Lib.hid (R4.out.below b5)
   have B5 := Lib.hid (B4.out.trans (b5.mono B4.out.size))
   clear b5
   go_wp2_with fail
   refine hK.out _ _ X5.out (fun hHeld => ?_)
   clear hK K
   refine wpAnyH_ready (rs := [9]) (by kernel_rfl) (by simp) ?_
   refine AllReadyH.cons rfl (fun K hK => ?_) AllReadyH.nil
   go_simp
   refine (specConfigOk ev sz pk _).mono ?_
   rw [HBK.out]
   rintro e w6 ⟨rfl, b6⟩
   have X6 := Lib.hid (keeps_block X5.out b6)
   have R6 := Lib.hid (R5.out.below b6)
   have B6 := Lib.hid (B5.out.trans (b6.mono B5.out.size))
   clear b6
   go_wp2_with fail
   refine hK.out _ _ X6.out (fun hHeld => ?_)
   clear hK K
   refine tk 10 (some 29) (.bool false) ?hy hHeld ?_
   case hy => (intro w' hS; clear hS; cases bk <;> go_simp <;> with_reducible rfl)
   simp only [Act.put, sA, sB, sC]
   refine tk 11 (some 30) (.bool false) ?hy hHeld ?_
   case hy => (intro w' hS; clear hS; go_simp <;> with_reducible rfl)
   simp only [Act.put, sA, sB, sC]
   refine wpAnyH_done (by kernel_rfl) ?_ _
   go_wp2_with fail
   refine (implGetTable S' (by omega) _ (HERR.out.below B6.out hl0)).mono ?_
   rintro e w7 ⟨v1, ys, d, k, rfl, hT, o7, b7⟩
   by_cases hx : tabOk xs ⟨ev, sz, pk⟩
   · have hSt : S'.data.toList = tableB xs ⟨ev, sz, pk⟩ := by rw [HS.out, put_yes7 hx]
     have hT2 := tab_back hx
     rw [← hSt] at hT2
     obtain ⟨rfl, rfl, rfl⟩ := tab_one hT2 hT
     obtain ⟨ad7, cap7, rfl⟩ := own_slice o7
     unfold confV
     have hlen := R6.out.1
     have h38 : 38 ≤ S'.size := by
       have h1 := table_len xs ⟨ev, sz, pk⟩
       rw [← hSt] at h1
       have h2 : S'.data.toList.length = S'.size := by simp
       omega
     have hmg : ((S'.extract (S'.size - 6) S'.size).toList == [83, 72, 69, 76, 70, 49]) = true := by
       rw [beq_iff_eq, ByteArray.toList_eq, drop_of_extract]
       have h1 := (table_ends xs ⟨ev, sz, pk⟩).2
       rw [← hSt] at h1
       have h2 : S'.data.toList.length = S'.size := by simp
       rw [h2] at h1
       exact h1
     have K8 := Lib.hid (one_below w7 (.cells #[.int .i64 ev, .int .i64 sz, .bool pk] 26))
     have X8 := Lib.hid (keeps_block (keeps_block X6.out b7) K8.out)
     have Y8 := Lib.hid (alloc_at w7 (.cells #[.int .i64 ev, .int .i64 sz, .bool pk] 26))
     have R8 := Lib.hid ((R6.out.below b7).below K8.out)
     have O8 := Lib.hid (o7.below K8.out).row
     have B8 := Lib.hid ((B6.out.trans (b7.mono B6.out.size)).trans (K8.out.mono (Nat.le_trans B6.out.size b7.size)))
     rw [hlen] at O8
     rw [hlen]
     clear hT hT2 hSt o7 b7 K8 hlen
     obtain ⟨wb, hwb⟩ : ∃ X, w7.alloc (.cells #[.int .i64 ev, .int .i64 sz, .bool pk] 26) = X := ⟨_, rfl⟩
     obtain ⟨gb, hgb⟩ : ∃ g, w7.heap.size = g := ⟨_, rfl⟩
     rw [hwb, hgb] at Y8
     rw [hwb] at X8 R8 O8 B8
     obtain ⟨x0, x1, x2⟩ := conf_cells X8.out
     obtain ⟨y0, y1, y2⟩ := conf_cells Y8.out
     have hne : S'.toList.isEmpty = false := by
       have h2 : S'.data.toList.length = S'.size := by simp
       rw [ByteArray.toList_eq]
       cases hc : S'.data.toList with
       | nil =>
         rw [hc, List.length_nil] at h2
         omega
       | cons _ _ => rfl
     go_wp2_with fail
     clear hwb hgb x0 x1 x2 y0 y1 y2
     refine (sameCells_same ad7 ad n cap7 c xs (by omega) _ O8.out R8.out).mono ?_
     rintro e w9 ⟨rfl, b9⟩
     obtain ⟨x0, x1, x2⟩ := conf_cells (keeps_block X8.out b9)
     obtain ⟨y0, y1, y2⟩ := conf_cells (keeps_block Y8.out b9)
     have B9 := Lib.hid (B8.out.trans (b9.mono B8.out.size))
     have hpp : (pk == pk) = true := by simp
     clear b9
     go_wp2
     go_ret
     exact ⟨rfl, B9.out⟩
   · have hSt : S'.data.toList = [] := by rw [HS.out, put_no7 hx]
     have hT2 := tab_empty
     rw [← hSt] at hT2
     obtain ⟨rfl, rfl, rfl⟩ := tab_one hT2 hT
     obtain ⟨ad7, cap7, rfl⟩ := own_slice o7
     obtain rfl : S' = ⟨#[]⟩ := bytes_ext hSt
     unfold confV
     have B7 := Lib.hid (B6.out.trans (b7.mono B6.out.size))
     have B8 := Lib.hid (B7.out.trans ((one_below w7 (.cells #[.int .i64 zeroConf.every, .int .i64 zeroConf.size, .bool zeroConf.pack] 26)).mono B7.out.size))
     clear hT hT2 hSt o7 b7
     go_wp2
     go_ret
     exact ⟨rfl, B8.out⟩
 · go_enter Tryz.func3, Tryz.ntmps3
   go_wp2_with fail
   refine (big_yes a0 len0 cap0 _ (by omega)).mono ?_
   rintro e w1 ⟨rfl, rfl⟩
   go_wp2
   go_ret
   exact ⟨rfl, Below.refl _ _⟩
end Go.Proofs.YtkomnnijnggbpaaGreatDoor
