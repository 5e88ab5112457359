/- The program's appendTo: an entry's bytes put behind a block's. -/
import Derived.Test.YtkomnnijnggbpaaZ0
import Derived.Test.YtkomnnijnggbpaaZ1
namespace Go.Proofs.Ytkomnnijnggbpaa
open Go.RowKit
set_option linter.unusedVariables false

theorem lt_of_blk {w : World} {g : Nat} {o : Obj} (h : w.heap[g]? = some o) : g < w.heap.size := (Array.getElem?_eq_some_iff.1 h).1
set_option maxHeartbeats 4000000 in
set_option maxRecDepth 100000 in
theorem appendTo_at (sh : Nat) (X V : ByteArray) (G : Bool) (hsh : sh ≤ 38) (hX : X.size ≤ 38) (hV : V.size ≤ 30) (v : Value) (xs : List UInt8) (hxs : xs.length ≤ 100000) (w0 w : World) (t : BRow w0 w v xs) :
   Calls Try.prog 77 #[.agg #[.int .i64 sh, .string X, .bool G, .string V], v] w fun e w' => ∃ v', e = .returned v' ∧ BRow w0 w' v' (xs ++ entB sh X.data.toList (zOf G V) V.data.toList) ∧ w.grownBy w' v.ownBlock ∧ Where w v v' := by
 have E0 := Lib.hid (alloc_at w (.cells #[.int .i64 sh, .string X, .bool G, .string V] 98))
 have T0 := Lib.hid (t.alloc (.cells #[.int .i64 sh, .string X, .bool G, .string V] 98))
 have G0 := Lib.hid (grown_under (one_below w (.cells #[.int .i64 sh, .string X, .bool G, .string V] 98)) v.ownBlock)
 have hXl : X.data.toList.length = X.size := by simp
 have HXL := Lib.hid hXl
 obtain ⟨zz, hzz⟩ : ∃ zz, zOf G V = zz := ⟨_, rfl⟩
 have HZZ := Lib.hid hzz
 have zz9 : zz ≤ 61 := by rw [← hzz]; unfold zOf; split <;> omega
 obtain ⟨P1, hP1, hP1s⟩ := text_of (varB sh)
 obtain ⟨P2, hP2, hP2s⟩ := text_of (varB X.size)
 obtain ⟨P3, hP3, hP3s⟩ := text_of (varB zz)
 rw [var_one (by omega)] at hP1s hP2s hP3s
 have p1s : P1.size ≤ 1 := by omega
 have p2s : P2.size ≤ 1 := by omega
 have p3s : P3.size ≤ 1 := by omega
 have l1 : P1.data.toList.length = P1.size := by simp
 have l2 : P2.data.toList.length = P2.size := by simp
 have l3 : P3.data.toList.length = P3.size := by simp
 have HL := Lib.hid (And.intro l1 (And.intro l2 l3))
 have HP1 := Lib.hid (show P1.data.toList = putVar (sh : Int) by rw [hP1, putVar_in (by omega)])
 have HP2 := Lib.hid (show P2.data.toList = putVar (X.size : Int) by rw [hP2, putVar_in (by omega)])
 have HP3 := Lib.hid (show P3.data.toList = putVar (zz : Int) by rw [hP3, putVar_in (by omega)])
 have HV3 := Lib.hid (And.intro hP1 (And.intro hP2 hP3))
 have hz : (G = true → 2 * (V.size : Int) + 1 = (zz : Int)) ∧ (G = false → 2 * (V.size : Int) = (zz : Int)) := by
   refine ⟨fun h => ?_, fun h => ?_⟩ <;> (rw [← hzz, h]; simp [zOf])
 have ix0 : ∀ W : World, (Instr.index 108 (.agg #[.int .i64 sh, .int .i64 X.size, .int .i64 zz]) (.int .i64 0)).run Try.prog W = .ok (.int .i64 sh) W := fun _ => by kernel_rfl
 have ix1 : ∀ W : World, (Instr.index 108 (.agg #[.int .i64 sh, .int .i64 X.size, .int .i64 zz]) (.int .i64 1)).run Try.prog W = .ok (.int .i64 X.size) W := fun _ => by kernel_rfl
 have ix2 : ∀ W : World, (Instr.index 108 (.agg #[.int .i64 sh, .int .i64 X.size, .int .i64 zz]) (.int .i64 2)).run Try.prog W = .ok (.int .i64 zz) W := fun _ => by kernel_rfl
 clear hzz hP1 hP2 hP3 hP1s hP2s hP3s t hXl l1 l2 l3
 go_enter Try.func77, Try.ntmps77
 cases G
 · skip
   have hz1 := hz.2 rfl
   clear hz
   skip
   go_wp2_with fail
   go_loopw [1, 23] (fun u ii wr => ∃ (i : Nat), i ≤ 3 ∧ ii = .int .i64 i ∧ BRow w0 wr u (xs ++ (([P1.data.toList, P2.data.toList, P3.data.toList].take i).flatten)) ∧ w.grownBy wr v.ownBlock ∧ Where w v u ∧ wr.heap[w.heap.size]? = some (.cells #[.int .i64 sh, .string X, .bool false, .string V] 98 (0, 0))) (fun _ ii _ => 3 - (intOf ii).toNat)
   case atStart => exact ⟨0, by omega, rfl, by simpa using T0.out, G0.out, Where.refl _ _, E0.out⟩
   case round =>
     obtain ⟨i, hi, rfl, tr, gr, wh, en⟩ := hrel
     have TR := Lib.hid tr
     have GR := Lib.hid gr
     have WH := Lib.hid wh
     have EN := Lib.hid en
     clear tr gr wh en
     rcases (by omega : i = 0 ∨ i = 1 ∨ i = 2 ∨ i = 3) with rfl | rfl | rfl | rfl
     · skip
       go_wp2_with fail
       refine (implPutVar_as (sh : Int) P1 HP1.out _).mono ?_
       rintro e w1 ⟨rfl, b1⟩
       have T1 := Lib.hid (TR.out.under b1)
       have EN1 := Lib.hid ((b1.block _ (lt_of_blk EN.out)).trans EN.out)
       have GWW := Lib.hid (And.intro (grown_then GR.out b1) WH.out)
       clear b1 TR GR WH EN
       go_wp2_with (at_builtin; refine wpList_plain rfl (fun K hK => ?_); refine op_pushA P1 _ _ rfl rfl rfl T1.out (by have := HL.out; simp; omega) ?_; intro v2 w2 t2 hg2 hw2; refine hK _ _ ?_; clear hK K; have T2 := Lib.hid t2; have EN2 := Lib.hid ((hg2.block _ (lt_of_blk EN1.out) (BRow.apart T1.out EN1.out (by decide))).trans EN1.out); have GW2 := Lib.hid (Where.grow GWW.out.2 GWW.out.1 hg2); have WW2 := Lib.hid (Where.trans GWW.out.2 GWW.out.1.size hw2); clear t2 hg2 hw2)
       go_roundw
       case rel => exact ⟨1, by omega, by go_num, by have h := T2.out; simpa using h, GW2.out, WW2.out, EN2.out⟩
       case measure => simp [intOf]
     · skip
       go_wp2_with fail
       refine (implPutVar_as (X.size : Int) P2 HP2.out _).mono ?_
       rintro e w1 ⟨rfl, b1⟩
       have T1 := Lib.hid (TR.out.under b1)
       have EN1 := Lib.hid ((b1.block _ (lt_of_blk EN.out)).trans EN.out)
       have GWW := Lib.hid (And.intro (grown_then GR.out b1) WH.out)
       clear b1 TR GR WH EN
       go_wp2_with (at_builtin; refine wpList_plain rfl (fun K hK => ?_); refine op_pushA P2 _ _ rfl rfl rfl T1.out (by have := HL.out; simp; omega) ?_; intro v2 w2 t2 hg2 hw2; refine hK _ _ ?_; clear hK K; have T2 := Lib.hid t2; have EN2 := Lib.hid ((hg2.block _ (lt_of_blk EN1.out) (BRow.apart T1.out EN1.out (by decide))).trans EN1.out); have GW2 := Lib.hid (Where.grow GWW.out.2 GWW.out.1 hg2); have WW2 := Lib.hid (Where.trans GWW.out.2 GWW.out.1.size hw2); clear t2 hg2 hw2)
       go_roundw
       case rel => exact ⟨2, by omega, by go_num, by have h := T2.out; simpa using h, GW2.out, WW2.out, EN2.out⟩
       case measure => simp [intOf]
     · skip
       go_wp2_with fail
       refine (implPutVar_as (zz : Int) P3 HP3.out _).mono ?_
       rintro e w1 ⟨rfl, b1⟩
       have T1 := Lib.hid (TR.out.under b1)
       have EN1 := Lib.hid ((b1.block _ (lt_of_blk EN.out)).trans EN.out)
       have GWW := Lib.hid (And.intro (grown_then GR.out b1) WH.out)
       clear b1 TR GR WH EN
       go_wp2_with (at_builtin; refine wpList_plain rfl (fun K hK => ?_); refine op_pushA P3 _ _ rfl rfl rfl T1.out (by have := HL.out; simp; omega) ?_; intro v2 w2 t2 hg2 hw2; refine hK _ _ ?_; clear hK K; have T2 := Lib.hid t2; have EN2 := Lib.hid ((hg2.block _ (lt_of_blk EN1.out) (BRow.apart T1.out EN1.out (by decide))).trans EN1.out); have GW2 := Lib.hid (Where.grow GWW.out.2 GWW.out.1 hg2); have WW2 := Lib.hid (Where.trans GWW.out.2 GWW.out.1.size hw2); clear t2 hg2 hw2)
       go_roundw
       case rel => exact ⟨3, by omega, by go_num, by have h := T2.out; simpa using h, GW2.out, WW2.out, EN2.out⟩
       case measure => simp [intOf]
     · skip
       obtain ⟨f0, f1, f2, f3⟩ := blk4 EN.out
       have GWW := Lib.hid (And.intro GR.out WH.out)
       go_wp2_with (first
         | (at_builtin; refine wpList_plain rfl (fun K hK => ?_); refine op_pushA V _ _ rfl rfl rfl T2.out (by have := HL.out; simp; omega) ?_; intro v3 w3 t3 hg3 hw3; refine hK _ _ ?_; clear hK K; have T3 := Lib.hid t3; have EN3 := Lib.hid ((hg3.block _ (lt_of_blk EN2.out) (BRow.apart T2.out EN2.out (by decide))).trans EN2.out); have GW3 := Lib.hid (Where.grow (And.intro GW2.out WW2.out).2 (And.intro GW2.out WW2.out).1 hg3); have WW3 := Lib.hid (Where.trans (And.intro GW2.out WW2.out).2 (And.intro GW2.out WW2.out).1.size hw3); clear t3 hg3 hw3)
         | (at_builtin; refine wpList_plain rfl (fun K hK => ?_); refine op_pushA X _ _ rfl rfl rfl TR.out (by have := HL.out; simp; omega) ?_; intro v2 w2 t2 hg2 hw2; refine hK _ _ ?_; clear hK K; have T2 := Lib.hid t2; have EN2 := Lib.hid ((hg2.block _ (lt_of_blk EN.out) (BRow.apart TR.out EN.out (by decide))).trans EN.out); have GW2 := Lib.hid (Where.grow GWW.out.2 GWW.out.1 hg2); have WW2 := Lib.hid (Where.trans GWW.out.2 GWW.out.1.size hw2); clear t2 hg2 hw2; have f3' := (blk4 EN2.out).2.2.2))
       go_ret
       refine ⟨_, rfl, ?_, GW3.out, WW3.out⟩
       have h := T3.out
       rw [HZZ.out]
       unfold entB
       rw [← HV3.out.1, HXL.out, ← HV3.out.2.1, ← HV3.out.2.2]
       simpa using h
 · skip
   have hz1 := hz.1 rfl
   clear hz
   obtain ⟨z0, hz0⟩ : ∃ z0 : Nat, 2 * (V.size : Int) = (z0 : Int) := ⟨2 * V.size, by simp⟩
   have hz2 : (z0 : Int) + 1 = (zz : Int) := by omega
   clear hz1
   go_wp2_with fail
   go_loopw [1, 23] (fun u ii wr => ∃ (i : Nat), i ≤ 3 ∧ ii = .int .i64 i ∧ BRow w0 wr u (xs ++ (([P1.data.toList, P2.data.toList, P3.data.toList].take i).flatten)) ∧ w.grownBy wr v.ownBlock ∧ Where w v u ∧ wr.heap[w.heap.size]? = some (.cells #[.int .i64 sh, .string X, .bool true, .string V] 98 (0, 0))) (fun _ ii _ => 3 - (intOf ii).toNat)
   case atStart => exact ⟨0, by omega, rfl, by simpa using T0.out, G0.out, Where.refl _ _, E0.out⟩
   case round =>
     obtain ⟨i, hi, rfl, tr, gr, wh, en⟩ := hrel
     have TR := Lib.hid tr
     have GR := Lib.hid gr
     have WH := Lib.hid wh
     have EN := Lib.hid en
     clear tr gr wh en
     rcases (by omega : i = 0 ∨ i = 1 ∨ i = 2 ∨ i = 3) with rfl | rfl | rfl | rfl
     · skip
       go_wp2_with fail
       refine (implPutVar_as (sh : Int) P1 HP1.out _).mono ?_
       rintro e w1 ⟨rfl, b1⟩
       have T1 := Lib.hid (TR.out.under b1)
       have EN1 := Lib.hid ((b1.block _ (lt_of_blk EN.out)).trans EN.out)
       have GWW := Lib.hid (And.intro (grown_then GR.out b1) WH.out)
       clear b1 TR GR WH EN
       go_wp2_with (at_builtin; refine wpList_plain rfl (fun K hK => ?_); refine op_pushA P1 _ _ rfl rfl rfl T1.out (by have := HL.out; simp; omega) ?_; intro v2 w2 t2 hg2 hw2; refine hK _ _ ?_; clear hK K; have T2 := Lib.hid t2; have EN2 := Lib.hid ((hg2.block _ (lt_of_blk EN1.out) (BRow.apart T1.out EN1.out (by decide))).trans EN1.out); have GW2 := Lib.hid (Where.grow GWW.out.2 GWW.out.1 hg2); have WW2 := Lib.hid (Where.trans GWW.out.2 GWW.out.1.size hw2); clear t2 hg2 hw2)
       go_roundw
       case rel => exact ⟨1, by omega, by go_num, by have h := T2.out; simpa using h, GW2.out, WW2.out, EN2.out⟩
       case measure => simp [intOf]
     · skip
       go_wp2_with fail
       refine (implPutVar_as (X.size : Int) P2 HP2.out _).mono ?_
       rintro e w1 ⟨rfl, b1⟩
       have T1 := Lib.hid (TR.out.under b1)
       have EN1 := Lib.hid ((b1.block _ (lt_of_blk EN.out)).trans EN.out)
       have GWW := Lib.hid (And.intro (grown_then GR.out b1) WH.out)
       clear b1 TR GR WH EN
       go_wp2_with (at_builtin; refine wpList_plain rfl (fun K hK => ?_); refine op_pushA P2 _ _ rfl rfl rfl T1.out (by have := HL.out; simp; omega) ?_; intro v2 w2 t2 hg2 hw2; refine hK _ _ ?_; clear hK K; have T2 := Lib.hid t2; have EN2 := Lib.hid ((hg2.block _ (lt_of_blk EN1.out) (BRow.apart T1.out EN1.out (by decide))).trans EN1.out); have GW2 := Lib.hid (Where.grow GWW.out.2 GWW.out.1 hg2); have WW2 := Lib.hid (Where.trans GWW.out.2 GWW.out.1.size hw2); clear t2 hg2 hw2)
       go_roundw
       case rel => exact ⟨2, by omega, by go_num, by have h := T2.out; simpa using h, GW2.out, WW2.out, EN2.out⟩
       case measure => simp [intOf]
     · skip
       go_wp2_with fail
       refine (implPutVar_as (zz : Int) P3 HP3.out _).mono ?_
       rintro e w1 ⟨rfl, b1⟩
       have T1 := Lib.hid (TR.out.under b1)
       have EN1 := Lib.hid ((b1.block _ (lt_of_blk EN.out)).trans EN.out)
       have GWW := Lib.hid (And.intro (grown_then GR.out b1) WH.out)
       clear b1 TR GR WH EN
       go_wp2_with (at_builtin; refine wpList_plain rfl (fun K hK => ?_); refine op_pushA P3 _ _ rfl rfl rfl T1.out (by have := HL.out; simp; omega) ?_; intro v2 w2 t2 hg2 hw2; refine hK _ _ ?_; clear hK K; have T2 := Lib.hid t2; have EN2 := Lib.hid ((hg2.block _ (lt_of_blk EN1.out) (BRow.apart T1.out EN1.out (by decide))).trans EN1.out); have GW2 := Lib.hid (Where.grow GWW.out.2 GWW.out.1 hg2); have WW2 := Lib.hid (Where.trans GWW.out.2 GWW.out.1.size hw2); clear t2 hg2 hw2)
       go_roundw
       case rel => exact ⟨3, by omega, by go_num, by have h := T2.out; simpa using h, GW2.out, WW2.out, EN2.out⟩
       case measure => simp [intOf]
     · skip
       obtain ⟨f0, f1, f2, f3⟩ := blk4 EN.out
       have GWW := Lib.hid (And.intro GR.out WH.out)
       go_wp2_with (first
         | (at_builtin; refine wpList_plain rfl (fun K hK => ?_); refine op_pushA V _ _ rfl rfl rfl T2.out (by have := HL.out; simp; omega) ?_; intro v3 w3 t3 hg3 hw3; refine hK _ _ ?_; clear hK K; have T3 := Lib.hid t3; have EN3 := Lib.hid ((hg3.block _ (lt_of_blk EN2.out) (BRow.apart T2.out EN2.out (by decide))).trans EN2.out); have GW3 := Lib.hid (Where.grow (And.intro GW2.out WW2.out).2 (And.intro GW2.out WW2.out).1 hg3); have WW3 := Lib.hid (Where.trans (And.intro GW2.out WW2.out).2 (And.intro GW2.out WW2.out).1.size hw3); clear t3 hg3 hw3)
         | (at_builtin; refine wpList_plain rfl (fun K hK => ?_); refine op_pushA X _ _ rfl rfl rfl TR.out (by have := HL.out; simp; omega) ?_; intro v2 w2 t2 hg2 hw2; refine hK _ _ ?_; clear hK K; have T2 := Lib.hid t2; have EN2 := Lib.hid ((hg2.block _ (lt_of_blk EN.out) (BRow.apart TR.out EN.out (by decide))).trans EN.out); have GW2 := Lib.hid (Where.grow GWW.out.2 GWW.out.1 hg2); have WW2 := Lib.hid (Where.trans GWW.out.2 GWW.out.1.size hw2); clear t2 hg2 hw2; have f3' := (blk4 EN2.out).2.2.2))
       go_ret
       refine ⟨_, rfl, ?_, GW3.out, WW3.out⟩
       have h := T3.out
       rw [HZZ.out]
       unfold entB
       rw [← HV3.out.1, HXL.out, ← HV3.out.2.1, ← HV3.out.2.2]
       simpa using h
end Go.Proofs.Ytkomnnijnggbpaa
