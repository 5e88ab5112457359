/- The program's iterator over the cells of a column: it yields them in order, as long as it is let. -/
import Derived.RangeFuncNested
import Derived.RangeFuncBound
import Derived.RangeFuncCalls
import Derived.RangeFuncLeaves
import Derived.Shelf.Abstract
import Derived.Shelf.RegionOpen
import Derived.WalkKit
import Derived.OwnWalkIn
import Derived.TacticsInMore
import Derived.LoopNIn
import Derived.LoopIn
import Derived.Test.YtkomnnijnggbpaaGreatDoorZ0
import Derived.Test.YtkomnnijnggbpaaGreatDoorZ1
import Derived.Test.YtkomnnijnggbpaaGreatDoorCellBefore
namespace Go.Proofs.YtkomnnijnggbpaaGreatDoor
open Go.RowKit Go.Shelf
set_option linter.unusedVariables false
attribute [local go_sem] Oper.semAt_some

def ofCol (R C : ByteArray) (x : Cel) : Bool := decide (x.row.data.toList = R.data.toList) && decide (x.col.data.toList = C.data.toList)
def celVal (x : Cel) : Value := .agg #[.string x.row, .string x.col, .int .i64 x.time, .bool x.gone, .string x.value]
def KeepTo (B : Nat) (W W' : World) : Prop := ∀ k, k < B → W'.heap[k]? = W.heap[k]?
theorem KeepTo.trans {B : Nat} {X Y Z : World} (h : KeepTo B X Y) (k : KeepTo B Y Z) : KeepTo B X Z := fun j hj => (k j hj).trans (h j hj)
theorem keepTo_put {B : Nat} (W : World) (l : Nat) (o o' : Obj) (hl : B ≤ l) : KeepTo B W (W.putObj l o') := fun k hk => World.putObj_heap_other (by omega)
theorem One5.keep {A B : Nat} {a0 a1 a2 a3 a4 : Value} {w w' : World} (h : One5 A a0 a1 a2 a3 a4 w) (hk : KeepTo B w w') (hA : A < B) : One5 A a0 a1 a2 a3 a4 w' := by
 obtain ⟨h0, h1, h2, h3, h4⟩ := h
 have e := hk A hA
 exact ⟨(World.cell?_of_block (w := w) e).trans h0, (World.cell?_of_block (w := w) e).trans h1, (World.cell?_of_block (w := w) e).trans h2, (World.cell?_of_block (w := w) e).trans h3, (World.cell?_of_block (w := w) e).trans h4⟩
structure TimesAt (W : World) (B Bl Bc : Nat) (a : Option Addr) (m c : Nat) (xs : List Cel) (R C : ByteArray) : Prop where
 list : W.cell? ⟨Bl, 0, none⟩ = some (.slice a m c)
 col : One5 Bc (.string R) (.string C) (.int .i64 0) (.bool false) (.string ⟨#[]⟩) W
 row : CelRow W a m c xs
 ltl : Bl < B
 ltc : Bc < B
 ltr : xs ≠ [] → ∀ x, a = some x → x.block < B
 size : B ≤ W.heap.size
theorem TimesAt.keep {W W' : World} {B Bl Bc : Nat} {a : Option Addr} {m c : Nat} {xs : List Cel} {R C : ByteArray} (h : TimesAt W B Bl Bc a m c xs R C) (hk : KeepTo B W W') (hs : W.heap.size ≤ W'.heap.size) : TimesAt W' B Bl Bc a m c xs R C := by
 refine ⟨(World.cell?_of_block (w := W) (hk Bl h.ltl)).trans h.list, h.col.keep hk h.ltc, ⟨h.row.1, h.row.2.1, fun k y hy => ?_⟩, h.ltl, h.ltc, h.ltr, Nat.le_trans h.size hs⟩
 obtain ⟨g, rfl, h5⟩ := h.row.2.2 k y hy
 have e := hk g (h.ltr (fun he => by rw [he] at hy; simp at hy) _ rfl)
 obtain ⟨h0, h1, h2, h3, h4⟩ := h5
 exact ⟨g, rfl, (World.cell?_of_block (w := W) e).trans h0, (World.cell?_of_block (w := W) e).trans h1, (World.cell?_of_block (w := W) e).trans h2, (World.cell?_of_block (w := W) e).trans h3, (World.cell?_of_block (w := W) e).trans h4⟩
theorem keepTo_below {B : Nat} {W W' : World} (h : Below W.heap.size W W') (hB : B ≤ W.heap.size) : KeepTo B W W' := fun k hk => h.block k (by omega)
theorem TimesAt.below {W W' : World} {B Bl Bc : Nat} {a : Option Addr} {m c : Nat} {xs : List Cel} {R C : ByteArray} (h : TimesAt W B Bl Bc a m c xs R C) (hb : Below W.heap.size W W') : TimesAt W' B Bl Bc a m c xs R C := h.keep (keepTo_below hb h.size) hb.size

set_option maxRecDepth 100000 in
set_option maxHeartbeats 4000000 in
theorem times_in (n l B Bl Bc : Nat) (a : Option Addr) (m c : Nat) (xs : List Cel) (R C : ByteArray) (hm : m ≤ 1048576) (all : List Cel) (hall : xs.filter (ofCol R C) = all) (J Jx : List Cel → World → Prop)
   (hY : ∀ pre x W, J pre W → pre.length < all.length → YieldAt Fence.wide (n - 1) Tryz.prog l #[celVal x] W fun e W' =>
     (e = .returned (.bool true) ∧ J (pre ++ [x]) W' ∧ (KeepTo B W W' ∧ W.heap.size ≤ W'.heap.size)) ∨ (e = .returned (.bool false) ∧ Jx (pre ++ [x]) W'))
   (B' : Nat) (hJ : AbidesFrom B' J) (W : World) (ht : TimesAt W B Bl Bc a m c xs R C) (h0 : J [] W) :
   CallsIn Fence.wide n Tryz.prog 118 #[.func (.yield l) #[] #[], .pointer (some ⟨Bl, 0, none⟩), .pointer (some ⟨Bc, 0, none⟩)] W fun e W' => (∃ v, e = .returned v) ∧
     ((∃ ys, ys = all ∧ J ys W') ∨ (∃ pre, pre <+: all ∧ Jx pre W')) := by
 have hcl := ht.list
 have hmc := ht.row.2.1
 have TT := Lib.hid ht
 have HY := Lib.hid hY
 have H0 := Lib.hid h0
 have HALL := Lib.hid hall
 clear ht hY h0 hall
 refine callsIn_of_wp Tryz.func118 rfl trivial ?_ rfl
 simp only [Tryz.ntmps118, List.size_toArray, List.length_cons, List.length_nil, Nat.reduceAdd, Nat.reduceSub, Array.replicate_succ, Array.replicate_zero, List.push_toArray, List.append_toArray, List.nil_append, List.cons_append]
 gi_wp2
 clear hcl
 gi_loopw [8] (fun ii wr => ∃ (i : Nat) (pre : List Cel), i ≤ m ∧ ii = .int .i64 i ∧ TimesAt wr B Bl Bc a m c xs R C ∧ J pre wr ∧ Hid (pre ++ (xs.drop i).filter (ofCol R C) = all))
   (fun ii _ => m - (intOf ii).toNat)
 case atStart => exact ⟨0, [], by omega, rfl, TT.out, H0.out, show _ = _ by rw [List.drop_zero, List.nil_append]; exact HALL.out⟩
 case round =>
   obtain ⟨i, pre, hi, rfl, tt, hj, HST⟩ := hrel
   have TW := Lib.hid tt
   have HJ := Lib.hid hj
   clear tt hj
   by_cases hlt : i < m
   · obtain ⟨⟨R1, C1, T1, G1, V1⟩, hy⟩ : ∃ y, xs[i]? = some y := ⟨_, List.getElem?_eq_getElem (by rw [TW.out.row.1]; exact hlt)⟩
     obtain ⟨g, rfl, k5⟩ := TW.out.row.2.2 i _ hy
     have i1 : (i : Int) < (m : Int) := by omega
     unfold Cel5 at k5
     obtain ⟨c0, c1, c2, c3, c4⟩ := k5
     have E0 := Lib.hid (one5_new wr (.string R1) (.string C1) (.int .i64 T1) (.bool G1) (.string V1) 41)
     have K0 := Lib.hid (one_below wr (.cells #[.string R1, .string C1, .int .i64 T1, .bool G1, .string V1] 41))
     have hdr : xs.drop i = ⟨R1, C1, T1, G1, V1⟩ :: xs.drop (i + 1) := by
       rw [List.drop_eq_getElem_cons (by rw [TW.out.row.1]; exact hlt)]
       congr 1
       have := hy
       rw [List.getElem?_eq_getElem (by rw [TW.out.row.1]; exact hlt)] at this
       exact Option.some.inj this
     clear hy
     by_cases hcol : R1.data.toList = R.data.toList ∧ C1.data.toList = C.data.toList
     · have e1 := list_same R1 R hcol.1
       have e2 := list_same C1 C hcol.2
       have HDR := Lib.hid (show (xs.drop i).filter (ofCol R C) = ⟨R1, C1, T1, G1, V1⟩ :: (xs.drop (i + 1)).filter (ofCol R C) by rw [hdr, List.filter_cons_of_pos (by simp [ofCol, hcol.1, hcol.2])])
       clear hcol hdr
       gi_wp2
       obtain ⟨W0, hW⟩ : ∃ W, wr.alloc (.cells #[.string R1, .string C1, .int .i64 T1, .bool G1, .string V1] 41) = W := ⟨_, rfl⟩
       rw [hW] at E0 K0 ⊢
       clear hW
       obtain ⟨A, hA⟩ : ∃ A, wr.heap.size = A := ⟨_, rfl⟩
       rw [hA] at E0 ⊢
       clear hA c0 c1 c2 c3 c4
       have E0o := E0.out
       unfold One5 at E0o
       obtain ⟨f0, f1, f2, f3, f4⟩ := E0o
       have Y0o := (TW.out.below K0.out).col
       unfold One5 at Y0o
       obtain ⟨h0, h1, h2, h3, h4⟩ := Y0o
       refine wpIn_region_any (by kernel_rfl) ?_
       change wpAnyIn _ _ _ _ _ _ _ _ _ (World.drew _)
       refine wpAnyIn_ready (rs := [0, 2]) (by kernel_rfl) (by simp) ?_
       refine (AllReadyIn.cons rfl (fun K hK => ?_) (AllReadyIn.cons rfl (fun K hK => ?_) AllReadyIn.nil))
       · skip
         go_simp
         refine hK _ _ ?_
         clear hK K
         refine wpAnyIn_ready (rs := [1, 2]) (by kernel_rfl) (by simp) ?_
         refine (AllReadyIn.cons rfl (fun K hK => ?_) (AllReadyIn.cons rfl (fun K hK => ?_) AllReadyIn.nil))
         · skip
           go_simp
           refine ⟨trivial, (fun h => by cases h), ?_⟩
           refine (callsIn_wide.2 (columnOf_at R1 C1 T1 G1 V1 _)).mono ?_
           rintro e w1 ⟨rfl, hb1⟩
           have D1 := Lib.hid (K0.out.drew.trans (hb1.mono (by have := K0.out.size; simpa using this)))
           have X1 := Lib.hid (One5.below (w := W0.drew) E0.out hb1)
           have T1' := Lib.hid (TimesAt.below (W := wr) TW.out D1.out)
           clear hb1 f0 f1 f2 f3 f4 h0 h1 h2 h3 h4
           simp only []
           refine hK _ _ ?_
           clear hK K
           have X1o := X1.out
           unfold One5 at X1o
           obtain ⟨f0, f1, f2, f3, f4⟩ := X1o
           have Y1o := T1'.out.col
           unfold One5 at Y1o
           obtain ⟨h0, h1, h2, h3, h4⟩ := Y1o
           refine wpAnyIn_ready (rs := [2]) (by kernel_rfl) (by simp) ?_
           refine (AllReadyIn.cons rfl (fun K hK => ?_) AllReadyIn.nil)
           go_simp
           refine hK _ _ ?_
           clear hK K
           refine wpAnyIn_take (i := 3) (v := ?_) rfl rfl (by kernel_rfl) (by kernel_rfl) (by kernel_rfl) (fun _ _ _ h => h) ⟨Or.inl ⟨by rfl, ?hy⟩, fun _ => rfl⟩ ?_
           case hy => (intro w'; go_simp <;> with_reducible rfl)
           simp only [Act.put, List.setIfInBounds_toArray]
           refine wpAnyIn_take (i := 4) (v := ?_) rfl rfl (by kernel_rfl) (by kernel_rfl) (by kernel_rfl) (fun _ _ _ h => h) ⟨Or.inl ⟨by rfl, ?hy⟩, fun _ => rfl⟩ ?_
           case hy => (intro w'; go_simp <;> with_reducible rfl)
           simp only [Act.put]
           refine wpAnyIn_take (i := 5) (v := ?_) rfl rfl (by kernel_rfl) (by kernel_rfl) (by kernel_rfl) (fun _ _ _ h => h) ⟨Or.inl ⟨by rfl, ?hy⟩, fun _ => rfl⟩ ?_
           case hy => (intro w'; go_simp <;> with_reducible rfl)
           simp only [Act.put]
           refine wpAnyIn_ready (rs := [6]) (by kernel_rfl) (by simp) ?_
           refine (AllReadyIn.cons rfl (fun K hK => ?_) AllReadyIn.nil)
           go_simp
           refine hK _ _ ?_
           clear hK K
           refine wpAnyIn_ready (rs := [7]) (by kernel_rfl) (by simp) ?_
           refine (AllReadyIn.cons rfl (fun K hK => ?_) AllReadyIn.nil)
           obtain ⟨fn, tmps, assign, body, hy, hR⟩ := HY.out pre ⟨R1, C1, T1, G1, V1⟩ w1 (hJ _ _ _ none HJ.out (grown_of_below D1.out) (fun _ h => by cases h)) (by rw [← HST.out, HDR.out]; simp)
           unfold celVal at hy
           go_simp
           refine ⟨(fun h => by cases h), hR.mono ?_⟩
           clear hy hR
           rintro e W3 (⟨rfl, hJ3, hk3⟩ | ⟨rfl, hJx3⟩)
           · have T3 := Lib.hid (T1'.out.keep hk3.1 hk3.2)
             have HJ3 := Lib.hid hJ3
             clear hJ3 hk3 f0 f1 f2 f3 f4 h0 h1 h2 h3 h4
             simp only []
             refine hK _ _ ?_
             clear hK K
             refine wpAnyIn_take (i := 8) (v := ?_) rfl rfl (by kernel_rfl) (by kernel_rfl) (by kernel_rfl) (fun _ _ _ h => h) ⟨Or.inl ⟨by rfl, ?hy⟩, fun _ => rfl⟩ ?_
             case hy => (intro w'; go_simp <;> with_reducible rfl)
             simp only [Act.put, List.setIfInBounds_toArray]
             refine wpAnyIn_take (i := 9) (v := ?_) rfl rfl (by kernel_rfl) (by kernel_rfl) (by kernel_rfl) (fun _ _ _ h => h) ⟨Or.inl ⟨by rfl, ?hy⟩, fun _ => rfl⟩ ?_
             case hy => (intro w'; go_simp <;> with_reducible rfl)
             simp only [Act.put]
             refine wpAnyIn_done (by kernel_rfl) ?_ _
             gi_wp2
             go_roundw
             case rel => exact ⟨i + 1, pre ++ [⟨R1, C1, T1, G1, V1⟩], by omega, by go_num, T3.out, HJ3.out, show _ = _ by rw [← HST.out, HDR.out]; simp⟩
             case measure => simp [intOf]; omega
           · have HX := Lib.hid hJx3
             clear hJx3 f0 f1 f2 f3 f4 h0 h1 h2 h3 h4
             simp only []
             refine hK _ _ ?_
             clear hK K
             refine wpAnyIn_take (i := 8) (v := ?_) rfl rfl (by kernel_rfl) (by kernel_rfl) (by kernel_rfl) (fun _ _ _ h => h) ⟨Or.inl ⟨by rfl, ?hy⟩, fun _ => rfl⟩ ?_
             case hy => (intro w'; go_simp <;> with_reducible rfl)
             simp only [Act.put, List.setIfInBounds_toArray]
             refine wpAnyIn_take (i := 9) (v := ?_) rfl rfl (by kernel_rfl) (by kernel_rfl) (by kernel_rfl) (fun _ _ _ h => h) ⟨Or.inl ⟨by rfl, ?hy⟩, fun _ => rfl⟩ ?_
             case hy => (intro w'; go_simp <;> with_reducible rfl)
             simp only [Act.put]
             refine wpAnyIn_done (by kernel_rfl) ?_ _
             gi_wp2
             exact bodyPost_ret (results_none rfl _ _ _) rfl ⟨⟨_, rfl⟩, .inr ⟨pre ++ [⟨R1, C1, T1, G1, V1⟩], ⟨(xs.drop (i + 1)).filter (ofCol R C), by rw [← HST.out, HDR.out]; simp⟩, HX.out⟩⟩
         · skip
           go_simp
           refine hK _ _ ?_
           clear hK K
           refine wpAnyIn_ready (rs := [1]) (by kernel_rfl) (by simp) ?_
           refine (AllReadyIn.cons rfl (fun K hK => ?_) AllReadyIn.nil)
           go_simp
           refine ⟨trivial, (fun h => by cases h), ?_⟩
           refine (callsIn_wide.2 (columnOf_at R1 C1 T1 G1 V1 _)).mono ?_
           rintro e w1 ⟨rfl, hb1⟩
           have D1 := Lib.hid (K0.out.drew.trans (hb1.mono (by have := K0.out.size; simpa using this)))
           have X1 := Lib.hid (One5.below (w := W0.drew) E0.out hb1)
           have T1' := Lib.hid (TimesAt.below (W := wr) TW.out D1.out)
           clear hb1 f0 f1 f2 f3 f4 h0 h1 h2 h3 h4
           simp only []
           refine hK _ _ ?_
           clear hK K
           have X1o := X1.out
           unfold One5 at X1o
           obtain ⟨f0, f1, f2, f3, f4⟩ := X1o
           have Y1o := T1'.out.col
           unfold One5 at Y1o
           obtain ⟨h0, h1, h2, h3, h4⟩ := Y1o
           refine wpAnyIn_take (i := 3) (v := ?_) rfl rfl (by kernel_rfl) (by kernel_rfl) (by kernel_rfl) (fun _ _ _ h => h) ⟨Or.inl ⟨by rfl, ?hy⟩, fun _ => rfl⟩ ?_
           case hy => (intro w'; go_simp <;> with_reducible rfl)
           simp only [Act.put, List.setIfInBounds_toArray]
           refine wpAnyIn_take (i := 4) (v := ?_) rfl rfl (by kernel_rfl) (by kernel_rfl) (by kernel_rfl) (fun _ _ _ h => h) ⟨Or.inl ⟨by rfl, ?hy⟩, fun _ => rfl⟩ ?_
           case hy => (intro w'; go_simp <;> with_reducible rfl)
           simp only [Act.put]
           refine wpAnyIn_take (i := 5) (v := ?_) rfl rfl (by kernel_rfl) (by kernel_rfl) (by kernel_rfl) (fun _ _ _ h => h) ⟨Or.inl ⟨by rfl, ?hy⟩, fun _ => rfl⟩ ?_
           case hy => (intro w'; go_simp <;> with_reducible rfl)
           simp only [Act.put]
           refine wpAnyIn_ready (rs := [6]) (by kernel_rfl) (by simp) ?_
           refine (AllReadyIn.cons rfl (fun K hK => ?_) AllReadyIn.nil)
           go_simp
           refine hK _ _ ?_
           clear hK K
           refine wpAnyIn_ready (rs := [7]) (by kernel_rfl) (by simp) ?_
           refine (AllReadyIn.cons rfl (fun K hK => ?_) AllReadyIn.nil)
           obtain ⟨fn, tmps, assign, body, hy, hR⟩ := HY.out pre ⟨R1, C1, T1, G1, V1⟩ w1 (hJ _ _ _ none HJ.out (grown_of_below D1.out) (fun _ h => by cases h)) (by rw [← HST.out, HDR.out]; simp)
           unfold celVal at hy
           go_simp
           refine ⟨(fun h => by cases h), hR.mono ?_⟩
           clear hy hR
           rintro e W3 (⟨rfl, hJ3, hk3⟩ | ⟨rfl, hJx3⟩)
           · have T3 := Lib.hid (T1'.out.keep hk3.1 hk3.2)
             have HJ3 := Lib.hid hJ3
             clear hJ3 hk3 f0 f1 f2 f3 f4 h0 h1 h2 h3 h4
             simp only []
             refine hK _ _ ?_
             clear hK K
             refine wpAnyIn_take (i := 8) (v := ?_) rfl rfl (by kernel_rfl) (by kernel_rfl) (by kernel_rfl) (fun _ _ _ h => h) ⟨Or.inl ⟨by rfl, ?hy⟩, fun _ => rfl⟩ ?_
             case hy => (intro w'; go_simp <;> with_reducible rfl)
             simp only [Act.put, List.setIfInBounds_toArray]
             refine wpAnyIn_take (i := 9) (v := ?_) rfl rfl (by kernel_rfl) (by kernel_rfl) (by kernel_rfl) (fun _ _ _ h => h) ⟨Or.inl ⟨by rfl, ?hy⟩, fun _ => rfl⟩ ?_
             case hy => (intro w'; go_simp <;> with_reducible rfl)
             simp only [Act.put]
             refine wpAnyIn_done (by kernel_rfl) ?_ _
             gi_wp2
             go_roundw
             case rel => exact ⟨i + 1, pre ++ [⟨R1, C1, T1, G1, V1⟩], by omega, by go_num, T3.out, HJ3.out, show _ = _ by rw [← HST.out, HDR.out]; simp⟩
             case measure => simp [intOf]; omega
           · have HX := Lib.hid hJx3
             clear hJx3 f0 f1 f2 f3 f4 h0 h1 h2 h3 h4
             simp only []
             refine hK _ _ ?_
             clear hK K
             refine wpAnyIn_take (i := 8) (v := ?_) rfl rfl (by kernel_rfl) (by kernel_rfl) (by kernel_rfl) (fun _ _ _ h => h) ⟨Or.inl ⟨by rfl, ?hy⟩, fun _ => rfl⟩ ?_
             case hy => (intro w'; go_simp <;> with_reducible rfl)
             simp only [Act.put, List.setIfInBounds_toArray]
             refine wpAnyIn_take (i := 9) (v := ?_) rfl rfl (by kernel_rfl) (by kernel_rfl) (by kernel_rfl) (fun _ _ _ h => h) ⟨Or.inl ⟨by rfl, ?hy⟩, fun _ => rfl⟩ ?_
             case hy => (intro w'; go_simp <;> with_reducible rfl)
             simp only [Act.put]
             refine wpAnyIn_done (by kernel_rfl) ?_ _
             gi_wp2
             exact bodyPost_ret (results_none rfl _ _ _) rfl ⟨⟨_, rfl⟩, .inr ⟨pre ++ [⟨R1, C1, T1, G1, V1⟩], ⟨(xs.drop (i + 1)).filter (ofCol R C), by rw [← HST.out, HDR.out]; simp⟩, HX.out⟩⟩
       · skip
         go_simp
         refine hK _ _ ?_
         clear hK K
         refine wpAnyIn_ready (rs := [0]) (by kernel_rfl) (by simp) ?_
         refine (AllReadyIn.cons rfl (fun K hK => ?_) AllReadyIn.nil)
         go_simp
         refine hK _ _ ?_
         clear hK K
         refine wpAnyIn_ready (rs := [1]) (by kernel_rfl) (by simp) ?_
         refine (AllReadyIn.cons rfl (fun K hK => ?_) AllReadyIn.nil)
         go_simp
         refine ⟨trivial, (fun h => by cases h), ?_⟩
         refine (callsIn_wide.2 (columnOf_at R1 C1 T1 G1 V1 _)).mono ?_
         rintro e w1 ⟨rfl, hb1⟩
         have D1 := Lib.hid (K0.out.drew.trans (hb1.mono (by have := K0.out.size; simpa using this)))
         have X1 := Lib.hid (One5.below (w := W0.drew) E0.out hb1)
         have T1' := Lib.hid (TimesAt.below (W := wr) TW.out D1.out)
         clear hb1 f0 f1 f2 f3 f4 h0 h1 h2 h3 h4
         simp only []
         refine hK _ _ ?_
         clear hK K
         have X1o := X1.out
         unfold One5 at X1o
         obtain ⟨f0, f1, f2, f3, f4⟩ := X1o
         have Y1o := T1'.out.col
         unfold One5 at Y1o
         obtain ⟨h0, h1, h2, h3, h4⟩ := Y1o
         refine wpAnyIn_take (i := 3) (v := ?_) rfl rfl (by kernel_rfl) (by kernel_rfl) (by kernel_rfl) (fun _ _ _ h => h) ⟨Or.inl ⟨by rfl, ?hy⟩, fun _ => rfl⟩ ?_
         case hy => (intro w'; go_simp <;> with_reducible rfl)
         simp only [Act.put, List.setIfInBounds_toArray]
         refine wpAnyIn_take (i := 4) (v := ?_) rfl rfl (by kernel_rfl) (by kernel_rfl) (by kernel_rfl) (fun _ _ _ h => h) ⟨Or.inl ⟨by rfl, ?hy⟩, fun _ => rfl⟩ ?_
         case hy => (intro w'; go_simp <;> with_reducible rfl)
         simp only [Act.put]
         refine wpAnyIn_take (i := 5) (v := ?_) rfl rfl (by kernel_rfl) (by kernel_rfl) (by kernel_rfl) (fun _ _ _ h => h) ⟨Or.inl ⟨by rfl, ?hy⟩, fun _ => rfl⟩ ?_
         case hy => (intro w'; go_simp <;> with_reducible rfl)
         simp only [Act.put]
         refine wpAnyIn_ready (rs := [6]) (by kernel_rfl) (by simp) ?_
         refine (AllReadyIn.cons rfl (fun K hK => ?_) AllReadyIn.nil)
         go_simp
         refine hK _ _ ?_
         clear hK K
         refine wpAnyIn_ready (rs := [7]) (by kernel_rfl) (by simp) ?_
         refine (AllReadyIn.cons rfl (fun K hK => ?_) AllReadyIn.nil)
         obtain ⟨fn, tmps, assign, body, hy, hR⟩ := HY.out pre ⟨R1, C1, T1, G1, V1⟩ w1 (hJ _ _ _ none HJ.out (grown_of_below D1.out) (fun _ h => by cases h)) (by rw [← HST.out, HDR.out]; simp)
         unfold celVal at hy
         go_simp
         refine ⟨(fun h => by cases h), hR.mono ?_⟩
         clear hy hR
         rintro e W3 (⟨rfl, hJ3, hk3⟩ | ⟨rfl, hJx3⟩)
         · have T3 := Lib.hid (T1'.out.keep hk3.1 hk3.2)
           have HJ3 := Lib.hid hJ3
           clear hJ3 hk3 f0 f1 f2 f3 f4 h0 h1 h2 h3 h4
           simp only []
           refine hK _ _ ?_
           clear hK K
           refine wpAnyIn_take (i := 8) (v := ?_) rfl rfl (by kernel_rfl) (by kernel_rfl) (by kernel_rfl) (fun _ _ _ h => h) ⟨Or.inl ⟨by rfl, ?hy⟩, fun _ => rfl⟩ ?_
           case hy => (intro w'; go_simp <;> with_reducible rfl)
           simp only [Act.put, List.setIfInBounds_toArray]
           refine wpAnyIn_take (i := 9) (v := ?_) rfl rfl (by kernel_rfl) (by kernel_rfl) (by kernel_rfl) (fun _ _ _ h => h) ⟨Or.inl ⟨by rfl, ?hy⟩, fun _ => rfl⟩ ?_
           case hy => (intro w'; go_simp <;> with_reducible rfl)
           simp only [Act.put]
           refine wpAnyIn_done (by kernel_rfl) ?_ _
           gi_wp2
           go_roundw
           case rel => exact ⟨i + 1, pre ++ [⟨R1, C1, T1, G1, V1⟩], by omega, by go_num, T3.out, HJ3.out, show _ = _ by rw [← HST.out, HDR.out]; simp⟩
           case measure => simp [intOf]; omega
         · have HX := Lib.hid hJx3
           clear hJx3 f0 f1 f2 f3 f4 h0 h1 h2 h3 h4
           simp only []
           refine hK _ _ ?_
           clear hK K
           refine wpAnyIn_take (i := 8) (v := ?_) rfl rfl (by kernel_rfl) (by kernel_rfl) (by kernel_rfl) (fun _ _ _ h => h) ⟨Or.inl ⟨by rfl, ?hy⟩, fun _ => rfl⟩ ?_
           case hy => (intro w'; go_simp <;> with_reducible rfl)
           simp only [Act.put, List.setIfInBounds_toArray]
           refine wpAnyIn_take (i := 9) (v := ?_) rfl rfl (by kernel_rfl) (by kernel_rfl) (by kernel_rfl) (fun _ _ _ h => h) ⟨Or.inl ⟨by rfl, ?hy⟩, fun _ => rfl⟩ ?_
           case hy => (intro w'; go_simp <;> with_reducible rfl)
           simp only [Act.put]
           refine wpAnyIn_done (by kernel_rfl) ?_ _
           gi_wp2
           exact bodyPost_ret (results_none rfl _ _ _) rfl ⟨⟨_, rfl⟩, .inr ⟨pre ++ [⟨R1, C1, T1, G1, V1⟩], ⟨(xs.drop (i + 1)).filter (ofCol R C), by rw [← HST.out, HDR.out]; simp⟩, HX.out⟩⟩
     · have HDR := Lib.hid (show (xs.drop (i + 1)).filter (ofCol R C) = (xs.drop i).filter (ofCol R C) by rw [hdr, List.filter_cons_of_neg (by simp only [ofCol, Bool.and_eq_true, decide_eq_true_eq]; exact hcol)])
       have HNE := Lib.hid (show ¬ (R1.toList = R.toList ∧ C1.toList = C.toList) by rw [ByteArray.toList_eq, ByteArray.toList_eq, ByteArray.toList_eq, ByteArray.toList_eq]; exact hcol)
       clear hcol hdr
       have hst := HST.out
       rw [← HDR.out] at hst
       have HST := Lib.hid hst
       clear hst
       gi_wp2
       obtain ⟨W0, hW⟩ : ∃ W, wr.alloc (.cells #[.string R1, .string C1, .int .i64 T1, .bool G1, .string V1] 41) = W := ⟨_, rfl⟩
       rw [hW] at E0 K0 ⊢
       clear hW
       obtain ⟨A, hA⟩ : ∃ A, wr.heap.size = A := ⟨_, rfl⟩
       rw [hA] at E0 ⊢
       clear hA c0 c1 c2 c3 c4
       have E0o := E0.out
       unfold One5 at E0o
       obtain ⟨f0, f1, f2, f3, f4⟩ := E0o
       have Y0o := (TW.out.below K0.out).col
       unfold One5 at Y0o
       obtain ⟨h0, h1, h2, h3, h4⟩ := Y0o
       refine wpIn_region_any (by kernel_rfl) ?_
       change wpAnyIn _ _ _ _ _ _ _ _ _ (World.drew _)
       refine wpAnyIn_ready (rs := [0, 2]) (by kernel_rfl) (by simp) ?_
       refine (AllReadyIn.cons rfl (fun K hK => ?_) (AllReadyIn.cons rfl (fun K hK => ?_) AllReadyIn.nil))
       · skip
         go_simp
         refine hK _ _ ?_
         clear hK K
         refine wpAnyIn_ready (rs := [1, 2]) (by kernel_rfl) (by simp) ?_
         refine (AllReadyIn.cons rfl (fun K hK => ?_) (AllReadyIn.cons rfl (fun K hK => ?_) AllReadyIn.nil))
         · skip
           go_simp
           refine ⟨trivial, (fun h => by cases h), ?_⟩
           refine (callsIn_wide.2 (columnOf_at R1 C1 T1 G1 V1 _)).mono ?_
           rintro e w1 ⟨rfl, hb1⟩
           have D1 := Lib.hid (K0.out.drew.trans (hb1.mono (by have := K0.out.size; simpa using this)))
           have X1 := Lib.hid (One5.below (w := W0.drew) E0.out hb1)
           have T1' := Lib.hid (TimesAt.below (W := wr) TW.out D1.out)
           clear hb1 f0 f1 f2 f3 f4 h0 h1 h2 h3 h4
           simp only []
           refine hK _ _ ?_
           clear hK K
           have X1o := X1.out
           unfold One5 at X1o
           obtain ⟨f0, f1, f2, f3, f4⟩ := X1o
           have Y1o := T1'.out.col
           unfold One5 at Y1o
           obtain ⟨h0, h1, h2, h3, h4⟩ := Y1o
           refine wpAnyIn_ready (rs := [2]) (by kernel_rfl) (by simp) ?_
           refine (AllReadyIn.cons rfl (fun K hK => ?_) AllReadyIn.nil)
           go_simp
           refine hK _ _ ?_
           clear hK K
           refine wpAnyIn_take (i := 3) (v := .bool false) rfl rfl (by kernel_rfl) (by kernel_rfl) (by kernel_rfl) (fun _ _ _ h => h) ⟨Or.inl ⟨by rfl, ?hy⟩, fun _ => rfl⟩ ?_
           case hy => (intro w'; go_simp; exact fun q1 q2 => HNE.out ⟨q1, q2⟩)
           simp only [Act.put, List.setIfInBounds_toArray]
           refine wpAnyIn_take (i := 4) (v := ?_) rfl rfl (by kernel_rfl) (by kernel_rfl) (by kernel_rfl) (fun _ _ _ h => h) ⟨Or.inl ⟨by rfl, ?hy⟩, fun _ => rfl⟩ ?_
           case hy => (intro w'; go_simp <;> with_reducible rfl)
           simp only [Act.put]
           refine wpAnyIn_take (i := 5) (v := undef) rfl rfl (by kernel_rfl) (by kernel_rfl) (by kernel_rfl) (fun _ _ _ h => h) ⟨Or.inr ⟨by rfl, rfl⟩, fun _ => rfl⟩ ?_
           simp only [Act.put]
           refine wpAnyIn_take (i := 6) (v := undef) rfl rfl (by kernel_rfl) (by kernel_rfl) (by kernel_rfl) (fun _ _ _ h => h) ⟨Or.inr ⟨by rfl, rfl⟩, fun _ => rfl⟩ ?_
           simp only [Act.put]
           refine wpAnyIn_take (i := 7) (v := undef) rfl rfl (by kernel_rfl) (by kernel_rfl) (by kernel_rfl) (fun _ _ _ h => h) ⟨Or.inr ⟨by rfl, rfl⟩, fun _ => rfl⟩ ?_
           simp only [Act.put]
           refine wpAnyIn_take (i := 8) (v := undef) rfl rfl (by kernel_rfl) (by kernel_rfl) (by kernel_rfl) (fun _ _ _ h => h) ⟨Or.inr ⟨by rfl, rfl⟩, fun _ => rfl⟩ ?_
           simp only [Act.put]
           refine wpAnyIn_take (i := 9) (v := ?_) rfl rfl (by kernel_rfl) (by kernel_rfl) (by kernel_rfl) (fun _ _ _ h => h) ⟨Or.inl ⟨by rfl, ?hy⟩, fun _ => rfl⟩ ?_
           case hy => (intro w'; go_simp <;> with_reducible rfl)
           simp only [Act.put]
           refine wpAnyIn_done (by kernel_rfl) ?_ _
           clear f0 f1 f2 f3 f4 h0 h1 h2 h3 h4
           gi_wp2
           go_roundw
           case rel => exact ⟨i + 1, pre, by omega, by go_num, T1'.out, hJ _ _ _ none HJ.out (grown_of_below D1.out) (fun _ h => by cases h), HST.out⟩
           case measure => simp [intOf]; omega
         · skip
           go_simp
           refine hK _ _ ?_
           clear hK K
           refine wpAnyIn_ready (rs := [1]) (by kernel_rfl) (by simp) ?_
           refine (AllReadyIn.cons rfl (fun K hK => ?_) AllReadyIn.nil)
           go_simp
           refine ⟨trivial, (fun h => by cases h), ?_⟩
           refine (callsIn_wide.2 (columnOf_at R1 C1 T1 G1 V1 _)).mono ?_
           rintro e w1 ⟨rfl, hb1⟩
           have D1 := Lib.hid (K0.out.drew.trans (hb1.mono (by have := K0.out.size; simpa using this)))
           have X1 := Lib.hid (One5.below (w := W0.drew) E0.out hb1)
           have T1' := Lib.hid (TimesAt.below (W := wr) TW.out D1.out)
           clear hb1 f0 f1 f2 f3 f4 h0 h1 h2 h3 h4
           simp only []
           refine hK _ _ ?_
           clear hK K
           have X1o := X1.out
           unfold One5 at X1o
           obtain ⟨f0, f1, f2, f3, f4⟩ := X1o
           have Y1o := T1'.out.col
           unfold One5 at Y1o
           obtain ⟨h0, h1, h2, h3, h4⟩ := Y1o
           refine wpAnyIn_take (i := 3) (v := .bool false) rfl rfl (by kernel_rfl) (by kernel_rfl) (by kernel_rfl) (fun _ _ _ h => h) ⟨Or.inl ⟨by rfl, ?hy⟩, fun _ => rfl⟩ ?_
           case hy => (intro w'; go_simp; exact fun q1 q2 => HNE.out ⟨q1, q2⟩)
           simp only [Act.put, List.setIfInBounds_toArray]
           refine wpAnyIn_take (i := 4) (v := ?_) rfl rfl (by kernel_rfl) (by kernel_rfl) (by kernel_rfl) (fun _ _ _ h => h) ⟨Or.inl ⟨by rfl, ?hy⟩, fun _ => rfl⟩ ?_
           case hy => (intro w'; go_simp <;> with_reducible rfl)
           simp only [Act.put]
           refine wpAnyIn_take (i := 5) (v := undef) rfl rfl (by kernel_rfl) (by kernel_rfl) (by kernel_rfl) (fun _ _ _ h => h) ⟨Or.inr ⟨by rfl, rfl⟩, fun _ => rfl⟩ ?_
           simp only [Act.put]
           refine wpAnyIn_take (i := 6) (v := undef) rfl rfl (by kernel_rfl) (by kernel_rfl) (by kernel_rfl) (fun _ _ _ h => h) ⟨Or.inr ⟨by rfl, rfl⟩, fun _ => rfl⟩ ?_
           simp only [Act.put]
           refine wpAnyIn_take (i := 7) (v := undef) rfl rfl (by kernel_rfl) (by kernel_rfl) (by kernel_rfl) (fun _ _ _ h => h) ⟨Or.inr ⟨by rfl, rfl⟩, fun _ => rfl⟩ ?_
           simp only [Act.put]
           refine wpAnyIn_take (i := 8) (v := undef) rfl rfl (by kernel_rfl) (by kernel_rfl) (by kernel_rfl) (fun _ _ _ h => h) ⟨Or.inr ⟨by rfl, rfl⟩, fun _ => rfl⟩ ?_
           simp only [Act.put]
           refine wpAnyIn_take (i := 9) (v := ?_) rfl rfl (by kernel_rfl) (by kernel_rfl) (by kernel_rfl) (fun _ _ _ h => h) ⟨Or.inl ⟨by rfl, ?hy⟩, fun _ => rfl⟩ ?_
           case hy => (intro w'; go_simp <;> with_reducible rfl)
           simp only [Act.put]
           refine wpAnyIn_done (by kernel_rfl) ?_ _
           clear f0 f1 f2 f3 f4 h0 h1 h2 h3 h4
           gi_wp2
           go_roundw
           case rel => exact ⟨i + 1, pre, by omega, by go_num, T1'.out, hJ _ _ _ none HJ.out (grown_of_below D1.out) (fun _ h => by cases h), HST.out⟩
           case measure => simp [intOf]; omega
       · skip
         go_simp
         refine hK _ _ ?_
         clear hK K
         refine wpAnyIn_ready (rs := [0]) (by kernel_rfl) (by simp) ?_
         refine (AllReadyIn.cons rfl (fun K hK => ?_) AllReadyIn.nil)
         go_simp
         refine hK _ _ ?_
         clear hK K
         refine wpAnyIn_ready (rs := [1]) (by kernel_rfl) (by simp) ?_
         refine (AllReadyIn.cons rfl (fun K hK => ?_) AllReadyIn.nil)
         go_simp
         refine ⟨trivial, (fun h => by cases h), ?_⟩
         refine (callsIn_wide.2 (columnOf_at R1 C1 T1 G1 V1 _)).mono ?_
         rintro e w1 ⟨rfl, hb1⟩
         have D1 := Lib.hid (K0.out.drew.trans (hb1.mono (by have := K0.out.size; simpa using this)))
         have X1 := Lib.hid (One5.below (w := W0.drew) E0.out hb1)
         have T1' := Lib.hid (TimesAt.below (W := wr) TW.out D1.out)
         clear hb1 f0 f1 f2 f3 f4 h0 h1 h2 h3 h4
         simp only []
         refine hK _ _ ?_
         clear hK K
         have X1o := X1.out
         unfold One5 at X1o
         obtain ⟨f0, f1, f2, f3, f4⟩ := X1o
         have Y1o := T1'.out.col
         unfold One5 at Y1o
         obtain ⟨h0, h1, h2, h3, h4⟩ := Y1o
         refine wpAnyIn_take (i := 3) (v := .bool false) rfl rfl (by kernel_rfl) (by kernel_rfl) (by kernel_rfl) (fun _ _ _ h => h) ⟨Or.inl ⟨by rfl, ?hy⟩, fun _ => rfl⟩ ?_
         case hy => (intro w'; go_simp; exact fun q1 q2 => HNE.out ⟨q1, q2⟩)
         simp only [Act.put, List.setIfInBounds_toArray]
         refine wpAnyIn_take (i := 4) (v := ?_) rfl rfl (by kernel_rfl) (by kernel_rfl) (by kernel_rfl) (fun _ _ _ h => h) ⟨Or.inl ⟨by rfl, ?hy⟩, fun _ => rfl⟩ ?_
         case hy => (intro w'; go_simp <;> with_reducible rfl)
         simp only [Act.put]
         refine wpAnyIn_take (i := 5) (v := undef) rfl rfl (by kernel_rfl) (by kernel_rfl) (by kernel_rfl) (fun _ _ _ h => h) ⟨Or.inr ⟨by rfl, rfl⟩, fun _ => rfl⟩ ?_
         simp only [Act.put]
         refine wpAnyIn_take (i := 6) (v := undef) rfl rfl (by kernel_rfl) (by kernel_rfl) (by kernel_rfl) (fun _ _ _ h => h) ⟨Or.inr ⟨by rfl, rfl⟩, fun _ => rfl⟩ ?_
         simp only [Act.put]
         refine wpAnyIn_take (i := 7) (v := undef) rfl rfl (by kernel_rfl) (by kernel_rfl) (by kernel_rfl) (fun _ _ _ h => h) ⟨Or.inr ⟨by rfl, rfl⟩, fun _ => rfl⟩ ?_
         simp only [Act.put]
         refine wpAnyIn_take (i := 8) (v := undef) rfl rfl (by kernel_rfl) (by kernel_rfl) (by kernel_rfl) (fun _ _ _ h => h) ⟨Or.inr ⟨by rfl, rfl⟩, fun _ => rfl⟩ ?_
         simp only [Act.put]
         refine wpAnyIn_take (i := 9) (v := ?_) rfl rfl (by kernel_rfl) (by kernel_rfl) (by kernel_rfl) (fun _ _ _ h => h) ⟨Or.inl ⟨by rfl, ?hy⟩, fun _ => rfl⟩ ?_
         case hy => (intro w'; go_simp <;> with_reducible rfl)
         simp only [Act.put]
         refine wpAnyIn_done (by kernel_rfl) ?_ _
         clear f0 f1 f2 f3 f4 h0 h1 h2 h3 h4
         gi_wp2
         go_roundw
         case rel => exact ⟨i + 1, pre, by omega, by go_num, T1'.out, hJ _ _ _ none HJ.out (grown_of_below D1.out) (fun _ h => by cases h), HST.out⟩
         case measure => simp [intOf]; omega
   · gi_wp2
     go_end0
     refine ⟨⟨_, rfl⟩, .inl ⟨pre, ?_, HJ.out⟩⟩
     have := HST.out
     rw [List.drop_eq_nil_of_le (by rw [TW.out.row.1]; omega)] at this
     simpa using this
end Go.Proofs.YtkomnnijnggbpaaGreatDoor
