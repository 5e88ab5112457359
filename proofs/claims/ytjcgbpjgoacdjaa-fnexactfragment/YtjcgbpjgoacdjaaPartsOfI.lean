/- The program's iterator over the parts of a record: their kinds and their texts. -/
import Derived.RangeFuncNested
import Derived.RangeFuncBound
import Derived.RangeFuncCalls
import Derived.RangeFuncLeaves
import Derived.RangeFuncBox
import Derived.Shelf.Abstract
import Derived.Shelf.RegionOpen
import Derived.WalkKit
import Derived.OwnWalkIn
import Derived.TacticsInMore
import Derived.LoopNIn
import Derived.LoopIn
import Derived.Deep.CutRange
import Derived.Test.YtjcgbpjgoacdjaaFragI
namespace Go.Proofs.Ytjcgbpjgoacdjaa
open Go.RowKit Go.Shelf
set_option linter.unusedVariables false
attribute [local go_sem] Oper.semAt_some

def partsB (room : Nat) (first : Bool) (r : List UInt8) : List (Nat × List UInt8) :=
 if r.length ≤ room then [(if first then 1 else 4, r)]
 else (if first then 2 else 3, r.take room) :: partsB 57 false (r.drop room)
termination_by 2 * r.length + (if room = 0 then 1 else 0)
decreasing_by
 rename_i h
 rw [List.length_drop]
 by_cases h0 : room = 0
 · simp [h0]
 · simp only [h0, if_false]
   omega
theorem partsB_fits {room : Nat} {first : Bool} {r : List UInt8} (h : r.length ≤ room) : partsB room first r = [(if first then 1 else 4, r)] := by rw [partsB, if_pos h]
theorem partsB_more {room : Nat} {first : Bool} {r : List UInt8} (h : ¬ r.length ≤ room) : partsB room first r = (if first then 2 else 3, r.take room) :: partsB 57 false (r.drop room) := by
 rw [partsB, if_neg h]
def fragsOf (l : List (Nat × List UInt8)) : List UInt8 := l.flatMap (fun p => fragB p.1 p.2)
theorem putRec_parts (n : Nat) (first : Bool) (r : List UInt8) : putRec n first r = List.replicate (padAt n) 0 ++ fragsOf (partsB (roomAt n) first r) := by
 induction n, first, r using putRec.induct with
 | case1 n first r h =>
   rw [putRec_fits h, partsB_fits h]
   simp [fragsOf]
 | case2 n first r h ih =>
   have hz := room_zero (piece_end n)
   rw [hz.1, hz.2] at ih
   rw [putRec_more h, partsB_more h, ih]
   simp [fragsOf]
structure Prt where
 kind : Nat
 text : ByteArray
 ok : 1 ≤ kind ∧ kind ≤ 4 ∧ text.size ≤ 57
def prts (l : List Prt) : List (Nat × List UInt8) := l.map (fun x => (x.kind, x.text.data.toList))
theorem prts_snoc (l : List Prt) (x : Prt) : prts (l ++ [x]) = prts l ++ [(x.kind, x.text.data.toList)] := by unfold prts; simp
theorem frags_snoc (l : List (Nat × List UInt8)) (x : Nat × List UInt8) : fragsOf (l ++ [x]) = fragsOf l ++ fragB x.1 x.2 := by unfold fragsOf; simp
theorem frags_len (l : List Prt) : (fragsOf (prts l)).length ≤ 64 * l.length := by
 induction l with
 | nil => simp [prts, fragsOf]
 | cons x l ih =>
   have h : fragsOf (prts (x :: l)) = fragB x.kind x.text.data.toList ++ fragsOf (prts l) := by simp [prts, fragsOf]
   have h2 := x.ok.2.2
   have h3 : x.text.data.toList.length = x.text.size := by simp
   rw [h, List.length_append, frag_len, List.length_cons]
   omega

theorem partsOf_at (n : Nat) (s : ByteArray) (b : Int) (w : World) :
   CallsIn Fence.wide n Try.prog 65 #[.string s, .int .i64 b] w fun e w' => e = .returned (.func (.func 75) #[] #[.pointer (some ⟨w.heap.size, 0, none⟩), .pointer (some ⟨w.heap.size + 1, 0, none⟩)]) ∧
     w' = (w.alloc (.cells #[.string s] 9)).alloc (.cells #[.int .i64 b] 3) := by
 refine callsIn_wide.2 ?_
 go_enter Try.func65, Try.ntmps65
 go_wp2
 go_ret
 exact ⟨rfl, rfl⟩

def KeepBx (A B : Nat) (W W' : World) : Prop := W'.heap[A]? = W.heap[A]? ∧ W'.heap[B]? = W.heap[B]?
theorem KeepBx.trans {A B : Nat} {X Y Z : World} (h : KeepBx A B X Y) (k : KeepBx A B Y Z) : KeepBx A B X Z := ⟨k.1.trans h.1, k.2.trans h.2⟩
theorem keepBx_put {A B : Nat} {w : World} (hA : A < w.heap.size) (hB : B < w.heap.size) : ∀ (W : World) (l : Nat) (o o' : Obj), w.heap.size ≤ l → W.heap[l]? = some o → o.isCells = false → o.isWalk = false → KeepBx A B W (W.putObj l o') :=
 fun W l o o' hl _ _ _ => ⟨World.putObj_heap_other (by omega), World.putObj_heap_other (by omega)⟩

theorem take_of_extract0 (s : ByteArray) (n : Nat) : (s.extract 0 n).data.toList = s.data.toList.take n := by
 simp only [ByteArray.data_extract, Array.toList_extract, List.extract_eq_take_drop]
 simp
theorem rest_of_extract0 (s : ByteArray) (a : Nat) : (s.extract a s.size).data.toList = s.data.toList.drop a := by
 simp only [ByteArray.data_extract, Array.toList_extract, List.extract_eq_take_drop]
 refine List.take_of_length_le ?_
 rw [List.length_drop]
 have : s.data.toList.length = s.size := by simp
 omega
def partM (a rm : Nat) : Nat := 2 * a + (if rm = 0 then 1 else 0)
set_option maxRecDepth 100000 in
set_option maxHeartbeats 2000000 in
theorem parts_in (n l Bs Bn : Nat) (s : ByteArray) (b room : Nat) (hb : b ≤ 3000000000000000) (hr : leftAt b = room + 7) (hr57 : room ≤ 57) (hs : s.size ≤ 300) (J Jx : List Prt → World → Prop) (hJ : ∀ pre W m, J pre W → J pre (W.drewN m))
   (hY : ∀ pre (x : Prt) W, J pre W → pre.length < 310 → YieldAt Fence.wide (n - 1) Try.prog l #[.int .i64 x.kind, .string x.text] W fun e W' =>
     (e = .returned (.bool true) ∧ J (pre ++ [x]) W' ∧ KeepBx Bs Bn W W') ∨ (e = .returned (.bool false) ∧ Jx (pre ++ [x]) W'))
   (W : World) (hk : Boxed W Bs 9 (.string s)) (hbx : Boxed W Bn 3 (.int .i64 b)) (h0 : J [] W) :
   CallsIn Fence.wide n Try.prog 75 #[.func (.yield l) #[] #[], .pointer (some ⟨Bs, 0, none⟩), .pointer (some ⟨Bn, 0, none⟩)] W fun e W' => (∃ v, e = .returned v) ∧
     ((∃ ys, prts ys = partsB room true s.data.toList ∧ J ys W') ∨ (∃ pre, True ∧ Jx pre W')) := by
 have ck := hk.cell
 have cb := hbx.cell
 have HY := Lib.hid hY
 have H0 := Lib.hid (fun m => hJ _ _ m h0)
 have hri : (room : Int) + 7 - 7 = (room : Int) := by omega
 have HLA := Lib.hid (show ∀ W' : World, Calls Try.prog 68 #[.int .i64 b] W' fun e w' => e = .returned (.int .i64 ((room : Int) + 7)) ∧ w' = W' from fun W' => by rw [show (room : Int) + 7 = ((room + 7 : Nat) : Int) by omega, ← hr]; exact leftAt_at b (by omega) W')
 clear hY h0
 refine callsIn_of_wp Try.func75 rfl trivial ?_ rfl
 simp only [Try.ntmps75, List.size_toArray, List.length_cons, List.length_nil, Nat.reduceAdd, Nat.reduceSub, Array.replicate_succ, Array.replicate_zero, List.push_toArray, List.append_toArray, List.nil_append, List.cons_append]
 gi_wp2
 refine wpIn_wide.2 ?_
 go_quiet ((go_at_call 68; exact Calls.quiet_of_same (HLA.out _)))
 gi_wp2
 gi_loopw [4, 5, 6, 7] (fun v4 v5 v6 v7 wr => ∃ (R : ByteArray) (rm k2 k1 : Nat), v4 = .string R ∧ v5 = .int .i64 rm ∧ v6 = .int .i64 k2 ∧ v7 = .int .i64 k1 ∧ R.size ≤ 300 ∧ rm ≤ 57 ∧
     Hid (∃ (fst : Bool) (pre : List Prt), Boxed wr Bs 9 (.string s) ∧ Boxed wr Bn 3 (.int .i64 b) ∧ J pre wr ∧ prts pre ++ partsB rm fst R.data.toList = partsB room true s.data.toList ∧ ((fst = true ∧ k2 = 2 ∧ k1 = 1 ∧ pre.length = 0) ∨ (fst = false ∧ k2 = 3 ∧ k1 = 4 ∧ rm = 57 ∧ pre.length + R.size ≤ 301))))
   (fun v4 v5 _ _ _ => match v4 with | .string R => partM R.size (intOf v5).toNat | _ => 0)
 case atStart => exact ⟨s, room, 2, 1, rfl, by first | rfl | rw [hri], rfl, rfl, hs, hr57, true, [], hk, hbx, H0.out _, rfl, .inl ⟨rfl, rfl, rfl, rfl⟩⟩
 case round =>
   obtain ⟨R, rm, k2, k1, rfl, rfl, rfl, rfl, hR3, hrm, ⟨fst, pre, bs, bn, hJ1, hX⟩⟩ := hrel
   have HX := Lib.hid hX
   have HB := Lib.hid (And.intro bs bn)
   have HJ1 := Lib.hid hJ1
   have HPL := Lib.hid (show pre.length ≤ 301 by rcases HX.out.2 with h | h <;> omega)
   have HRL := Lib.hid (show R.data.toList.length = R.size by simp)
   clear ck cb hJ1 bs bn hX
   by_cases hfit : R.size ≤ rm
   · have hfi : ¬ (rm : Int) < (R.size : Int) := by omega
     have hok : 1 ≤ k1 ∧ k1 ≤ 4 ∧ R.size ≤ 57 := by rcases HX.out.2 with h | h <;> omega
     obtain ⟨fn, tmps, assign, body, hy, hR⟩ := HY.out pre ⟨k1, R, hok⟩ wr HJ1.out (by have := HPL.out; omega)
     have HEN := Lib.hid (show prts (pre ++ [(⟨k1, R, hok⟩ : Prt)]) = partsB room true s.data.toList by
       rw [prts_snoc, ← HX.out.1, partsB_fits (by rw [HRL.out]; exact hfit)]
       rcases HX.out.2 with ⟨rfl, _, rfl, _⟩ | ⟨rfl, _, rfl, _⟩ <;> rfl)
     gi_wp2_with fail
     refine ⟨(fun h => by cases h), hR.mono ?_⟩
     rintro e W3 (⟨rfl, hJ3, hk3⟩ | ⟨rfl, hJx3⟩)
     · have HJ3 := Lib.hid hJ3
       clear hJ3 hk3 hy hR
       gi_wp2
       go_end0
       exact ⟨⟨_, rfl⟩, .inl ⟨_, HEN.out, HJ3.out⟩⟩
     · have HXX := Lib.hid hJx3
       clear hJx3 hy hR
       gi_wp2
       go_end0
       exact ⟨⟨_, rfl⟩, .inr ⟨_, trivial, HXX.out⟩⟩
   · have hfi : (rm : Int) < (R.size : Int) := by omega
     have j0 : (0 : Int) ≤ (rm : Int) := by omega
     have j1 : (rm : Int) ≤ (R.size : Int) := by omega
     obtain ⟨A, hA⟩ : ∃ X, R.extract 0 rm = X := ⟨_, rfl⟩
     obtain ⟨D, hD⟩ : ∃ X, R.extract rm R.size = X := ⟨_, rfl⟩
     have hAd : A.data.toList = R.data.toList.take rm := by rw [← hA]; exact take_of_extract0 R rm
     have hDd : D.data.toList = R.data.toList.drop rm := by rw [← hD]; exact rest_of_extract0 R rm
     have hAs : A.size = rm := by rw [← hA, ByteArray.size_extract]; omega
     have hDs : D.size = R.size - rm := by rw [← hD, ByteArray.size_extract]; omega
     have HA := Lib.hid hA
     have HD := Lib.hid hD
     have hok : 1 ≤ k2 ∧ k2 ≤ 4 ∧ A.size ≤ 57 := by rcases HX.out.2 with h | h <;> omega
     have HEN := Lib.hid (show prts (pre ++ [(⟨k2, A, hok⟩ : Prt)]) ++ partsB 57 false D.data.toList = partsB room true s.data.toList by
       rw [prts_snoc, ← HX.out.1, show partsB rm fst R.data.toList = _ from partsB_more (by rw [HRL.out]; exact hfit), hAd, hDd, List.append_assoc]
       rcases HX.out.2 with ⟨rfl, rfl, _⟩ | ⟨rfl, rfl, _⟩ <;> rfl)
     have HLN := Lib.hid (show (pre ++ [(⟨k2, A, hok⟩ : Prt)]).length + D.size ≤ 301 by
       rw [List.length_append, List.length_singleton]
       rcases HX.out.2 with h | h <;> omega)
     have HMS := Lib.hid (show partM D.size 57 < partM R.size rm by unfold partM; split <;> split <;> omega)
     obtain ⟨fn, tmps, assign, body, hy, hR⟩ := HY.out pre ⟨k2, A, hok⟩ wr HJ1.out (by have := HPL.out; omega)
     have hDle : D.size ≤ 300 := by omega
     clear hA hD hAd hDd hAs hDs
     change (Instr.yield l #[.int .i64 k2, .string A]).run Try.prog wr = _ at hy
     rw [← HA.out] at hy
     gi_wp2_with fail
     refine ⟨(fun h => by cases h), hR.mono ?_⟩
     rintro e W3 (⟨rfl, hJ3, hk3⟩ | ⟨rfl, hJx3⟩)
     · have bs3 : Boxed W3 Bs 9 (.string s) := hk3.1.trans HB.out.1
       have bn3 : Boxed W3 Bn 3 (.int .i64 b) := hk3.2.trans HB.out.2
       have HJ3 := Lib.hid hJ3
       clear hJ3 hk3 hy hR
       gi_wp2
       go_roundw
       case rel => exact ⟨D, 57, 3, 4, by rw [HD.out], rfl, rfl, rfl, hDle, by omega, false, _, bs3, bn3, HJ3.out, HEN.out, .inr ⟨rfl, rfl, rfl, rfl, HLN.out⟩⟩
       case measure =>
         simp only [HD.out]
         simpa [intOf] using HMS.out
     · have HXX := Lib.hid hJx3
       clear hJx3 hy hR
       gi_wp2
       refine bodyPost_ret (results_none rfl _ _ _) rfl ?_
       exact ⟨⟨_, rfl⟩, .inr ⟨_, trivial, HXX.out⟩⟩
theorem parts_stops (n Bs Bn : Nat) (s : ByteArray) (b room : Nat) (hb : b ≤ 3000000000000000) (hr : leftAt b = room + 7) (hs : s.size ≤ 300) (w : World) (hk : Boxed w Bs 9 (.string s)) (hbx : Boxed w Bn 3 (.int .i64 b)) :
   SeqStopsK Fence.wide n Try.prog 75 #[.pointer (some ⟨Bs, 0, none⟩), .pointer (some ⟨Bn, 0, none⟩)] (fun x : Prt => #[Value.int .i64 x.kind, .string x.text]) (KeepBx Bs Bn)
     (fun ys => prts ys = partsB room true s.data.toList) (fun _ => True) 310 w := fun l J Jx W hW hJ _ hY h0 =>
 parts_in n l Bs Bn s b room hb hr (by unfold leftAt at hr; omega) hs J Jx (fun pre X m h => hJ _ _ _ none h (grown_drewN X m none) (fun _ h => by cases h)) hY W ((hW.block Bs hk.lt).trans hk) ((hW.block Bn hbx.lt).trans hbx) h0
end Go.Proofs.Ytjcgbpjgoacdjaa
