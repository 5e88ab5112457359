/- The model's Newest. -/
import Derived.Test.YtkomnnijnggbpaaGreatDoorZ4
import Derived.Test.YtkomnnijnggbpaaGreatDoorCellsOkS
namespace Go.Proofs.YtkomnnijnggbpaaGreatDoor
open Go.RowKit
set_option linter.unusedVariables false

theorem not_fits {R C R1 C1 : ByteArray} {t T1 : Int} {G1 : Bool} {V1 : ByteArray} (h : ¬ (R1.data.toList = R.data.toList ∧ C1.data.toList = C.data.toList ∧ T1 ≤ t)) : fits R.data.toList C.data.toList t ⟨R1, C1, T1, G1, V1⟩ = false := by
 rw [Bool.eq_false_iff]
 intro hf
 exact h (fits_parts hf)
theorem is_fits {R C R1 C1 : ByteArray} {t T1 : Int} {G1 : Bool} {V1 : ByteArray} (h1 : R1.data.toList = R.data.toList) (h2 : C1.data.toList = C.data.toList) (h3 : T1 ≤ t) : fits R.data.toList C.data.toList t ⟨R1, C1, T1, G1, V1⟩ = true := by
 simp [fits, h1, h2, h3]
structure Out1 (w W : World) : Prop where
 below : Below w.heap.size w W
 out : W.heap[w.heap.size]? = some (.cells #[.string ⟨#[]⟩, .string ⟨#[]⟩, .int .i64 0, .bool false, .string ⟨#[]⟩] 41 (0, 0))
theorem Out1.later {w W W' : World} (h : Out1 w W) (hb : Below W.heap.size W W') : Out1 w W' := ⟨h.below.trans (hb.mono h.below.size), (hb.block _ (Array.getElem?_eq_some_iff.1 h.out).1).trans h.out⟩
theorem out1_new (w : World) : Out1 w (w.alloc (.cells #[.string ⟨#[]⟩, .string ⟨#[]⟩, .int .i64 0, .bool false, .string ⟨#[]⟩] 41)) := ⟨one_below w _, alloc_at w _⟩

set_option maxRecDepth 100000 in
set_option maxHeartbeats 4000000 in
theorem specNewest (a : Option Addr) (m c : Nat) (xs : List Cel) (R C : ByteArray) (t : Int) (hm : m ≤ 1048576) (hf : Fit xs) (w : World) (h : CelRow w a m c xs) :
   Calls Tryz.prog 73 #[.slice a m c, .string R, .string C, .int .i64 t] w (NewOut w (newest xs R.data.toList C.data.toList t)) := by
 have HR := Lib.hid h
 have HF := Lib.hid hf
 have hmc := h.2.1
 obtain ⟨b, hb⟩ : ∃ b, cellsOk xs = b := ⟨_, rfl⟩
 have HB := Lib.hid hb
 have O0 := Lib.hid (out1_new w)
 clear hb h hf
 go_enter Tryz.func73, Tryz.ntmps73
 go_wp2_with fail
 go_loopw [10] (fun ii wr => ∃ i : Nat, i ≤ m ∧ ii = .int .i64 i ∧ Out1 w wr ∧ Hid (∀ (j : Nat) (y : Cel), j < i → xs[j]? = some y → fits R.data.toList C.data.toList t y = false)) (fun ii _ => m - (intOf ii).toNat)
 case atStart => exact ⟨0, Nat.zero_le _, rfl, O0.out, fun j y hj => absurd hj (by omega)⟩
 case round =>
   obtain ⟨i, hi, rfl, ho, HJ⟩ := hrel
   have OO := Lib.hid ho
   clear ho
   by_cases hlt : i < m
   · obtain ⟨⟨R1, C1, T1, G1, V1⟩, hy⟩ : ∃ y, xs[i]? = some y := ⟨_, List.getElem?_eq_getElem (by rw [HR.out.1]; exact hlt)⟩
     have HY := Lib.hid hy
     have i1 : (i : Int) < (m : Int) := by omega
     have RW := Lib.hid (HR.out.below OO.out.below)
     clear hy
     go_wp2_with fail
     refine (specCellsOk a m c xs hm HF.out _ RW.out).mono ?_
     rw [HB.out]
     rintro e w1 ⟨rfl, hb1⟩
     have O1 := Lib.hid (OO.out.later hb1)
     have R1' := Lib.hid (RW.out.below hb1)
     clear hb1
     obtain ⟨o5, z0, z1, z2, z3, z4⟩ := blk5 O1.out.out
     unfold One5 at o5
     obtain ⟨b0, b1, b2, b3, b4⟩ := o5
     cases b
     · have HN := Lib.hid (show newest xs R.data.toList C.data.toList t = none by unfold newest; rw [HB.out]; rfl)
       go_wp2_with fail
       refine bodyPost_ret (v := .tuple #[.agg #[.string ⟨#[]⟩, .string ⟨#[]⟩, .int .i64 0, .bool false, .string ⟨#[]⟩], .bool false]) (res_cell_bool Tryz.results73 _ _ w.heap.size _ _ _ _ rfl rfl (set5 O1.out.out _ _ _ _ _) Tryz.underlying41 rfl (by rw [sizeCel]; rfl)) rfl ?_
       rw [HN.out]
       exact ⟨rfl, set5_below O1.out.below (Nat.le_refl _) _ _ _ _ _⟩
     · obtain ⟨g, rfl, k5⟩ := R1'.out.2.2 i _ HY.out
       unfold Cel5 at k5
       obtain ⟨c0, c1, c2, c3, c4⟩ := k5
       have ROUND : ¬ (R1.data.toList = R.data.toList ∧ C1.data.toList = C.data.toList ∧ T1 ≤ t) → ∀ (j : Nat) (y : Cel), j < i + 1 → xs[j]? = some y → fits R.data.toList C.data.toList t y = false := by
         intro hn j y hj hy
         by_cases hj2 : j < i
         · exact HJ.out j y hj2 hy
         · obtain rfl : j = i := by omega
           have := HY.out
           rw [hy] at this
           cases this
           exact not_fits hn
       have RND := Lib.hid ROUND
       clear ROUND
       by_cases q1 : R1.data.toList = R.data.toList
       · have e1 := list_same R1 R q1
         by_cases q2 : C1.data.toList = C.data.toList
         · have e2 := list_same C1 C q2
           by_cases q3 : T1 ≤ t
           · have HN := Lib.hid (show newest xs R.data.toList C.data.toList t = some ⟨R1, C1, T1, G1, V1⟩ by unfold newest; rw [HB.out]; exact find_at HY.out (is_fits q1 q2 q3) HJ.out)
             clear q1 q2
             go_wp2_with fail
             refine bodyPost_ret (v := .tuple #[.agg #[.string R1, .string C1, .int .i64 T1, .bool G1, .string V1], .bool true]) (res_cell_bool Tryz.results73 _ _ w.heap.size _ _ _ _ rfl rfl (set5 O1.out.out _ _ _ _ _) Tryz.underlying41 rfl (by rw [sizeCel]; rfl)) rfl ?_
             rw [HN.out]
             exact ⟨rfl, set5_below O1.out.below (Nat.le_refl _) _ _ _ _ _⟩
           · have HX := Lib.hid (RND.out (fun h => q3 h.2.2))
             clear q1 q2
             go_wp2
             go_roundw
             case rel => exact ⟨i + 1, by omega, by go_num, O1.out, HX.out⟩
             case measure => simp [intOf]; omega
         · have e2 := list_other C1 C q2
           have HX := Lib.hid (RND.out (fun h => q2 h.2.1))
           clear q1 q2
           go_wp2
           go_roundw
           case rel => exact ⟨i + 1, by omega, by go_num, O1.out, HX.out⟩
           case measure => simp [intOf]; omega
       · have e1 := list_other R1 R q1
         have HX := Lib.hid (RND.out (fun h => q1 h.1))
         clear q1
         go_wp2
         go_roundw
         case rel => exact ⟨i + 1, by omega, by go_num, O1.out, HX.out⟩
         case measure => simp [intOf]; omega
   · obtain rfl : i = m := by omega
     have HN := Lib.hid (show newest xs R.data.toList C.data.toList t = none by
       unfold newest
       cases hc : cellsOk xs
       · rfl
       · exact find_no (fun j y hy => HJ.out j y (by have := (List.getElem?_eq_some_iff.1 hy).1; rw [HR.out.1] at this; exact this) hy))
     obtain ⟨o5, z0, z1, z2, z3, z4⟩ := blk5 OO.out.out
     unfold One5 at o5
     obtain ⟨b0, b1, b2, b3, b4⟩ := o5
     go_wp2_with fail
     refine bodyPost_ret (v := .tuple #[.agg #[.string ⟨#[]⟩, .string ⟨#[]⟩, .int .i64 0, .bool false, .string ⟨#[]⟩], .bool false]) (res_cell_bool Tryz.results73 _ _ w.heap.size _ _ _ _ rfl rfl (set5 OO.out.out _ _ _ _ _) Tryz.underlying41 rfl (by rw [sizeCel]; rfl)) rfl ?_
     rw [HN.out]
     exact ⟨rfl, set5_below OO.out.below (Nat.le_refl _) _ _ _ _ _⟩
end Go.Proofs.YtkomnnijnggbpaaGreatDoor
/- The form of what Newest answers. -/
namespace Go.Proofs.YtkomnnijnggbpaaGreatDoor
open Go.RowKit
theorem new_form {w w' : World} {r : Option Cel} {R C : ByteArray} {T : Int} {G : Bool} {V : ByteArray} (h : r.getD zeroC = ⟨R, C, T, G, V⟩) (hb : Below w.heap.size w w') : NewOut w r (.returned (.tuple #[.agg #[.string R, .string C, .int .i64 T, .bool G, .string V], .bool r.isSome])) w' := by
 cases r with
 | none =>
   have h' : zeroC = ⟨R, C, T, G, V⟩ := h
   refine ⟨?_, hb⟩
   show _ = Ending.returned (.tuple #[celVal zeroC, .bool false])
   rw [h']
   rfl
 | some x =>
   have h' : x = ⟨R, C, T, G, V⟩ := h
   subst h'
   exact ⟨rfl, hb⟩
theorem NewOut.form {w w' : World} {r : Option Cel} {e : Ending} (h : NewOut w r e w') : ∃ (R C : ByteArray) (T : Int) (G : Bool) (V : ByteArray), r.getD zeroC = ⟨R, C, T, G, V⟩ ∧ e = .returned (.tuple #[.agg #[.string R, .string C, .int .i64 T, .bool G, .string V], .bool r.isSome]) ∧ Below w.heap.size w w' := by
 cases r with
 | none => exact ⟨_, _, _, _, _, rfl, h.1, h.2⟩
 | some x => exact ⟨x.row, x.col, x.time, x.gone, x.value, rfl, h.1, h.2⟩
end Go.Proofs.YtkomnnijnggbpaaGreatDoor
