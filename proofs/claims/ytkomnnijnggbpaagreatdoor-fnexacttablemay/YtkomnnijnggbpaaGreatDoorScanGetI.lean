/- The program's TableGet and TableMay. -/
import Derived.Test.YtkomnnijnggbpaaGreatDoorGetTabI
import Derived.Test.YtkomnnijnggbpaaGreatDoorGetScanS
import Derived.Test.YtkomnnijnggbpaaGreatDoorMayTabS
import Derived.Test.YtkomnnijnggbpaaGreatDoorMayI
import Derived.Test.YtkomnnijnggbpaaGreatDoorZ4
namespace Go.Proofs.YtkomnnijnggbpaaGreatDoor
open Go.RowKit
set_option linter.unusedVariables false

set_option maxHeartbeats 2000000 in
set_option maxRecDepth 100000 in
theorem implTableGet (s R C : ByteArray) (t : Int) (hs : s.size ≤ 1048576) (xs : List Cel) (c : Conf) (k : Nat) (hT : Tab s.data.toList xs c k) (w : World) (hL : ErrLaid w) :
   Calls Tryz.prog 27 #[.string s, .string R, .string C, .int .i64 t] w (NewOut w (newest xs R.data.toList C.data.toList t)) := by
 have HT := Lib.hid hT
 clear hT
 have O0 := Lib.hid (out1_new w)
 go_enter Tryz.func27, Tryz.ntmps27
 go_wp2_with fail
 refine (implGetTable s hs _ (hL.below (one_below w _) hL.lt)).mono ?_
 rintro e w1 ⟨v, xs', c', k', rfl, hT', o1, b1⟩
 obtain ⟨rfl, rfl, rfl⟩ := tab_one HT.out hT'
 obtain ⟨ad, cp, hv, _, hlc⟩ := own_parts o1
 subst hv
 obtain ⟨ev, sz, pk⟩ := c
 have hx60 := (tab_few HT.out).1
 have O1 := Lib.hid (o1.new (.cells #[.int .i64 ev, .int .i64 sz, .bool pk] 26))
 have X1 := Lib.hid ((O0.out.later b1).later (one_below w1 (.cells #[.int .i64 ev, .int .i64 sz, .bool pk] 26)))
 unfold confV
 clear o1 b1 hT'
 obtain ⟨r, hr⟩ : ∃ r, newest xs R.data.toList C.data.toList t = r := ⟨_, rfl⟩
 have HR := Lib.hid hr
 rw [hr]
 clear hr
 go_wp2_with fail
 refine (implNewest ad xs.length cp xs R C t (by omega) (tab_fit HT.out) _ O1.out.row).mono ?_
 rw [HR.out]
 intro e w2 h2
 obtain ⟨R1, C1, T1, G1, V1, hrr, rfl, b2⟩ := h2.form
 have X2 := Lib.hid (X1.out.later b2)
 have HRR := Lib.hid hrr
 obtain ⟨y5, z0, z1, z2, z3, z4⟩ := blk5 X2.out.out
 unfold One5 at y5
 obtain ⟨y0, y1, y2, y3, y4⟩ := y5
 clear b2 h2 hrr
 go_wp2_with fail
 refine bodyPost_ret (v := .tuple #[.agg #[.string R1, .string C1, .int .i64 T1, .bool G1, .string V1], .bool r.isSome]) (res_cell_bool Tryz.results27 _ _ w.heap.size _ _ _ _ rfl rfl (set5 X2.out.out _ _ _ _ _) Tryz.underlying41 rfl (by rw [sizeCel]; rfl)) rfl ?_
 rw [HR.out]
 exact new_form HRR.out (set5_below X2.out.below (Nat.le_refl _) _ _ _ _ _)

theorem implColumnKey2 (R C : ByteArray) (hR : R.size ≤ 1048576) (hC : C.size ≤ 1048576) (w : World) :
   Calls Tryz.prog 75 #[.string R, .string C] w fun e w' => e = .returned (.string ((R ++ ⟨#[0]⟩) ++ C)) ∧ w' = w := by
 have q1 : ¬ 9223372036854775807 < R.size + 1 := by omega
 have q2 : ¬ 9223372036854775807 < R.size + 1 + C.size := by omega
 go_enter Tryz.func75, Tryz.ntmps75
 go_wp2
 go_ret
 exact ⟨rfl, rfl⟩
set_option maxHeartbeats 2000000 in
set_option maxRecDepth 100000 in
theorem implTableMay (s R C : ByteArray) (hs : s.size ≤ 1048576) (hR : R.size ≤ 1048576) (hC : C.size ≤ 1048576) (xs : List Cel) (c : Conf) (k : Nat) (hT : Tab s.data.toList xs c k) (w : World) (hL : ErrLaid w) :
   Calls Tryz.prog 30 #[.string s, .string R, .string C] w fun e w' => e = .returned (.bool (tabMay xs k R.data.toList C.data.toList)) ∧ Below w.heap.size w w' := by
 have HT := Lib.hid hT
 have hk2 := tab_code hT
 clear hT
 go_enter Tryz.func30, Tryz.ntmps30
 go_wp2_with fail
 refine (implGetTable s hs _ hL).mono ?_
 rintro e w1 ⟨v, xs', c', k', rfl, hT', o1, b1⟩
 obtain ⟨rfl, rfl, rfl⟩ := tab_one HT.out hT'
 obtain ⟨ad, cp, hv, _, hlc⟩ := own_parts o1
 subst hv
 obtain ⟨ev, sz, pk⟩ := c
 have O1 := Lib.hid (o1.new (.cells #[.int .i64 ev, .int .i64 sz, .bool pk] 26))
 have B1 := Lib.hid (b1.alloc b1.size (.cells #[.int .i64 ev, .int .i64 sz, .bool pk] 26))
 unfold confV
 clear o1 b1 hT'
 by_cases hk : k = 0
 · subst hk
   obtain ⟨m, hm⟩ : ∃ m, mayHave (filterB (xs.map nameKey)) (R.data.toList ++ 0 :: C.data.toList) = m := ⟨_, rfl⟩
   have HM := Lib.hid hm
   have HB := Lib.hid (show tabMay xs 0 R.data.toList C.data.toList = m by unfold tabMay; rw [hm]; simp)
   obtain ⟨FL, hFL, hFLl⟩ := text_of (filterB (xs.map nameKey))
   have hx60 := (tab_few HT.out).1
   have hFs : FL.size ≤ 1048576 := by
     rw [hFLl, filter_len (by rw [List.length_map]; omega)]
     have := fsize_le (n := (xs.map nameKey).length) (by rw [List.length_map]; omega)
     omega
   have HFL := Lib.hid (as_text hFL)
   have HFF := Lib.hid hFL
   have HOK := Lib.hid (tab_few HT.out).2
   clear hm hFL hFLl
   go_wp2_with fail
   refine (implColumnFilter ad xs.length cp xs hx60 HOK.out _ O1.out.row.o).mono ?_
   rintro r w5 ⟨rfl, b5⟩
   rw [HFL.out]
   have L5 := Lib.hid (B1.out.trans (b5.mono B1.out.size))
   clear b5
   go_wp2_with fail
   refine (implColumnKey2 R C hR hC _).mono ?_
   rintro r w6 ⟨rfl, rfl⟩
   go_wp2_with fail
   refine (implMayHave FL _ _ hFs ?_).mono ?_
   · rw [ByteArray.size_append, ByteArray.size_append]
     unfold maxLen
     have e1 : (⟨#[0]⟩ : ByteArray).size = 1 := rfl
     omega
   rw [HFF.out]
   simp only [ByteArray.data_append, Array.toList_append, List.append_assoc, List.cons_append, List.nil_append]
   rw [HM.out]
   rintro r w7 ⟨rfl, b7⟩
   have L7 := Lib.hid (L5.out.trans (b7.mono L5.out.size))
   clear b7
   go_wp2
   go_ret
   exact ⟨by rw [HB.out]; rfl, L7.out⟩
 · have hk' : ¬ (k : Int) = 0 := by omega
   have HB := Lib.hid (show tabMay xs k R.data.toList C.data.toList = false by unfold tabMay; simp [hk])
   go_wp2
   go_ret
   exact ⟨by rw [HB.out]; rfl, B1.out⟩
end Go.Proofs.YtkomnnijnggbpaaGreatDoor
