/- The laws' cells by numbers of a code: a right list. -/
import Derived.Test.YtkomnnijnggbpaaGreatDoorACell
import Derived.Test.YtkomnnijnggbpaaGreatDoorJoinS
import Derived.Test.YtkomnnijnggbpaaGreatDoorZ0
namespace Go.Proofs.YtkomnnijnggbpaaGreatDoor
open Go.RowKit
set_option linter.unusedVariables false

def GoodCels (most : Nat) (w : World) (e : Ending) (w' : World) : Prop := ∃ (v : Value) (xs : List Cel), e = .returned v ∧ OwnC w.heap.size w' v xs ∧ cellsOk xs = true ∧ xs.length ≤ most ∧ Below w.heap.size w w'
theorem block_of (w : World) (R C : ByteArray) (t : Int) (G : Bool) (V : ByteArray) : CelBlock (w.alloc (.cells #[.string R, .string C, .int .i64 t, .bool G, .string V] 41)) w.heap.size [⟨R, C, t, G, V⟩] := by
 unfold CelBlock
 exact alloc_at w _

set_option maxHeartbeats 4000000 in
set_option maxRecDepth 100000 in
theorem cells_at_of (m n : Nat) (hm : m ≤ 400) (hn : n ≤ 500) (a : Option Addr) (len cap : Nat) (zs : List Int) (w : World) (hr : Bytes w w.heap.size a len zs) (hl : len ≤ 1048576) :
   Calls Tryz.prog 23 #[.slice a len cap, .int .i64 m, .int .i64 n] w (GoodCels n w) := by
 have HR := Lib.hid hr
 clear hr
 have D0 := Lib.hid (show OwnC w.heap.size (w.alloc (.cells #[] 41)) (.slice (some ⟨w.heap.size, 0, none⟩) 0 0) [] from World.ownsRow_made w #[] 0 (Nat.le_refl _) (by unfold maxLen; omega) (by simp))
 have B0 := Lib.hid (one_below w (.cells #[] 41))
 go_enter Tryz.func23, Tryz.ntmps23
 go_wp2_with fail
 go_loopw [7, 8] (fun vv ii wr => ∃ (j : Nat) (xs : List Cel), j ≤ n ∧ ii = .int .i64 j ∧ xs.length ≤ j ∧ Hid (OwnC w.heap.size wr vv xs ∧ Below w.heap.size w wr ∧ cellsOk xs = true)) (fun _ ii _ => n - (intOf ii).toNat)
 case atStart => exact ⟨0, [], by omega, rfl, by simp, ⟨D0.out, B0.out, rfl⟩⟩
 case round =>
   obtain ⟨j, xs, hj, rfl, hxl, HX⟩ := hrel
   obtain ⟨ad, cp, hv⟩ := own_form HX.out.1
   rename_i v0 _
   subst hv
   have OX := Lib.hid HX.out.1
   have BX := Lib.hid HX.out.2.1
   have HOK := Lib.hid HX.out.2.2
   clear HX
   by_cases hlt : j < n
   · have i1 : (j : Int) < (n : Int) := by omega
     have Q := Lib.hid (show (m : Int) + (j : Int) = ((m + j : Nat) : Int) by omega)
     have HR1 := Lib.hid (below_bytes HR.out BX.out)
     go_wp2_with fail
     rw [Q.out]
     refine (aCell_any (m + j) (by omega) a len cap zs _ HR1.out hl).mono ?_
     rintro e w2 ⟨R, C, t, G, V, hok, hR40, hC40, hV40, rfl, b2⟩
     have HF1 := Lib.hid (fit_ok (cells_one hok))
     have HO1 := Lib.hid (cells_one hok)
     have O2 := Lib.hid (OX.out.below b2)
     have B2 := Lib.hid (BX.out.trans (b2.mono BX.out.size))
     have N3 := Lib.hid (block_of w2 R C t G V)
     have O3 := Lib.hid (O2.out.new (.cells #[.string R, .string C, .int .i64 t, .bool G, .string V] 41))
     have B3 := Lib.hid (B2.out.trans ((one_below w2 (.cells #[.string R, .string C, .int .i64 t, .bool G, .string V] 41)).mono B2.out.size))
     clear b2 hok
     go_wp2_with fail
     refine (specJoin _ 1 1 [⟨R, C, t, G, V⟩] ad xs.length cp xs (by omega) (by omega) HF1.out (fit_ok HOK.out) _ (N3.out.row rfl) O3.out.row).mono ?_
     rw [join_yes HO1.out HOK.out]
     rintro e w4 ⟨v4, rfl, o4, b4⟩
     have O4 := Lib.hid (own_base o4 B3.out.size)
     have B4 := Lib.hid (B3.out.trans (b4.mono B3.out.size))
     have H4 := Lib.hid (merge_ok HO1.out HOK.out)
     have hl4 := merge_len [⟨R, C, t, G, V⟩] xs
     clear o4 b4
     go_wp2_with fail
     go_roundw
     case rel => exact ⟨j + 1, mergeC [⟨R, C, t, G, V⟩] xs, by omega, by go_num, by simp only [List.length_singleton] at hl4; omega, ⟨O4.out, B4.out, H4.out⟩⟩
     case measure => simp [intOf]; omega
   · go_wp2
     go_ret
     exact ⟨_, xs, rfl, OX.out, HOK.out, by omega, BX.out⟩
end Go.Proofs.YtkomnnijnggbpaaGreatDoor
