/- The laws' helpers over cells: a copy, and how much is left of a bound. -/
import Derived.Test.YtkomnnijnggbpaaCellA
namespace Go.Proofs.Ytkomnnijnggbpaa
open Go.RowKit
set_option linter.unusedVariables false

/-- How much a cell leaves of a bound; -1 where it is too great. -/
def szLeft (L : Int) (R C V : ByteArray) : Int := if (R.size : Int) + C.size + V.size ≤ L then L - R.size - C.size - V.size else -1
theorem szLeft_no {L : Int} {R C V : ByteArray} (h : L < (R.size : Int) + C.size + V.size) : szLeft L R C V = -1 := if_neg (by omega)
theorem szLeft_yes {L : Int} {R C V : ByteArray} (h : (R.size : Int) + C.size + V.size ≤ L) : szLeft L R C V = L - R.size - C.size - V.size := if_pos h

set_option maxHeartbeats 1000000 in
set_option maxRecDepth 100000 in
theorem szCell_at (R C : ByteArray) (T : Int) (G : Bool) (V : ByteArray) (L : Int) (h0 : 0 ≤ L) (h1 : L ≤ 1048576) (hR : R.size ≤ maxLen) (hC : C.size ≤ maxLen) (hV : V.size ≤ maxLen) (w : World) :
    Calls Try.prog 44 #[.agg #[.string R, .string C, .int .i64 T, .bool G, .string V], .int .i64 L] w fun e w' => e = .returned (.int .i64 (szLeft L R C V)) ∧ Below w.heap.size w w' := by
  unfold maxLen at hR hC hV
  by_cases c1 : L - (R.size : Int) < 0
  · have HS := Lib.hid (szLeft_no (L := L) (R := R) (C := C) (V := V) (by omega))
    go_enter Try.func44, Try.ntmps44
    go_wp2
    go_ret
    exact ⟨ret_int HS.out.symm, one_below _ _⟩
  by_cases c2 : L - (R.size : Int) - C.size < 0
  · have HS := Lib.hid (szLeft_no (L := L) (R := R) (C := C) (V := V) (by omega))
    go_enter Try.func44, Try.ntmps44
    go_wp2
    go_ret
    exact ⟨ret_int HS.out.symm, one_below _ _⟩
  by_cases c3 : L - (R.size : Int) - C.size - V.size < 0
  · have HS := Lib.hid (szLeft_no (L := L) (R := R) (C := C) (V := V) (by omega))
    go_enter Try.func44, Try.ntmps44
    go_wp2
    go_ret
    exact ⟨ret_int HS.out.symm, one_below _ _⟩
  have HS := Lib.hid (szLeft_yes (L := L) (R := R) (C := C) (V := V) (by omega))
  go_enter Try.func44, Try.ntmps44
  go_wp2
  go_ret
  exact ⟨ret_int HS.out.symm, one_below _ _⟩

theorem three_below0 (w : World) (o o' o'' : Obj) : Below w.heap.size w (((w.alloc o).alloc o').alloc o'') := (two_below0 w o o').alloc (by simp; omega) o''
set_option maxHeartbeats 1000000 in
set_option maxRecDepth 100000 in
theorem toCell_at (R C : ByteArray) (T : Int) (G : Bool) (V : ByteArray) (w : World) :
    Calls Try.prog 45 #[.agg #[.string R, .string C, .int .i64 T, .bool G, .string V]] w fun e w' => e = .returned (.agg #[.string R, .string C, .int .i64 T, .bool G, .string V]) ∧ Below w.heap.size w w' := by
  go_enter Try.func45, Try.ntmps45
  go_wp2_with fail
  exact bodyPost_ret (v := .agg #[.string R, .string C, .int .i64 T, .bool G, .string V]) (results_cell_row Try.results45 _ _ (w.heap.size + 1) _ #[.string R, .string C, .int .i64 T, .bool G, .string V] _ _ rfl (alloc_at3 _ _ _ _) Try.underlying36 rfl (by rw [sizeCel]; rfl)) rfl ⟨rfl, three_below0 _ _ _ _⟩
end Go.Proofs.Ytkomnnijnggbpaa
