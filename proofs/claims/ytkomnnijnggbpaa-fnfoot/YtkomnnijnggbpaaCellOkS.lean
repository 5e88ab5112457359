/- Contract of the model's CellOk. -/
import Derived.Test.YtkomnnijnggbpaaZ0
namespace Go.Proofs.Ytkomnnijnggbpaa
open Go.RowKit
set_option linter.unusedVariables false

set_option maxHeartbeats 2000000 in
theorem specCellOk (R C : ByteArray) (T : Int) (G : Bool) (V : ByteArray) (hR : R.size ≤ maxLen) (hC : C.size ≤ maxLen) (w : World) :
   Calls Try.prog 60 #[.agg #[.string R, .string C, .int .i64 T, .bool G, .string V]] w fun e w' => e = .returned (.bool (cellOk ⟨R, C, T, G, V⟩)) ∧ Below w.heap.size w w' := by
 rw [cellOk_form]
 obtain ⟨r, hr⟩ : ∃ r, nameOk R.data.toList = r := ⟨_, rfl⟩
 obtain ⟨c, hc⟩ : ∃ c, nameOk C.data.toList = c := ⟨_, rfl⟩
 obtain ⟨t, ht⟩ : ∃ t, timeOk T = t := ⟨_, rfl⟩
 rw [hr, hc, ht]
 have HN := Lib.hid (And.intro hr (And.intro hc ht))
 clear hr hc ht
 obtain ⟨m, hm⟩ : ∃ m, V.toList.isEmpty = m := ⟨_, rfl⟩
 rw [hm]
 go_enter Try.func60, Try.ntmps60
 go_wp2_with fail
 refine (specName R hR _).mono ?_
 rw [HN.out.1]
 rintro e w1 ⟨rfl, n1, rfl⟩
 cases r
 · go_wp2
   go_ret
   exact ⟨ret_bool (by simp), box_below _ _ _⟩
 go_wp2_with fail
 refine (specName C hC _).mono ?_
 rw [HN.out.2.1]
 rintro e w1 ⟨rfl, n2, rfl⟩
 cases c
 · go_wp2
   go_ret
   exact ⟨ret_bool (by simp), box_below _ _ _⟩
 go_wp2_with fail
 refine (specTime T _).mono ?_
 rw [HN.out.2.2]
 rintro e w1 ⟨rfl, rfl⟩
 cases t
 · go_wp2
   go_ret
   exact ⟨ret_bool (by simp), box_below _ _ _⟩
 by_cases hv : V.size ≤ 30
 · cases G
   · go_wp2
     go_ret
     exact ⟨ret_bool (by simp; omega), box_below _ _ _⟩
   · cases m
     · go_wp2
       go_ret
       exact ⟨ret_bool (by simp), box_below _ _ _⟩
     · go_wp2
       go_ret
       exact ⟨ret_bool (by simp; omega), box_below _ _ _⟩
 · go_wp2
   go_ret
   exact ⟨ret_bool (by simp), box_below _ _ _⟩
end Go.Proofs.Ytkomnnijnggbpaa
