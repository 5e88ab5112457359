/- Contracts of CellOk: the program's and the model's. -/
import Derived.Test.YtejoiaijlaaekaaNames
namespace Go.Proofs.Ytejoiaijlaaekaa
open Go.RowKit
set_option linter.unusedVariables false

theorem empty_iff (V : ByteArray) : V.data.toList.isEmpty = V.toList.isEmpty := by rw [ByteArray.toList_eq]
theorem cellOk_form (R C : ByteArray) (T : Int) (G : Bool) (V : ByteArray) : cellOk ⟨R, C, T, G, V⟩ = (nameOk R.data.toList && nameOk C.data.toList && timeOk T && decide (V.size ≤ 30) && (!G || V.toList.isEmpty)) := by
  unfold cellOk; rw [empty_iff]
theorem box_below (w : World) (o : Obj) (n : Nat) : Below w.heap.size w ((w.alloc o).drewN n) := ((Below.refl _ w).alloc (Nat.le_refl _) o).trans (below_draws n)

set_option maxHeartbeats 2000000 in
theorem implCellOk (R C : ByteArray) (T : Int) (G : Bool) (V : ByteArray) (hR : R.size ≤ maxLen) (hC : C.size ≤ maxLen) (w : World) :
    Calls Try.prog 23 #[.agg #[.string R, .string C, .int .i64 T, .bool G, .string V]] w fun e w' => e = .returned (.bool (cellOk ⟨R, C, T, G, V⟩)) ∧ Below w.heap.size w w' := by
  rw [cellOk_form]
  obtain ⟨r, hr⟩ : ∃ r, nameOk R.data.toList = r := ⟨_, rfl⟩
  obtain ⟨c, hc⟩ : ∃ c, nameOk C.data.toList = c := ⟨_, rfl⟩
  obtain ⟨t, ht⟩ : ∃ t, timeOk T = t := ⟨_, rfl⟩
  rw [hr, hc, ht]
  have HN := Lib.hid (And.intro hr (And.intro hc ht))
  clear hr hc ht
  obtain ⟨m, hm⟩ : ∃ m, V.toList.isEmpty = m := ⟨_, rfl⟩
  rw [hm]
  have key : (G = true ∧ m = false) ∨ (!G || m) = true := by cases G <;> cases m <;> simp
  rcases key with ⟨rfl, rfl⟩ | hg
  · go_enter Try.func23, Try.ntmps23
    go_wp2
    go_ret
    exact ⟨ret_bool (by simp), box_below _ _ 0⟩
  · rw [hg]
    have walk : ∀ (G : Bool), (!G || m) = true → Calls Try.prog 23 #[.agg #[.string R, .string C, .int .i64 T, .bool G, .string V]] w fun e w' => e = .returned (.bool (r && c && t && decide (V.size ≤ 30) && true)) ∧ Below w.heap.size w w' := by
      intro G hg
      have hk : G = false ∨ (G = true ∧ m = true) := by cases G <;> cases m <;> simp_all
      clear hg
      rcases hk with rfl | ⟨rfl, rfl⟩
      all_goals
        go_enter Try.func23, Try.ntmps23
        go_wp2_with fail
        refine (implName R hR _).mono ?_
        rw [HN.out.1]
        rintro e w1 ⟨rfl, n1, rfl⟩
        cases r
        · go_wp2
          go_ret
          exact ⟨ret_bool (by simp), box_below _ _ _⟩
        go_wp2_with fail
        refine (implName C hC _).mono ?_
        rw [HN.out.2.1]
        rintro e w1 ⟨rfl, n2, rfl⟩
        cases c
        · go_wp2
          go_ret
          exact ⟨ret_bool (by simp), box_below _ _ _⟩
        go_wp2_with fail
        refine (implTime T _).mono ?_
        rw [HN.out.2.2]
        rintro e w1 ⟨rfl, rfl⟩
        cases t
        · go_wp2
          go_ret
          exact ⟨ret_bool (by simp), box_below _ _ _⟩
        go_wp2
        go_ret
        exact ⟨ret_bool (by simp; omega), box_below _ _ _⟩
    exact walk G hg
end Go.Proofs.Ytejoiaijlaaekaa
