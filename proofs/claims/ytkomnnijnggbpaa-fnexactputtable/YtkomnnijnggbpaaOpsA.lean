/- Contracts of the model's look whether a number is of some range. -/
import Derived.Test.YtkomnnijnggbpaaProg
import Derived.Test.YtkomnnijnggbpaaPureA
import Derived.Test.YtkomnnijnggbpaaCellA
namespace Go.Proofs.Ytkomnnijnggbpaa
open Go.RowKit
set_option linter.unusedVariables false

theorem specIn_yes (x a b : Int) (w : World) (h1 : a ≤ x) (h2 : x ≤ b) :
    Calls Try.prog 38 #[.int .i64 x, .int .i64 a, .int .i64 b] w fun e w' => e = .returned (.bool true) ∧ w = w' := by
  go_enter Try.func38, Try.ntmps38
  go_wp2
  go_ret
  exact ⟨by simp, rfl⟩
theorem specIn_no (x a b : Int) (w : World) (h : x < a ∨ b < x) :
    Calls Try.prog 38 #[.int .i64 x, .int .i64 a, .int .i64 b] w fun e w' => e = .returned (.bool false) ∧ w = w' := by
  by_cases h1 : a ≤ x
  · have h2 : ¬ x ≤ b := by omega
    clear h
    go_enter Try.func38, Try.ntmps38
    go_wp2
    go_ret
    exact ⟨by simp, rfl⟩
  · clear h
    go_enter Try.func38, Try.ntmps38
    go_wp2
    go_ret
    exact ⟨by simp, rfl⟩
end Go.Proofs.Ytkomnnijnggbpaa
/- Contracts of what tells names and times: the program's and the model's. -/
namespace Go.Proofs.Ytkomnnijnggbpaa
open Go.RowKit
set_option linter.unusedVariables false

/-- A truth; nothing has turned. -/
def TellsB (w : World) (b : Bool) (e : Ending) (w' : World) : Prop := e = .returned (.bool b) ∧ ∃ n, w' = w.drewN n

theorem byte_get (s : ByteArray) (k : Nat) (h : k < s.size) : s.data.toList[k]? = some (s[k]'h) := byte_at s k h

set_option maxHeartbeats 1000000 in
theorem implName (s : ByteArray) (hs : s.size ≤ maxLen) (w : World) : Calls Try.prog 71 #[.string s] w (TellsB w (nameOk s.data.toList)) := by
  unfold maxLen at hs
  have hl : s.data.toList.length = s.size := by simp
  by_cases h1 : s.size < 1
  · have HR := Lib.hid (name_len (l := s.data.toList) (by rw [hl]; omega))
    clear hl
    go_enter Try.func71, Try.ntmps71
    go_wp2
    go_ret
    exact ⟨ret_bool HR.out.symm, 0, rfl⟩
  by_cases h2 : 16 < s.size
  · have HR := Lib.hid (name_len (l := s.data.toList) (by rw [hl]; omega))
    clear hl
    go_enter Try.func71, Try.ntmps71
    go_wp2
    go_ret
    exact ⟨ret_bool HR.out.symm, 0, rfl⟩
  have HL := Lib.hid hl
  clear hl
  go_enter Try.func71, Try.ntmps71
  go_wp2_with fail
  go_loopw [14] (fun i wr => ∃ k : Nat, k ≤ s.size ∧ i = .int .i64 k ∧ Hid (∀ j, j < k → ∃ c, s.data.toList[j]? = some c ∧ sign c = true) ∧ ∃ n, wr = w.drewN n) (fun i _ => s.size - (intOf i).toNat)
  case atStart => exact ⟨0, Nat.zero_le _, rfl, fun j hj => absurd hj (by omega), 0, rfl⟩
  case round =>
    obtain ⟨k, hk, rfl, HJ, n, rfl⟩ := hrel
    by_cases hlt : k < s.size
    · have i1 : (k : Int) < (s.size : Int) := by omega
      have HB := Lib.hid (byte_get s k hlt)
      by_cases hc1 : s[k].toNat < 33
      · have HR := Lib.hid (name_bad HB.out (sign_no (.inl hc1)))
        go_wp2
        go_ret
        exact ⟨ret_bool HR.out.symm, _, rfl⟩
      by_cases hc2 : 126 < s[k].toNat
      · have HR := Lib.hid (name_bad HB.out (sign_no (.inr hc2)))
        go_wp2
        go_ret
        exact ⟨ret_bool HR.out.symm, _, rfl⟩
      have HS := Lib.hid (sign_yes (c := s[k]) (by omega) (by omega))
      go_wp2
      go_roundw
      case rel =>
        refine ⟨k + 1, by omega, by go_num, ?_, _, rfl⟩
        intro j hj
        by_cases hj2 : j < k
        · exact HJ.out j hj2
        · obtain rfl : j = k := by omega
          exact ⟨_, HB.out, HS.out⟩
      case measure => simp [intOf]; omega
    · obtain rfl : k = s.size := by omega
      have HR := Lib.hid (name_good (l := s.data.toList) (fun j hj => HJ.out j (by rw [HL.out] at hj; exact hj)) (by rw [HL.out]; omega) (by rw [HL.out]; omega))
      go_wp2
      go_ret
      exact ⟨ret_bool HR.out.symm, _, rfl⟩

set_option maxHeartbeats 1000000 in
theorem specName (s : ByteArray) (hs : s.size ≤ maxLen) (w : World) : Calls Try.prog 64 #[.string s] w (TellsB w (nameOk s.data.toList)) := by
  unfold maxLen at hs
  have hl : s.data.toList.length = s.size := by simp
  have HL := Lib.hid hl
  clear hl
  go_enter Try.func64, Try.ntmps64
  go_wp2_with fail
  go_loopw [3] (fun i wr => ∃ k : Nat, k ≤ s.size ∧ i = .int .i64 k ∧ Hid (∀ j, j < k → ∃ c, s.data.toList[j]? = some c ∧ sign c = true) ∧ ∃ n, wr = w.drewN n) (fun i _ => s.size - (intOf i).toNat)
  case atStart => exact ⟨0, Nat.zero_le _, rfl, fun j hj => absurd hj (by omega), 0, rfl⟩
  case round =>
    obtain ⟨k, hk, rfl, HJ, n, rfl⟩ := hrel
    by_cases hlt : k < s.size
    · have i1 : (k : Int) < (s.size : Int) := by omega
      have HB := Lib.hid (byte_get s k hlt)
      have hc0 := s[k].toNat_lt
      by_cases hc : s[k].toNat < 33 ∨ 126 < s[k].toNat
      · have HR := Lib.hid (name_bad HB.out (sign_no hc))
        have HC := Lib.hid hc
        clear hc
        go_wp2_with fail
        refine (specIn_no _ 33 126 _ (by have := HC.out; omega)).mono ?_
        rintro e w1 ⟨rfl, rfl⟩
        go_wp2
        go_ret
        exact ⟨ret_bool HR.out.symm, _, rfl⟩
      have HS := Lib.hid (sign_yes (c := s[k]) (by omega) (by omega))
      have HC := Lib.hid hc
      clear hc
      go_wp2_with fail
      refine (specIn_yes _ 33 126 _ (by have := HC.out; omega) (by have := HC.out; omega)).mono ?_
      rintro e w1 ⟨rfl, rfl⟩
      go_wp2
      go_roundw
      case rel =>
        refine ⟨k + 1, by omega, by go_num, ?_, _, rfl⟩
        intro j hj
        by_cases hj2 : j < k
        · exact HJ.out j hj2
        · obtain rfl : j = k := by omega
          exact ⟨_, HB.out, HS.out⟩
      case measure => simp [intOf]; omega
    · obtain rfl : k = s.size := by omega
      by_cases h12 : s.size < 1 ∨ 16 < s.size
      · have HR := Lib.hid (name_len (l := s.data.toList) (by rw [HL.out]; omega))
        have HC := Lib.hid h12
        clear h12
        go_wp2_with fail
        refine (specIn_no _ 1 16 _ (by have := HC.out; omega)).mono ?_
        rintro e w1 ⟨rfl, rfl⟩
        go_wp2
        go_ret
        exact ⟨ret_bool HR.out.symm, _, rfl⟩
      · have HR := Lib.hid (name_good (l := s.data.toList) (fun j hj => HJ.out j (by rw [HL.out] at hj; exact hj)) (by rw [HL.out]; omega) (by rw [HL.out]; omega))
        go_wp2_with fail
        refine (specIn_yes _ 1 16 _ (by omega) (by omega)).mono ?_
        rintro e w1 ⟨rfl, rfl⟩
        go_wp2
        go_ret
        exact ⟨ret_bool HR.out.symm, _, rfl⟩

theorem implTime (t : Int) (w : World) : Calls Try.prog 72 #[.int .i64 t] w fun e w' => e = .returned (.bool (timeOk t)) ∧ w = w' := by
  by_cases h1 : t < 0
  · have HR := Lib.hid (time_no (t := t) (.inl h1))
    go_enter Try.func72, Try.ntmps72
    go_wp2
    go_ret
    exact ⟨ret_bool HR.out.symm, rfl⟩
  by_cases h2 : 1000000000 < t
  · have HR := Lib.hid (time_no (t := t) (.inr h2))
    go_enter Try.func72, Try.ntmps72
    go_wp2
    go_ret
    exact ⟨ret_bool (by rw [HR.out]; exact decide_eq_false (by omega)), rfl⟩
  have HR := Lib.hid (time_yes (t := t) (by omega) (by omega))
  go_enter Try.func72, Try.ntmps72
  go_wp2
  go_ret
  exact ⟨ret_bool HR.out.symm, rfl⟩
theorem specTime (t : Int) (w : World) : Calls Try.prog 38 #[.int .i64 t, .int .i64 0, .int .i64 1000000000] w fun e w' => e = .returned (.bool (timeOk t)) ∧ w = w' := by
  by_cases h : t < 0 ∨ 1000000000 < t
  · rw [time_no h]
    exact specIn_no t 0 1000000000 w h
  · rw [time_yes (by omega) (by omega)]
    exact specIn_yes t 0 1000000000 w (by omega) (by omega)
end Go.Proofs.Ytkomnnijnggbpaa
/- Contracts of CellOk: the program's and the model's. -/
namespace Go.Proofs.Ytkomnnijnggbpaa
open Go.RowKit
set_option linter.unusedVariables false

theorem empty_iff (V : ByteArray) : V.data.toList.isEmpty = V.toList.isEmpty := by rw [ByteArray.toList_eq]
theorem cellOk_form (R C : ByteArray) (T : Int) (G : Bool) (V : ByteArray) : cellOk ⟨R, C, T, G, V⟩ = (nameOk R.data.toList && nameOk C.data.toList && timeOk T && decide (V.size ≤ 30) && (!G || V.toList.isEmpty)) := by
  unfold cellOk; rw [empty_iff]
theorem box_below (w : World) (o : Obj) (n : Nat) : Below w.heap.size w ((w.alloc o).drewN n) := ((Below.refl _ w).alloc (Nat.le_refl _) o).trans (below_draws n)

set_option maxHeartbeats 2000000 in
theorem implCellOk (R C : ByteArray) (T : Int) (G : Bool) (V : ByteArray) (hR : R.size ≤ maxLen) (hC : C.size ≤ maxLen) (w : World) :
    Calls Try.prog 49 #[.agg #[.string R, .string C, .int .i64 T, .bool G, .string V]] w fun e w' => e = .returned (.bool (cellOk ⟨R, C, T, G, V⟩)) ∧ Below w.heap.size w w' := by
  rw [cellOk_form]
  obtain ⟨r, hr⟩ : ∃ r, nameOk R.data.toList = r := ⟨_, rfl⟩
  obtain ⟨c, hc⟩ : ∃ c, nameOk C.data.toList = c := ⟨_, rfl⟩
  obtain ⟨t, ht⟩ : ∃ t, timeOk T = t := ⟨_, rfl⟩
  rw [hr, hc, ht]
  have HN := Lib.hid (And.intro hr (And.intro hc ht))
  clear hr hc ht
  obtain ⟨m, hm⟩ : ∃ m, V.toList.isEmpty = m := ⟨_, rfl⟩
  rw [hm]
  have key : (G = true ∧ m = false) ∨ (!G || m) = true := by cases G <;> cases m <;> simp
  rcases key with ⟨rfl, rfl⟩ | hg
  · go_enter Try.func49, Try.ntmps49
    go_wp2
    go_ret
    exact ⟨ret_bool (by simp), box_below _ _ 0⟩
  · rw [hg]
    have walk : ∀ (G : Bool), (!G || m) = true → Calls Try.prog 49 #[.agg #[.string R, .string C, .int .i64 T, .bool G, .string V]] w fun e w' => e = .returned (.bool (r && c && t && decide (V.size ≤ 30) && true)) ∧ Below w.heap.size w w' := by
      intro G hg
      have hk : G = false ∨ (G = true ∧ m = true) := by cases G <;> cases m <;> simp_all
      clear hg
      rcases hk with rfl | ⟨rfl, rfl⟩
      all_goals
        go_enter Try.func49, Try.ntmps49
        go_wp2_with fail
        refine (implName R hR _).mono ?_
        rw [HN.out.1]
        rintro e w1 ⟨rfl, n1, rfl⟩
        cases r
        · go_wp2
          go_ret
          exact ⟨ret_bool (by simp), box_below _ _ _⟩
        go_wp2_with fail
        refine (implName C hC _).mono ?_
        rw [HN.out.2.1]
        rintro e w1 ⟨rfl, n2, rfl⟩
        cases c
        · go_wp2
          go_ret
          exact ⟨ret_bool (by simp), box_below _ _ _⟩
        go_wp2_with fail
        refine (implTime T _).mono ?_
        rw [HN.out.2.2]
        rintro e w1 ⟨rfl, rfl⟩
        cases t
        · go_wp2
          go_ret
          exact ⟨ret_bool (by simp), box_below _ _ _⟩
        go_wp2
        go_ret
        exact ⟨ret_bool (by simp; omega), box_below _ _ _⟩
    exact walk G hg
end Go.Proofs.Ytkomnnijnggbpaa
/- Contract of the model's CellOk. -/
namespace Go.Proofs.Ytkomnnijnggbpaa
open Go.RowKit
set_option linter.unusedVariables false

set_option maxHeartbeats 2000000 in
theorem specCellOk (R C : ByteArray) (T : Int) (G : Bool) (V : ByteArray) (hR : R.size ≤ maxLen) (hC : C.size ≤ maxLen) (w : World) :
    Calls Try.prog 60 #[.agg #[.string R, .string C, .int .i64 T, .bool G, .string V]] w fun e w' => e = .returned (.bool (cellOk ⟨R, C, T, G, V⟩)) ∧ Below w.heap.size w w' := by
  rw [cellOk_form]
  obtain ⟨r, hr⟩ : ∃ r, nameOk R.data.toList = r := ⟨_, rfl⟩
  obtain ⟨c, hc⟩ : ∃ c, nameOk C.data.toList = c := ⟨_, rfl⟩
  obtain ⟨t, ht⟩ : ∃ t, timeOk T = t := ⟨_, rfl⟩
  rw [hr, hc, ht]
  have HN := Lib.hid (And.intro hr (And.intro hc ht))
  clear hr hc ht
  obtain ⟨m, hm⟩ : ∃ m, V.toList.isEmpty = m := ⟨_, rfl⟩
  rw [hm]
  go_enter Try.func60, Try.ntmps60
  go_wp2_with fail
  refine (specName R hR _).mono ?_
  rw [HN.out.1]
  rintro e w1 ⟨rfl, n1, rfl⟩
  cases r
  · go_wp2
    go_ret
    exact ⟨ret_bool (by simp), box_below _ _ _⟩
  go_wp2_with fail
  refine (specName C hC _).mono ?_
  rw [HN.out.2.1]
  rintro e w1 ⟨rfl, n2, rfl⟩
  cases c
  · go_wp2
    go_ret
    exact ⟨ret_bool (by simp), box_below _ _ _⟩
  go_wp2_with fail
  refine (specTime T _).mono ?_
  rw [HN.out.2.2]
  rintro e w1 ⟨rfl, rfl⟩
  cases t
  · go_wp2
    go_ret
    exact ⟨ret_bool (by simp), box_below _ _ _⟩
  by_cases hv : V.size ≤ 30
  · cases G
    · go_wp2
      go_ret
      exact ⟨ret_bool (by simp; omega), box_below _ _ _⟩
    · cases m
      · go_wp2
        go_ret
        exact ⟨ret_bool (by simp), box_below _ _ _⟩
      · go_wp2
        go_ret
        exact ⟨ret_bool (by simp; omega), box_below _ _ _⟩
  · go_wp2
    go_ret
    exact ⟨ret_bool (by simp), box_below _ _ _⟩
end Go.Proofs.Ytkomnnijnggbpaa
/- Contract of the model's Shared: it tells with how many bytes both texts begin alike, and leaves memory as it was. -/
namespace Go.Proofs.Ytkomnnijnggbpaa
open Go.RowKit
set_option linter.unusedVariables false

set_option maxHeartbeats 400000 in
theorem specShared (a b : ByteArray) (w : World) (ha : a.size ≤ maxLen) (hb : b.size ≤ maxLen) :
    Calls Try.prog 63 #[.string a, .string b] w fun e w' => e = .returned (.int .i64 (shared a.data.toList b.data.toList)) ∧ ∃ n, w' = w.drewN n := by
  unfold maxLen at ha hb
  go_enter Try.func63, Try.ntmps63
  go_wp2
  go_loopw [5] (fun i wr => ∃ k : Nat, k ≤ a.size ∧ k ≤ b.size ∧ i = .int .i64 k ∧ Hid (∀ j, j < k → a.data.toList[j]? = b.data.toList[j]?) ∧ ∃ n, wr = w.drewN n) (fun i _ => a.size - (intOf i).toNat)
  case atStart => exact ⟨0, Nat.zero_le _, Nat.zero_le _, rfl, fun j hj => absurd hj (by omega), 0, rfl⟩
  case round =>
    obtain ⟨k, hka, hkb, rfl, HL, n, rfl⟩ := hrel
    by_cases h1 : k < a.size
    · by_cases h2 : k < b.size
      · have i1 : (k : Int) < (a.size : Int) := by omega
        have i2 : (k : Int) < (b.size : Int) := by omega
        go_wp2
        go_quiet (fail)
        go_wp2
        · go_roundw
          case rel => exact ⟨k + 1, by omega, by omega, by go_num, alike_succ h1 h2 HL.out (bne_of_beq ‹_›), _, rfl⟩
          case measure => simp [intOf]; omega
        · go_ret
          exact ⟨ret_int (by rw [sharedParts h1 h2 HL.out (bne_of_nbeq ‹_›)]), n + nq, World.drewN_drewN _ _ _⟩
      · have hd : decide (k < b.size) = false := by simpa using h2
        go_wp2
        go_quiet (fail)
        go_wp2
        go_ret
        exact ⟨ret_int (by rw [sharedEnds hka hkb HL.out (by omega)]), n + nq, World.drewN_drewN _ _ _⟩
    · have hd : decide (k < a.size) = false := by simpa using h1
      go_wp2
      go_quiet (fail)
      go_wp2
      go_ret
      exact ⟨ret_int (by rw [sharedEnds hka hkb HL.out (by omega)]), n + nq, World.drewN_drewN _ _ _⟩
end Go.Proofs.Ytkomnnijnggbpaa
/- Contracts of the program's Before and of the model's: each tells which of two texts stands ahead, and leaves memory as it was. -/
namespace Go.Proofs.Ytkomnnijnggbpaa
open Go.RowKit
set_option linter.unusedVariables false


set_option maxHeartbeats 400000 in
theorem implBefore (a b : ByteArray) (w : World) :
    Calls Try.prog 74 #[.string a, .string b] w fun e w' => e = .returned (.bool (ahead a.data.toList b.data.toList)) ∧ ∃ n, w' = w.drewN n := by
  go_enter Try.func74, Try.ntmps74
  go_wp2
  go_ret
  exact ⟨ret_bool (by rw [← ahead_less]; rw [ByteArray.toList_eq, ByteArray.toList_eq]), 0, rfl⟩

set_option maxHeartbeats 400000 in
theorem specBefore (a b : ByteArray) (w : World) (ha : a.size ≤ maxLen) (hb : b.size ≤ maxLen) :
    Calls Try.prog 70 #[.string a, .string b] w fun e w' => e = .returned (.bool (ahead a.data.toList b.data.toList)) ∧ ∃ n, w' = w.drewN n := by
  go_enter Try.func70, Try.ntmps70
  go_wp2_with fail
  refine (specShared a b _ ha hb).mono ?_
  rintro e w1 ⟨rfl, n1, rfl⟩
  have l1 := shared_le_left a.data.toList b.data.toList
  have l2 := shared_le_right a.data.toList b.data.toList
  have HA := Lib.hid (ahead_def a.data.toList b.data.toList)
  obtain ⟨k, hk⟩ : ∃ k, shared a.data.toList b.data.toList = k := ⟨_, rfl⟩
  rw [hk] at HA l1 l2 ⊢
  clear hk
  simp only [Array.length_toList, ByteArray.size_data] at l1 l2
  go_wp2_with fail
  · have h1 : k < a.size := by assumption
    have h2 : k < b.size := by assumption
    have i1 : (k : Int) < (a.size : Int) := by omega
    have i2 : (k : Int) < (b.size : Int) := by omega
    go_quiet (fail)
    go_wp2
    go_ret
    refine ⟨ret_bool ?_, _, World.drewN_drewN _ _ _⟩
    rw [HA.out, if_pos ⟨by simpa using h1, by simpa using h2⟩, List.getD_eq_getElem?_getD, List.getD_eq_getElem?_getD, byte_at a k h1, byte_at b k h2]
    simp
  · have h2 : ¬ k < b.size := by assumption
    go_ret
    exact ⟨ret_bool (by rw [HA.out, if_neg (by simp; omega)]; simp), n1, rfl⟩
  · have h1 : ¬ k < a.size := by assumption
    go_ret
    exact ⟨ret_bool (by rw [HA.out, if_neg (by simp; omega)]; simp), n1, rfl⟩
end Go.Proofs.Ytkomnnijnggbpaa
