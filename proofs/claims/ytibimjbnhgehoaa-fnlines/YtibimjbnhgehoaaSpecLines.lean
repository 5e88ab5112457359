/- The model's Lines: the parts between bytes 10, in a list of its own; none of the empty text. -/
import Derived.Test.YtibimjbnhgehoaaRows1
import Derived.Test.YtibimjbnhgehoaaPartsPure
namespace Go.Proofs.Ytibimjbnhgehoaa
open Go.RowKit
set_option linter.unusedVariables false

theorem left_len_le (m : UInt8 → Bool) : ∀ (cs cur : List UInt8), (partsOf m cur cs).length ≤ cs.length + 1
  | [], cur => by simp [partsOf]
  | c :: cs, cur => by
    unfold partsOf
    split
    · have := left_len_le m cs []
      simp; omega
    · have := left_len_le m cs (cur ++ [c])
      simp; omega
theorem left_len (m : UInt8 → Bool) (s : ByteArray) : (left m s 0 0).length ≤ s.size + 1 := by
  unfold left
  have := left_len_le m (s.data.toList.drop 0) ((s.data.toList.take 0).drop 0)
  simp at this ⊢
  exact this

theorem mark10 (c : UInt8) : marked ⟨#[10]⟩ c = ((c.toNat : Int) == 10) := by
  unfold marked
  rw [Bool.eq_iff_iff]
  simp only [List.mem_cons, List.not_mem_nil, or_false, decide_eq_true_eq, beq_iff_eq]
  constructor
  · rintro rfl; rfl
  · intro h
    exact UInt8.toNat_inj.1 (by simp; omega)

set_option maxHeartbeats 1000000 in
theorem specLines_some (s : ByteArray) (hs : s.size ≤ 1048576) (hne : s.toList.isEmpty = false) (w : World) :
    Calls Try.prog 16 #[.string s] w (ToldStr w (left (marked ⟨#[10]⟩) s 0 0)) := by
  obtain ⟨all, hall⟩ : ∃ all, left (marked ⟨#[10]⟩) s 0 0 = all := ⟨_, rfl⟩
  have hlen := left_len (marked ⟨#[10]⟩) s
  rw [hall] at hlen ⊢
  have HA := Lib.hid hall
  clear hall
  go_enter Try.func16, Try.ntmps16
  go_wp2
  go_loopw [3, 4, 5] (fun out fr at_ wr => ∃ (k f : Nat) (v : Value) (pre : List ByteArray), k ≤ s.size ∧ f ≤ k ∧ out = v ∧ at_ = .int .i64 k ∧ fr = .int .i64 f ∧ pre.length ≤ 1048577 ∧ RowAt w wr v pre ∧ Hid (pre ++ left (marked ⟨#[10]⟩) s f k = all)) (fun _ _ at_ _ => s.size - (intOf at_).toNat)
  case atStart => exact ⟨0, 0, _, [], by omega, by omega, rfl, rfl, rfl, by simp, row_made w, HA.out⟩
  case round =>
    obtain ⟨k, f, v, pre, hk, hf, rfl, rfl, rfl, hpl, t, HL⟩ := hrel
    have TT := Lib.hid t
    clear t
    by_cases hlt : k < s.size
    · have i1 : (k : Int) < (s.size : Int) := by omega
      cases hm : ((s[k].toNat : Int) == 10)
      · have LF := Lib.hid (left_go (m := marked ⟨#[10]⟩) hlt hf (by rw [mark10]; exact hm))
        go_wp2
        go_roundw
        case rel => exact ⟨k + 1, f, _, pre, by omega, by omega, rfl, by go_num, rfl, hpl, TT.out, by show _ = _; rw [← LF.out]; exact HL.out⟩
        case measure => simp [intOf]; omega
      · have LF := Lib.hid (left_mark (m := marked ⟨#[10]⟩) (f := f) hlt (by rw [mark10]; exact hm))
        have hle := congrArg List.length HL.out
        rw [LF.out] at hle
        simp only [List.length_append, List.length_cons] at hle
        have hp2 : pre.length + 1 ≤ 1048577 := by omega
        clear hle
        go_wp2_with (at_builtin; refine wp_pushS (s.extract f k) rfl _ _ rfl rfl rfl TT.out (by omega) ?_; intro g c w1 t1; have T1 := Lib.hid t1; clear t1)
        go_roundw
        case rel => exact ⟨k + 1, k + 1, _, pre ++ [s.extract f k], by omega, by omega, rfl, by go_num, by go_num, by simpa using hp2, T1.out, by show _ = _; rw [← HL.out, LF.out]; simp⟩
        case measure => simp [intOf]; omega
    · obtain rfl : k = s.size := by omega
      have LF := Lib.hid (left_end (m := marked ⟨#[10]⟩) (s := s) (f := f))
      go_wp2_with (at_builtin; refine wp_pushS (s.extract f s.size) rfl _ _ rfl rfl rfl TT.out (by omega) ?_; intro g c w1 t1; have T1 := Lib.hid t1; clear t1)
      go_ret
      have e : pre ++ [s.extract f s.size] = all := by rw [← HL.out, LF.out]
      have t1 := T1.out
      refine ⟨_, rfl, ?_, t1.below⟩
      have := t1.row
      rw [e] at this
      exact this

set_option maxHeartbeats 400000 in
theorem specLines_none (s : ByteArray) (hne : s.toList = []) (w : World) : Calls Try.prog 16 #[.string s] w (ToldStr w []) := by
  go_enter Try.func16, Try.ntmps16
  go_wp2
  go_ret
  exact ⟨_, rfl, (row_made w).row, (row_made w).below⟩
end Go.Proofs.Ytibimjbnhgehoaa
