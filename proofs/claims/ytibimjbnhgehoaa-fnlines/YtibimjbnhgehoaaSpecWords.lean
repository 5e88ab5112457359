/- The model's Words: the parts between blanks and bytes 9 that aren't empty, in a list of its own. -/
import Derived.Test.YtibimjbnhgehoaaWordsImpl
namespace Go.Proofs.Ytibimjbnhgehoaa
open Go.RowKit
set_option linter.unusedVariables false

theorem mark32 (c : UInt8) : marked blanks c = ((c.toNat : Int) == 32 || (c.toNat : Int) == 9) := by
  unfold marked blanks
  rw [Bool.eq_iff_iff]
  simp only [List.mem_cons, List.not_mem_nil, or_false, decide_eq_true_eq, beq_iff_eq, Bool.or_eq_true]
  constructor
  · rintro (rfl | rfl)
    · exact .inl rfl
    · exact .inr rfl
  · rintro (h | h)
    · exact .inl (UInt8.toNat_inj.1 (by simp; omega))
    · exact .inr (UInt8.toNat_inj.1 (by simp; omega))

theorem blank_at (c : UInt8) (w : World) : Calls Try.prog 32 #[.int .u8 c.toNat] w fun e w' => e = .returned (.bool (marked blanks c)) ∧ w' = w := by
  rw [mark32]
  cases h1 : ((c.toNat : Int) == 32)
  · go_enter Try.func32, Try.ntmps32
    go_wp2
    go_ret
    exact ⟨rfl, rfl⟩
  · go_enter Try.func32, Try.ntmps32
    go_wp2
    go_ret
    exact ⟨rfl, rfl⟩

theorem full_empty (s : ByteArray) (k : Nat) : full (s.extract k k) = false := by
  rw [extract_text]; simp [full, text]
theorem full_some (s : ByteArray) {k e : Nat} (h : k < e) (he : e ≤ s.size) : full (s.extract k e) = true := by
  rw [extract_text]
  have : (((s.data.toList.take e).drop k)).length ≠ 0 := by simp; omega
  cases hl : ((s.data.toList.take e).drop k) with
  | nil => rw [hl] at this; exact absurd rfl this
  | cons a l => simp [full, text]

theorem filter_mark {s : ByteArray} {k : Nat} (h : k < s.size) (hm : marked blanks s[k] = true) : (left (marked blanks) s k k).filter full = (left (marked blanks) s (k + 1) (k + 1)).filter full := by
  rw [left_mark h hm, List.filter_cons, full_empty]; rfl
theorem filter_end {s : ByteArray} : (left (marked blanks) s s.size s.size).filter full = [] := by
  rw [left_end, List.filter_cons, full_empty]; rfl
theorem filter_word {s : ByteArray} {k e : Nat} (hk : k < e) (he : e ≤ s.size) (hm : ∀ h : e < s.size, marked blanks s[e] = true) :
    (left (marked blanks) s k e).filter full = s.extract k e :: (left (marked blanks) s e e).filter full := by
  by_cases h : e < s.size
  · rw [filter_mark h (hm h), left_mark h (hm h), List.filter_cons, full_some s hk he]; rfl
  · obtain rfl : e = s.size := by omega
    rw [filter_end, left_end, List.filter_cons, full_some s hk he]; rfl

theorem RowAt.drew {w W : World} {v : Value} {pre : List ByteArray} (t : RowAt w W v pre) (n : Nat) : RowAt w (W.drewN n) v pre :=
  ⟨row_below t.row (draws_below ⟨n, rfl⟩ W.heap.size) (fun k hk => (t.row.lt k hk).2), t.below.trans ((draws_below ⟨n, rfl⟩ W.heap.size).mono t.below.size)⟩

set_option maxHeartbeats 1000000 in
theorem specWords (s : ByteArray) (hs : s.size ≤ 1048576) (w : World) :
    Calls Try.prog 17 #[.string s] w (ToldStr w (wordsIn s)) := by
  obtain ⟨all, hall⟩ : ∃ all, wordsIn s = all := ⟨_, rfl⟩
  have hlen := words_len s
  rw [hall] at hlen ⊢
  have HA := Lib.hid hall
  clear hall
  go_enter Try.func17, Try.ntmps17
  go_wp2
  go_loopw [3, 4] (fun out at_ wr => ∃ (k : Nat) (v : Value) (pre : List ByteArray), k ≤ s.size ∧ out = v ∧ at_ = .int .i64 k ∧ pre.length ≤ 1048577 ∧ RowAt w wr v pre ∧ Hid (pre ++ (left (marked blanks) s k k).filter full = all)) (fun _ at_ _ => s.size - (intOf at_).toNat)
  case atStart => exact ⟨0, _, [], by omega, rfl, rfl, by simp, row_made w, HA.out⟩
  case round =>
    obtain ⟨k, v, pre, hk, rfl, rfl, hpl, t, HL⟩ := hrel
    have TT := Lib.hid t
    clear t
    by_cases hlt : k < s.size
    · have i1 : (k : Int) < (s.size : Int) := by omega
      have hbl := blank_at s[k]
      cases hm : marked blanks s[k]
      · rw [hm] at hbl
        have HM := Lib.hid hm
        clear hm
        go_wp2_with fail
        refine (hbl _).mono ?_
        rintro e w' ⟨rfl, rfl⟩
        clear hbl
        go_wp2_with fail
        go_loopw [5] (fun at_ wr => ∃ (e : Nat), k ≤ e ∧ e ≤ s.size ∧ at_ = .int .i64 e ∧ RowAt w wr u3 pre ∧ Hid (pre ++ (left (marked blanks) s k e).filter full = all)) (fun at_ _ => s.size - (intOf at_).toNat)
        case atStart => exact ⟨k, by omega, hk, rfl, TT.out, HL.out⟩
        case round =>
          clear TT
          obtain ⟨e, hke, hes, rfl, t, HE⟩ := hrel
          have TT := Lib.hid t
          clear t
          by_cases hle : e < s.size
          · have i2 : (e : Int) < (s.size : Int) := by omega
            cases hm2 : marked blanks s[e]
            · have HM2 := Lib.hid hm2
              go_wp2_with fail
              have hb2 := blank_at s[e]
              rw [hm2] at hb2
              clear hm2
              refine (hb2 _).mono ?_
              rintro e' w' ⟨rfl, rfl⟩
              clear hb2
              go_wp2_with fail
              go_roundw
              case rel => exact ⟨e + 1, by omega, by omega, by go_num, TT.out, by show _ = _; rw [← left_go hle hke HM2.out]; exact HE.out⟩
              case measure => simp [intOf]; omega
            · have HM2 := Lib.hid hm2
              go_wp2_with fail
              have hb2 := blank_at s[e]
              rw [hm2] at hb2
              clear hm2
              refine (hb2 _).mono ?_
              rintro e' w' ⟨rfl, rfl⟩
              clear hb2
              have hkl : k < e := by
                rcases Nat.lt_or_ge k e with h | h
                · exact h
                · obtain rfl : k = e := by omega
                  exact absurd (HM.out.symm.trans HM2.out) (by decide)
              have FW := Lib.hid (filter_word hkl hes (fun _ => HM2.out))
              have hle2 := congrArg List.length HE.out
              rw [FW.out] at hle2
              simp only [List.length_append, List.length_cons] at hle2
              have hp2 : pre.length + 1 ≤ 1048577 := by omega
              clear hle2
              go_wp2_with (at_builtin; refine wp_pushS (s.extract k e) rfl _ _ rfl rfl rfl TT.out (by omega) ?_; intro g c w1 t1; have T1 := Lib.hid t1; clear t1)
              go_roundw
              case rel => exact ⟨e, _, pre ++ [s.extract k e], hes, rfl, by go_num, by simpa using hp2, T1.out, by show _ = _; rw [← HE.out, FW.out]; simp⟩
              case measure => simp [intOf]; omega
          · obtain rfl : e = s.size := by omega
            have FW := Lib.hid (filter_word hlt (Nat.le_refl _) (fun h => absurd h (by omega)))
            have hle2 := congrArg List.length HE.out
            rw [FW.out] at hle2
            simp only [List.length_append, List.length_cons] at hle2
            have hp2 : pre.length + 1 ≤ 1048577 := by omega
            clear hle2
            go_wp2_with (at_builtin; refine wp_pushS (s.extract k s.size) rfl _ _ rfl rfl rfl TT.out (by omega) ?_; intro g c w1 t1; have T1 := Lib.hid t1; clear t1)
            go_roundw
            case rel => exact ⟨s.size, _, pre ++ [s.extract k s.size], Nat.le_refl _, rfl, rfl, by simpa using hp2, T1.out, by show _ = _; rw [← HE.out, FW.out]; simp⟩
            case measure => simp [intOf]; omega
      · rw [hm] at hbl
        have HM := Lib.hid hm
        clear hm
        go_wp2_with fail
        refine (hbl _).mono ?_
        rintro e w' ⟨rfl, rfl⟩
        clear hbl
        go_wp2_with fail
        go_roundw
        case rel => exact ⟨k + 1, _, pre, by omega, rfl, by go_num, hpl, TT.out, by show _ = _; rw [← filter_mark hlt HM.out]; exact HL.out⟩
        case measure => simp [intOf]; omega
    · obtain rfl : k = s.size := by omega
      go_wp2
      go_ret
      have e : pre = all := by rw [← HL.out, filter_end]; simp
      subst e
      exact ⟨_, rfl, TT.out.row, TT.out.below⟩
end Go.Proofs.Ytibimjbnhgehoaa
