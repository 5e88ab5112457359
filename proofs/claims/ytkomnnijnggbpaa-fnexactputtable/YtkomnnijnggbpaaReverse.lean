/- The library's Reverse of bytes in a block, and the program's reversed text. -/
import Derived.Test.YtkomnnijnggbpaaRowsA
import Derived.Test.YtkomnnijnggbpaaFixA
import Derived.BigQuiet
import Derived.Deep.RegionHeld3
namespace Go.Proofs.Ytkomnnijnggbpaa
open Go.RowKit
set_option linter.unusedVariables false

/-- Bytes of which so many at both ends have changed places. -/
def revTo (l : List UInt8) (i : Nat) : List UInt8 := (List.range l.length).map fun k => if k < i ∨ l.length ≤ k + i then l.getD (l.length - 1 - k) 0 else l.getD k 0
theorem revTo_len (l : List UInt8) (i : Nat) : (revTo l i).length = l.length := by simp [revTo]
theorem revTo_at (l : List UInt8) (i k : Nat) (hk : k < l.length) : (revTo l i)[k]? = some (if k < i ∨ l.length ≤ k + i then l.getD (l.length - 1 - k) 0 else l.getD k 0) := by
  unfold revTo
  rw [List.getElem?_map, List.getElem?_range hk]
  rfl
theorem revTo_zero (l : List UInt8) : revTo l 0 = l := by
  apply List.ext_getElem?
  intro k
  by_cases hk : k < l.length
  · rw [revTo_at l 0 k hk, if_neg (by omega), List.getElem?_eq_getElem hk]
    simp [hk]
  · rw [List.getElem?_eq_none (by rw [revTo_len]; omega), List.getElem?_eq_none (by omega)]
theorem revTo_end (l : List UInt8) (i : Nat) (h : l.length ≤ 2 * i + 1) : revTo l i = l.reverse := by
  apply List.ext_getElem?
  intro k
  by_cases hk : k < l.length
  · rw [revTo_at l i k hk, List.getElem?_reverse hk]
    by_cases h1 : k < i ∨ l.length ≤ k + i
    · rw [if_pos h1, List.getElem?_eq_getElem (by omega)]
      simp [show l.length - 1 - k < l.length by omega]
    · have e : l.length - 1 - k = k := by omega
      rw [if_neg h1, e, List.getElem?_eq_getElem hk]
      simp [hk]
  · rw [List.getElem?_eq_none (by rw [revTo_len]; omega), List.getElem?_eq_none (by simp; omega)]
theorem revTo_same (l : List UInt8) (i : Nat) (h : i < l.length - 1 - i) : (revTo l i).getD i 0 = l.getD i 0 ∧ (revTo l i).getD (l.length - 1 - i) 0 = l.getD (l.length - 1 - i) 0 := by
  have h1 := revTo_at l i i (by omega)
  have h2 := revTo_at l i (l.length - 1 - i) (by omega)
  rw [if_neg (by omega)] at h1 h2
  exact ⟨by rw [List.getD_eq_getElem?_getD, h1]; rfl, by rw [List.getD_eq_getElem?_getD, h2]; rfl⟩
theorem revTo_step (l : List UInt8) (i : Nat) (h : i < l.length - 1 - i) : ((revTo l i).set i (l.getD (l.length - 1 - i) 0)).set (l.length - 1 - i) (l.getD i 0) = revTo l (i + 1) := by
  apply List.ext_getElem?
  intro k
  by_cases hk : k < l.length
  · rw [revTo_at l (i + 1) k hk, List.getElem?_set]
    by_cases h1 : l.length - 1 - i = k
    · subst h1
      rw [if_pos rfl, if_pos (by simp [revTo_len]; omega), if_pos (by omega), show l.length - 1 - (l.length - 1 - i) = i by omega]
    · rw [if_neg h1, List.getElem?_set]
      by_cases h2 : i = k
      · subst h2
        rw [if_pos rfl, if_pos (by rw [revTo_len]; omega), if_pos (by omega)]
      · rw [if_neg h2, revTo_at l i k hk]
        by_cases h3 : k < i ∨ l.length ≤ k + i
        · rw [if_pos h3, if_pos (by omega)]
        · rw [if_neg h3, if_neg (by omega)]
  · rw [List.getElem?_eq_none (by simp [revTo_len]; omega), List.getElem?_eq_none (by rw [revTo_len]; omega)]

set_option maxHeartbeats 2000000 in
theorem reverse_at (w0 w : World) (g c : Nat) (xs : List UInt8) (t : Buf w0 w g xs) (hl : xs.length ≤ 1048576) (hc : xs.length ≤ c) :
    Calls Try.prog 88 #[.slice (some ⟨g, 0, none⟩) xs.length c] w fun e w' => (∃ v, e = .returned v) ∧ Buf w0 w' g xs.reverse := by
  obtain ⟨n, hn⟩ : ∃ n, xs.length = n := ⟨_, rfl⟩
  have HN := Lib.hid hn
  have T0 := Lib.hid t
  rw [hn] at hl hc ⊢
  clear hn t
  go_enter Try.func88, Try.ntmps88
  go_wp2_with fail
  go_loopw [2, 3] (fun ii jj wr => ∃ i : Nat, (i = 0 ∨ 2 * i ≤ n) ∧ ii = .int .i64 i ∧ jj = .int .i64 ((n : Int) - 1 - i) ∧ Buf w0 wr g (revTo xs i)) (fun ii _ _ => n - (intOf ii).toNat)
  case atStart => exact ⟨0, .inl rfl, rfl, by go_num, by rw [revTo_zero]; exact T0.out⟩
  case round =>
    obtain ⟨i, hi, rfl, rfl, t⟩ := hrel
    have TT := Lib.hid t
    by_cases hlt : i < n - 1 - i
    · obtain ⟨j, hj⟩ : ∃ j, n - 1 - i = j := ⟨_, rfl⟩
      have ej : ((n : Int) - 1 - i) = (j : Int) := by omega
      have hs := revTo_same xs i (by rw [HN.out]; exact hlt)
      have hst := revTo_step xs i (by rw [HN.out]; exact hlt)
      rw [HN.out, hj] at hs hst
      have c0 := t.cell i (by rw [revTo_len, HN.out]; omega)
      have c1 := t.cell j (by rw [revTo_len, HN.out]; omega)
      rw [hs.1] at c0
      rw [hs.2] at c1
      have f0 := t.frozen i (by rw [revTo_len, HN.out]; omega)
      have f1 := t.frozen j (by rw [revTo_len, HN.out]; omega)
      unfold u8v at c0 c1
      obtain ⟨ci, hci⟩ : ∃ x, xs.getD i 0 = x := ⟨_, rfl⟩
      obtain ⟨cj, hcj⟩ : ∃ x, xs.getD j 0 = x := ⟨_, rfl⟩
      rw [hci] at c0 hst
      rw [hcj] at c1 hst
      have HST := Lib.hid hst
      rw [ej]
      have hij : i ≠ j := by omega
      have hjn : j < n := by omega
      have hin : i < n := by omega
      have i1 : (i : Int) < (j : Int) := by omega
      have i2 : (j : Int) < (n : Int) := by omega
      have i3 : (i : Int) < (n : Int) := by omega
      have HJ := Lib.hid hj
      clear t hs hst hj ej hci hcj
      go_wp2_with fail
      go_region
      go_wp2
      go_roundw
      case rel => exact ⟨i + 1, .inr (by have := HJ.out; omega), by go_num, by have := HJ.out; go_num, by rw [← HST.out]; exact (((TT.out.set i cj rfl).set j ci rfl).drewN 1)⟩
      case measure => simp [intOf]; omega
    · have HE := Lib.hid (revTo_end xs i (by rw [HN.out]; omega))
      have i1 : ¬ ((i : Int) < (n : Int) - 1 - i) := by omega
      clear t
      go_wp2
      exact bodyPost_end (results_none rfl _ _ _) rfl ⟨⟨_, rfl⟩, by rw [← HE.out]; exact TT.out⟩

set_option maxHeartbeats 400000 in
theorem implReversed (s : ByteArray) (hs : s.size ≤ 1048576) (w : World) : Calls Try.prog 78 #[.string s] w (TextIs w s.data.toList.reverse) := by
  obtain ⟨cap, W, hcv, hbuf, hcap⟩ := buf_new w s
  have hll : s.data.toList.length = s.size := by simp
  have HLL := Lib.hid hll
  have HBF := Lib.hid hbuf
  clear hbuf hll
  go_enter Try.func78, Try.ntmps78
  go_wp2_with fail
  have HR := reverse_at w W w.heap.size cap s.data.toList HBF.out (by rw [HLL.out]; omega) (by rw [HLL.out]; omega)
  rw [HLL.out] at HR
  refine HR.mono ?_
  clear HR
  rintro e w1 ⟨⟨v, rfl⟩, b1⟩
  have hst := b1.str (c := cap) (n := s.size) (by simp)
  have B1 := Lib.hid b1.below
  clear b1 hcv
  go_wp2
  go_ret
  exact ⟨rfl, B1.out⟩
end Go.Proofs.Ytkomnnijnggbpaa
