/- The laws' marks in rows of numbers, and rows of numbers held against each other. -/
import Derived.Test.YtlnjaebfdemlgaaIntRow
import Derived.RangeFuncBox
import Derived.BigQuiet
namespace Go.Proofs.Ytlnjaebfdemlgaa
open Go.RowKit
set_option linter.unusedVariables false

def mNums (k n : Nat) : List Int := (List.range n).map (fun j => ((k + j : Nat) : Int))
theorem mNums_len (k n : Nat) : (mNums k n).length = n := by unfold mNums; simp
theorem mNums_at {k n j : Nat} (h : j < n) : (mNums k n)[j]? = some ((k + j : Nat) : Int) := by unfold mNums; simp [h]
theorem mNums_step (k i : Nat) (xs : List Int) (h : i < xs.length) : (mNums k i ++ xs.drop i).set i ((k + i : Nat) : Int) = mNums k (i + 1) ++ xs.drop (i + 1) := by
  have hm : mNums k (i + 1) = mNums k i ++ [((k + i : Nat) : Int)] := by unfold mNums; rw [List.range_succ, List.map_append]; rfl
  rw [List.set_append_right _ _ (by rw [mNums_len]; omega), mNums_len, Nat.sub_self, List.drop_eq_getElem_cons h, List.set_cons_zero, hm, List.append_assoc]
  rfl
theorem owni_cell {B g cap n : Nat} {w : World} {xs : List Int} (h : OwnI B w (.slice (some ⟨g, 0, none⟩) n cap) xs) (j : Nat) : w.frozen? ⟨g, j, none⟩ = false := by
  rcases h.2 with ⟨h0, _⟩ | ⟨g', cap', cur, h1, _, hc, hn, _, hs, ht⟩
  · cases h0
  · cases h1
    simp [World.frozen?, hc]
theorem owni_set {B g cap n : Nat} {w : World} {xs : List Int} (h : OwnI B w (.slice (some ⟨g, 0, none⟩) n cap) xs) (j : Nat) (u : Int) : OwnI B (w.setCell ⟨g, j, none⟩ (.int .i64 u)) (.slice (some ⟨g, 0, none⟩) n cap) (xs.set j u) := by
  refine ⟨by simp, ?_⟩
  rcases h.2 with ⟨h0, _⟩ | ⟨g', cap', cur, h1, hb, hc, hn, hm, hs, ht⟩
  · cases h0
  · cases h1
    refine .inr ⟨g, cap, cur.setIfInBounds j (.int .i64 u), by simp, hb, set_block _ hc, by simpa using hn, hm, by simpa using hs, ?_⟩
    rw [Array.toList_setIfInBounds, List.length_set, List.take_set, ht, List.map_set]
    rfl
theorem owni_shape {B : Nat} {w : World} {v : Value} {xs : List Int} (h : OwnI B w v xs) : (v = .slice none 0 0 ∧ xs = []) ∨ ∃ g cap, v = .slice (some ⟨g, 0, none⟩) xs.length cap ∧ xs.length ≤ cap := by
  rcases h.2 with ⟨h0, hn⟩ | ⟨g, cap, cur, h1, _, _, h4, _⟩
  · exact .inl ⟨h0, List.eq_nil_of_length_eq_zero hn⟩
  · exact .inr ⟨g, cap, h1, h4⟩

set_option maxHeartbeats 1000000 in
theorem markIntS_at (v : Value) (k b : Nat) (xs : List Int) (w : World) (h : OwnI b w v xs) (hl : k + xs.length ≤ 1000000000) (hb : b ≤ w.heap.size) :
    Calls Try.prog 29 #[v, .int .i64 k] w fun e w' => e = .returned (.int .i64 (k + xs.length : Nat)) ∧ OwnI b w' v (mNums k xs.length) ∧ Below b w w' := by
  rcases owni_shape h with ⟨rfl, rfl⟩ | ⟨g, cap, rfl, hcap⟩
  · go_enter Try.func29, Try.ntmps29
    go_wp2
    go_loop [1, 5] (fun kk i => kk = .int .i64 k ∧ i = .int .i64 0) (fun _ _ => 0)
    case atStart => exact ⟨rfl, rfl⟩
    case round =>
      obtain ⟨rfl, rfl⟩ := hrel
      go_wp2
      go_ret
      exact ⟨by simp, h, Below.refl _ _⟩
  · have HH := Lib.hid h
    have hgo := h.lt rfl
    clear h
    obtain ⟨n, hn⟩ : ∃ n, xs.length = n := ⟨_, rfl⟩
    have HN := Lib.hid hn
    rw [hn] at hl hcap HH ⊢
    clear hn
    go_enter Try.func29, Try.ntmps29
    go_wp2
    go_loopw [1, 5] (fun kk ii wr => ∃ i m : Nat, i ≤ n ∧ m ≤ 1000000000 ∧ Hid (m = k + i) ∧ ii = .int .i64 i ∧ kk = .int .i64 m ∧ Hid (OwnI b wr (.slice (some ⟨g, 0, none⟩) n cap) (mNums k i ++ xs.drop i) ∧ Below b w wr)) (fun _ ii _ => n - (intOf ii).toNat)
    case atStart => exact ⟨0, k, Nat.zero_le _, by omega, rfl, rfl, rfl, ⟨by have := HH.out; simpa [mNums] using this, Below.refl _ _⟩⟩
    case round =>
      obtain ⟨i, m, hi, hm2, HM, rfl, rfl, RR⟩ := hrel
      by_cases hlt : i < n
      · have i1 : (i : Int) < (n : Int) := by omega
        have i0 : (0 : Int) ≤ (i : Int) := by omega
        have hm3 : m < 1000000000 := by have := HM.out; omega
        have hs : (mNums k i ++ xs.drop i)[i]? = some ((mNums k i ++ xs.drop i)[i]'(by rw [List.length_append, mNums_len, List.length_drop, HN.out]; omega)) := List.getElem?_eq_getElem _
        obtain ⟨g', hg', hc⟩ := RR.out.1.row.2.2 i _ hs
        cases hg'
        have hf := owni_cell RR.out.1 i
        have HST := Lib.hid (mNums_step k i xs (by rw [HN.out]; exact hlt))
        generalize (mNums k i ++ xs.drop i)[i]'(by rw [List.length_append, mNums_len, List.length_drop, HN.out]; omega) = y at hc
        clear hs
        go_wp2
        go_roundw
        case rel =>
          have hs := owni_set RR.out.1 i (m : Int)
          rw [HM.out, HST.out] at hs
          exact ⟨i + 1, m + 1, by omega, by omega, by have := HM.out; show m + 1 = k + (i + 1); omega, by go_num, by go_num, ⟨by rw [HM.out]; exact hs, RR.out.2.setCell (p := ⟨g, i, none⟩) hgo.1 _⟩⟩
        case measure => simp [intOf]; omega
      · obtain rfl : i = n := by omega
        go_wp2
        go_ret
        refine ⟨ret_int (by rw [HM.out]), ?_, RR.out.2⟩
        have := RR.out.1
        rw [List.drop_of_length_le (by rw [HN.out]; omega), List.append_nil] at this
        exact this

set_option maxHeartbeats 1000000 in
theorem heldIntS_at (v : Value) (k b n : Nat) (w : World) (h : OwnI b w v (mNums k n)) (hl : k + n ≤ 1000000000) :
    Calls Try.prog 30 #[v, .int .i64 k] w fun e w' => e = .returned (.int .i64 (k + n : Nat)) ∧ Below w.heap.size w w' := by
  rcases owni_shape h with ⟨rfl, hx⟩ | ⟨g, cap, rfl, hcap⟩
  · have hn : n = 0 := by have := congrArg List.length hx; rw [mNums_len] at this; exact this
    subst hn
    go_enter Try.func30, Try.ntmps30
    go_wp2
    go_loop [1, 5] (fun kk i => kk = .int .i64 k ∧ i = .int .i64 0) (fun _ _ => 0)
    case atStart => exact ⟨rfl, rfl⟩
    case round =>
      obtain ⟨rfl, rfl⟩ := hrel
      go_wp2
      go_ret
      exact ⟨by simp, Below.refl _ _⟩
  · have HH := Lib.hid h.row
    rw [mNums_len] at HH hcap ⊢
    clear h
    go_enter Try.func30, Try.ntmps30
    go_wp2
    go_loopw [1, 5] (fun kk ii wr => ∃ i m : Nat, i ≤ n ∧ m ≤ 1000000000 ∧ Hid (m = k + i) ∧ ii = .int .i64 i ∧ kk = .int .i64 m ∧ ∃ q, wr = w.drewN q) (fun _ ii _ => n - (intOf ii).toNat)
    case atStart => exact ⟨0, k, Nat.zero_le _, by omega, rfl, rfl, rfl, 0, rfl⟩
    case round =>
      obtain ⟨i, m, hi, hm2, HM, rfl, rfl, q, rfl⟩ := hrel
      by_cases hlt : i < n
      · have i1 : (i : Int) < (n : Int) := by omega
        have i0 : (0 : Int) ≤ (i : Int) := by omega
        have hm3 : m < 1000000000 := by have := HM.out; omega
        obtain ⟨g', hg', hc⟩ := HH.out.2.2 i _ (mNums_at hlt)
        cases hg'
        rw [← HM.out] at hc
        have hbb : ((m : Int) != (m : Int)) = false := by simp
        go_wp2
        go_roundw
        case rel => exact ⟨i + 1, m + 1, by omega, by omega, by have := HM.out; show m + 1 = k + (i + 1); omega, by go_num, by go_num, _, rfl⟩
        case measure => simp [intOf]; omega
      · obtain rfl : i = n := by omega
        go_wp2
        go_ret
        exact ⟨ret_int (by rw [HM.out]), below_draws q⟩
set_option maxHeartbeats 1000000 in
theorem eqIntS_same (a a' : Option Addr) (n c c' : Nat) (xs : List Int) (hn : n ≤ 1048576) (w : World) (h : IntAt w a n c xs) (h' : IntAt w a' n c' xs) :
    Calls Try.prog 28 #[.slice a n c, .slice a' n c'] w fun e w' => e = .returned (.bool true) ∧ Below w.heap.size w w' := by
  have H1 := Lib.hid h
  have H2 := Lib.hid h'
  have hc := h.2.1
  have hc' := h'.2.1
  clear h h'
  go_enter Try.func28, Try.ntmps28
  go_wp2_with fail
  go_loopw [5] (fun ii wr => ∃ i : Nat, i ≤ n ∧ ii = .int .i64 i ∧ ∃ m, wr = w.drewN m) (fun ii _ => n - (intOf ii).toNat)
  case atStart => exact ⟨0, Nat.zero_le _, rfl, 0, rfl⟩
  case round =>
    obtain ⟨i, hi, rfl, m, rfl⟩ := hrel
    by_cases hlt : i < n
    · obtain ⟨x, hy⟩ : ∃ y, xs[i]? = some y := ⟨_, List.getElem?_eq_getElem (by rw [H1.out.1]; exact hlt)⟩
      obtain ⟨g, rfl, c0⟩ := H1.out.2.2 i _ hy
      obtain ⟨g', rfl, d0⟩ := H2.out.2.2 i _ hy
      have i1 : (i : Int) < (n : Int) := by omega
      have i0 : (0 : Int) ≤ (i : Int) := by omega
      clear hy
      go_wp2_with fail
      go_quiet (fail)
      go_wp2
      go_roundw
      case rel => exact ⟨i + 1, by omega, by go_num, _, rfl⟩
      case measure => simp [intOf]; omega
    · go_wp2
      go_ret
      exact ⟨rfl, below_draws _⟩
end Go.Proofs.Ytlnjaebfdemlgaa
