/- The laws' sameTexts over one list in two rows. -/
import Derived.Test.YtjcgbpjgoacdjaaZ0
namespace Go.Proofs.Ytjcgbpjgoacdjaa
open Go.RowKit
set_option linter.unusedVariables false

set_option maxHeartbeats 1000000 in
theorem sameStrs_same (a a' : Option Addr) (n c c' : Nat) (xs : List ByteArray) (hn : n ≤ 1048576) (w : World) (h : StrAt w a n c xs) (h' : StrAt w a' n c' xs) :
   Calls Try.prog 22 #[.slice a n c, .slice a' n c'] w fun e w' => e = .returned (.bool true) ∧ Below w.heap.size w w' := by
 have H1 := Lib.hid h
 have H2 := Lib.hid h'
 have hc := h.2.1
 have hc' := h'.2.1
 clear h h'
 go_enter Try.func22, Try.ntmps22
 go_wp2_with fail
 go_loopw [5] (fun ii wr => ∃ i : Nat, i ≤ n ∧ ii = .int .i64 i ∧ ∃ m, wr = w.drewN m) (fun ii _ => n - (intOf ii).toNat)
 case atStart => exact ⟨0, Nat.zero_le _, rfl, 0, rfl⟩
 case round =>
   obtain ⟨i, hi, rfl, m, rfl⟩ := hrel
   by_cases hlt : i < n
   · obtain ⟨x, hy⟩ : ∃ y, xs[i]? = some y := ⟨_, List.getElem?_eq_getElem (by rw [H1.out.1]; exact hlt)⟩
     obtain ⟨g, rfl, c0⟩ := H1.out.2.2 i _ hy
     obtain ⟨g', rfl, d0⟩ := H2.out.2.2 i _ hy
     have i1 : (i : Int) < (n : Int) := by omega
     have i0 : (0 : Int) ≤ (i : Int) := by omega
     clear hy
     go_wp2_with fail
     go_quiet (fail)
     go_wp2
     go_roundw
     case rel => exact ⟨i + 1, by omega, by go_num, _, rfl⟩
     case measure => simp [intOf]; omega
   · go_wp2
     go_ret
     exact ⟨rfl, below_draws _⟩
theorem StrAt.take {w : World} {a : Option Addr} {n c : Nat} {xs : List ByteArray} (h : StrAt w a n c xs) {k : Nat} (hk : k ≤ n) : StrAt w a k c (xs.take k) := by
 refine ⟨by rw [List.length_take, h.1]; omega, Nat.le_trans hk h.2.1, fun j x hj => ?_⟩
 rw [List.getElem?_take] at hj
 split at hj
 · exact h.2.2 j x hj
 · cases hj
end Go.Proofs.Ytjcgbpjgoacdjaa
