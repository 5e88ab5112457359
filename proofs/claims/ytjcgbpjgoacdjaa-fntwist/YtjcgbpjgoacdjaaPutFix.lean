/- Contract of the model's PutFix. -/
import Derived.Test.YtjcgbpjgoacdjaaZ0
namespace Go.Proofs.Ytjcgbpjgoacdjaa
open Go.RowKit
set_option linter.unusedVariables false

set_option maxHeartbeats 400000 in
theorem specPutFix_in (n b : Nat) (w : World) (hn : (n : Int) ≤ 9223372036854775807) (h1 : 1 ≤ b) (h4 : b ≤ 4) :
   Calls Try.prog 57 #[.int .i64 n, .int .i64 b] w (TextIs w (fixB n b)) := by
 go_enter Try.func57, Try.ntmps57
 go_wp2_with fail
 refine (specIn_yes _ _ _ _ (by omega) (by omega)).mono ?_
 rintro e w1 ⟨rfl, rfl⟩
 go_wp2_with fail
 go_loopw [5, 6] (fun v i wr => ∃ (k c g : Nat), k ≤ b ∧ i = .int .i64 k ∧ v = .slice (some ⟨g, 0, none⟩) k c ∧ BRow w wr v (fixB n k)) (fun _ i _ => b - (intOf i).toNat)
 case atStart => exact ⟨0, 0, _, Nat.zero_le _, rfl, rfl, brow_made w⟩
 case round =>
   obtain ⟨k, c, g, hk, rfl, rfl, t⟩ := hrel
   have TT := Lib.hid t
   have hl := fix_length n k
   by_cases hlt : k < b
   · have HS := Lib.hid (fix_succ n k)
     have HL := Lib.hid hl
     clear t hl
     go_wp2_with (at_builtin; refine wp_pushB (UInt8.ofNat (n / 2 ^ (8 * k))) (byteInt n k) rfl _ _ rfl rfl rfl TT.out (by rw [HL.out]; omega) ?_; rw [← HS.out, HL.out]; intro g2 c2 w2 t2; have T2 := Lib.hid t2; clear t2)
     go_roundw
     case rel => exact ⟨k + 1, c2, g2, by omega, by go_num, rfl, T2.out⟩
     case measure => simp [intOf]; omega
   · obtain rfl : k = b := by omega
     have hcv := t.str hl
     clear t hl
     go_wp2
     go_ret
     exact ⟨rfl, TT.out.below⟩

set_option maxHeartbeats 400000 in
theorem specPutFix (n b : Int) (w : World) (h0 : -9223372036854775808 ≤ n) (h1 : n ≤ 9223372036854775807) :
   Calls Try.prog 57 #[.int .i64 n, .int .i64 b] w (TextIs w (putFix n b)) := by
 by_cases hn : n < 0
 · go_enter Try.func57, Try.ntmps57
   go_wp2
   go_ret
   exact ⟨ret_text (a := []) (putFix_no (by omega)).symm, Below.refl _ _⟩
 · obtain ⟨n, rfl⟩ := Int.eq_ofNat_of_zero_le (by omega : 0 ≤ n)
   by_cases hb : b < 1 ∨ 4 < b
   · have HB := Lib.hid hb
     clear hb
     go_enter Try.func57, Try.ntmps57
     go_wp2_with fail
     refine (specIn_no _ _ _ _ HB.out).mono ?_
     rintro e w1 ⟨rfl, rfl⟩
     go_wp2
     go_ret
     exact ⟨ret_text (a := []) (putFix_no (Or.inr HB.out)).symm, Below.refl _ _⟩
   · obtain ⟨b, rfl⟩ := Int.eq_ofNat_of_zero_le (by omega : 0 ≤ b)
     rw [putFix_in (by omega) (by omega)]
     exact specPutFix_in n b w h1 (by omega) (by omega)
end Go.Proofs.Ytjcgbpjgoacdjaa
