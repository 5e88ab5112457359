/- The laws' plain texts. -/
import Derived.Test.YtjcgbpjgoacdjaaAt
import Derived.Test.YtjcgbpjgoacdjaaZ4
import Derived.Test.YtjcgbpjgoacdjaaZ0
namespace Go.Proofs.Ytjcgbpjgoacdjaa
open Go.RowKit
set_option linter.unusedVariables false

def sevenV : Array Value := #[.string ⟨#[97, 98, 99, 100]⟩, .string ⟨#[114, 111, 119]⟩, .string ⟨#[120, 121, 122, 122, 121]⟩, .string ⟨#[97, 97, 97, 97, 97, 97, 97, 97]⟩, .string ⟨#[48]⟩, .string ⟨#[0, 0]⟩, .string ⟨#[108, 111, 110, 103, 101, 114, 32, 119, 111, 114, 100, 115, 32, 99, 111, 109, 101, 32, 97, 103, 97, 105, 110]⟩]
theorem seven_at (j : Nat) (h : j < 7) : ∃ P : ByteArray, sevenV[j]? = some (.string P) ∧ 1 ≤ P.size ∧ P.size ≤ 23 := by
 match j, h with
 | 0, _ => exact ⟨_, rfl, by decide, by decide⟩
 | 1, _ => exact ⟨_, rfl, by decide, by decide⟩
 | 2, _ => exact ⟨_, rfl, by decide, by decide⟩
 | 3, _ => exact ⟨_, rfl, by decide, by decide⟩
 | 4, _ => exact ⟨_, rfl, by decide, by decide⟩
 | 5, _ => exact ⟨_, rfl, by decide, by decide⟩
 | 6, _ => exact ⟨_, rfl, by decide, by decide⟩
theorem seven_cell (w : World) (U j : Nat) (h : j < 7) : ∃ P : ByteArray, (w.alloc (.cells sevenV U)).cell? ⟨w.heap.size, j, none⟩ = some (.string P) ∧ 1 ≤ P.size ∧ P.size ≤ 23 := by
 obtain ⟨P, h1, h2⟩ := seven_at j h
 exact ⟨P, by rw [fresh_cell]; exact h1, h2⟩

set_option maxHeartbeats 1000000 in
set_option maxRecDepth 100000 in
theorem plain_any (a : Option Addr) (len cap : Nat) (zs : List Int) (f n : Nat) (hf : f ≤ 1000) (w : World) (hr : Bytes w w.heap.size a len zs) (hl : len ≤ 1048576) (hn2 : n ≤ 80) :
   Calls Try.prog 26 #[.slice a len cap, .int .i64 f, .int .i64 n] w fun e w' => ∃ s : ByteArray, s.size ≤ 23 * n ∧ e = .returned (.string s) ∧ Below w.heap.size w w' := by
 have HR := Lib.hid hr
 clear hr
 go_enter Try.func26, Try.ntmps26
 go_wp2_with fail
 go_loopw [7, 8] (fun t i wr => ∃ (k : Nat) (T : ByteArray), k ≤ n ∧ i = .int .i64 k ∧ t = .string T ∧ T.size ≤ 23 * k ∧ Below w.heap.size w wr) (fun _ i _ => n - (intOf i).toNat)
 case atStart => exact ⟨0, ⟨#[]⟩, by omega, rfl, rfl, by decide, Below.refl _ _⟩
 case round =>
   obtain ⟨k, T, hk, rfl, rfl, hT2, hb⟩ := hrel
   have HB := Lib.hid hb
   clear hb
   by_cases hlt : k < n
   · go_wp2_with fail
     have hB2 := HB.out.alloc HB.out.size (.cells sevenV 9)
     have HB2 := Lib.hid hB2
     clear hB2
     have e1 : (f : Int) + (k : Int) = ((f + k : Nat) : Int) := by omega
     rw [e1]
     change Calls _ _ _ (wr.alloc (.cells sevenV 9)) _
     refine (at_some a len cap zs (f + k) _ _ (below_bytes HR.out HB2.out) hl (by omega)).mono ?_
     rintro e w1 ⟨x, hx, rfl, rfl⟩
     obtain ⟨P, hP, hP1, hP2⟩ := seven_cell wr 9 (x % 7) (by omega)
     generalize wr.alloc (.cells sevenV 9) = W2 at *
     have j1 : ((x : Int) % 7).toNat = x % 7 := by omega
     have j2 : (0 : Int) ≤ (x : Int) % 7 := by omega
     have j3 : (x : Int) % 7 < 7 := by omega
     have HS := Lib.hid (show (T ++ P).size = T.size + P.size from ByteArray.size_append ..)
     have t9 : T.size ≤ 1840 := by omega
     clear e1
     go_wp2_with fail
     go_roundw
     case rel => exact ⟨k + 1, T ++ P, by omega, by go_num, rfl, by rw [HS.out]; omega, HB2.out⟩
     case measure => simp [intOf]; omega
   · obtain rfl : k = n := by omega
     go_wp2
     go_ret
     exact ⟨T, by omega, rfl, HB.out⟩
end Go.Proofs.Ytjcgbpjgoacdjaa
