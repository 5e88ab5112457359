/- Contracts of the program's PutVar and of the model's. -/
import Derived.Test.YtkomnnijnggbpaaZ0
import Derived.Laws.Bits128
namespace Go.Proofs.Ytkomnnijnggbpaa
open Go.RowKit
set_option linter.unusedVariables false

def TextOut (w : World) (l : List UInt8) (e : Ending) (w' : World) : Prop := e = .returned (.string ⟨l.toArray⟩) ∧ Below w.heap.size w w'

def Left (n m : Nat) (l : List UInt8) : Prop := varB n = l ++ varB m ∧ m ≤ n
theorem Left.next {n m : Nat} {l : List UInt8} (h : Left n m l) (hm : 128 ≤ m) : Left n (m / 128) (l ++ [UInt8.ofNat (m % 128 + 128)]) := by
 refine ⟨?_, by have := h.2; omega⟩
 rw [h.1, var_step hm]; simp
theorem Left.last {n m : Nat} {l : List UInt8} (h : Left n m l) (hm : m < 128) : l ++ [UInt8.ofNat m] = varB n := by rw [h.1, var_small hm]
theorem Left.len {n m : Nat} {l : List UInt8} (h : Left n m l) (hn : (n : Int) ≤ 4611686018427387903) : l.length ≤ 9 := by
 have h9 := var_len_le 8 n (by omega)
 rw [h.1, List.length_append] at h9
 omega
theorem putVar_no {n : Int} (h : n < 0 ∨ 4611686018427387903 < n) : putVar n = [] := by unfold putVar; rw [if_neg (by omega)]

theorem group_moreI (m : Int) (h : 0 ≤ m) : m % 128 + 128 = ((UInt8.ofNat (m.toNat % 128 + 128)).toNat : Int) := by rw [UInt8.toNat_ofNat']; omega
theorem group_lastI (m : Int) (h0 : 0 ≤ m) (h : m < 128) : m = ((UInt8.ofNat m.toNat).toNat : Int) := by rw [UInt8.toNat_ofNat']; omega

set_option maxHeartbeats 400000 in
theorem implPutVar_in (n : Int) (w : World) (h0 : 0 ≤ n) (hn : n ≤ 4611686018427387903) :
   Calls Try.prog 54 #[.int .i64 n] w (TextOut w (varB n.toNat)) := by
 go_enter Try.func54, Try.ntmps54
 go_wp2
 go_loopw [0, 3] (fun i v wr => ∃ (m : Int) (l : List UInt8), 0 ≤ m ∧ m ≤ n ∧ Left n.toNat m.toNat l ∧ i = .int .i64 m ∧ BRow w wr v l) (fun i _ _ => (intOf i).toNat)
 case atStart => exact ⟨n, [], h0, Int.le_refl _, ⟨rfl, Nat.le_refl _⟩, rfl, brow_nil w⟩
 case round =>
   obtain ⟨m, l, hm0, hm1, hL, rfl, t⟩ := hrel
   have TT := Lib.hid t
   have HL := Lib.hid hL
   have hl := hL.len (by omega)
   clear t hL
   by_cases hlt : 128 ≤ m
   · go_wp2_with (at_builtin; (refine wp_pushB (UInt8.ofNat (m.toNat % 128 + 128)) (group_moreI m hm0) rfl _ _ rfl rfl rfl TT.out (by omega) ?_); intro g2 c2 w2 t2; have T2 := Lib.hid t2; clear t2)
     go_roundw
     case rel =>
       have e : (m / 128).toNat = m.toNat / 128 := by omega
       exact ⟨m / 128, _, by omega, by omega, by rw [e]; exact HL.out.next (by omega), rfl, T2.out⟩
     case measure => simp [intOf]; omega
   · go_wp2_with (at_builtin; (refine wp_pushB (UInt8.ofNat m.toNat) (group_lastI m hm0 (by omega)) rfl _ _ rfl rfl rfl TT.out (by omega) ?_); intro g2 c2 w2 t2; have T2 := Lib.hid t2; have hcv := t2.str (by simp); clear t2)
     go_ret
     exact ⟨ret_text (HL.out.last (by omega)), T2.out.below⟩

theorem implPutVar (n : Int) (w : World) :
   Calls Try.prog 54 #[.int .i64 n] w (TextOut w (putVar n)) := by
 by_cases h0 : n < 0
 · go_enter Try.func54, Try.ntmps54
   go_wp2
   go_ret
   exact ⟨ret_text (a := []) (putVar_no (Or.inl h0)).symm, Below.refl _ _⟩
 · by_cases h1 : 4611686018427387903 < n
   · go_enter Try.func54, Try.ntmps54
     go_wp2
     go_ret
     exact ⟨ret_text (a := []) (putVar_no (Or.inr h1)).symm, Below.refl _ _⟩
   · have e : putVar n = varB n.toNat := by unfold putVar; rw [if_pos (by omega)]
     rw [e]
     exact implPutVar_in n w (by omega) (by omega)

theorem or_more (m : Int) : bits .or .i64 (bits .and .i64 m 127) 128 = m % 128 + 128 := by
 rw [i64_and127]
 obtain ⟨k, hk⟩ := Int.eq_ofNat_of_zero_le (Int.emod_nonneg m (by omega : (128 : Int) ≠ 0))
 have hl : k < 2 ^ 7 := by omega
 have h2 : 128 + k = 128 ||| k := Nat.two_pow_add_eq_or_of_lt hl 1
 have := i64_or_nat k 128 (by omega) (by omega)
 rw [hk]
 have e : (128 : Int) = ((128 : Nat) : Int) := rfl
 rw [e, this, Nat.or_comm]
 omega

set_option maxHeartbeats 400000 in
theorem specPutVar_in (n : Int) (w : World) (h0 : 0 ≤ n) (hn : n ≤ 4611686018427387903) :
   Calls Try.prog 33 #[.int .i64 n] w (TextOut w (varB n.toNat)) := by
 go_enter Try.func33, Try.ntmps33
 go_wp2_with fail
 refine (specIn_yes _ _ _ _ h0 hn).mono ?_
 rintro e w1 ⟨rfl, rfl⟩
 go_wp2_with fail
 go_loopw [0, 3] (fun i v wr => ∃ (m : Int) (l : List UInt8), 0 ≤ m ∧ m ≤ n ∧ Left n.toNat m.toNat l ∧ i = .int .i64 m ∧ BRow w wr v l) (fun i _ _ => (intOf i).toNat)
 case atStart => exact ⟨n, [], h0, Int.le_refl _, ⟨rfl, Nat.le_refl _⟩, rfl, brow_made w⟩
 case round =>
   obtain ⟨m, l, hm0, hm1, hL, rfl, t⟩ := hrel
   have TT := Lib.hid t
   have HL := Lib.hid hL
   have hl := hL.len (by omega)
   clear t hL
   by_cases hlt : 128 ≤ m
   · go_wp2_with (at_builtin; (refine wp_pushB (UInt8.ofNat (m.toNat % 128 + 128)) (by rw [or_more]; first | exact group_moreI m hm0 | (have := group_moreI m hm0; omega)) rfl _ _ rfl rfl rfl TT.out (by omega) ?_); intro g2 c2 w2 t2; have T2 := Lib.hid t2; clear t2)
     go_roundw
     case rel =>
       have e : (m / 128).toNat = m.toNat / 128 := by omega
       exact ⟨m / 128, _, by omega, by omega, by rw [e]; exact HL.out.next (by omega), rfl, T2.out⟩
     case measure => simp [intOf]; omega
   · go_wp2_with (at_builtin; (refine wp_pushB (UInt8.ofNat m.toNat) (group_lastI m hm0 (by omega)) rfl _ _ rfl rfl rfl TT.out (by omega) ?_); intro g2 c2 w2 t2; have T2 := Lib.hid t2; have hcv := t2.str (by simp); clear t2)
     go_ret
     exact ⟨ret_text (HL.out.last (by omega)), T2.out.below⟩

theorem specPutVar (n : Int) (w : World) :
   Calls Try.prog 33 #[.int .i64 n] w (TextOut w (putVar n)) := by
 by_cases h : n < 0 ∨ 4611686018427387903 < n
 · have H := Lib.hid h
   clear h
   go_enter Try.func33, Try.ntmps33
   go_wp2_with fail
   refine (specIn_no _ _ _ _ H.out).mono ?_
   rintro e w1 ⟨rfl, rfl⟩
   go_wp2
   go_ret
   exact ⟨ret_text (a := []) (putVar_no H.out).symm, Below.refl _ _⟩
 · have e : putVar n = varB n.toNat := by unfold putVar; rw [if_pos (by omega)]
   rw [e]
   exact specPutVar_in n w (by omega) (by omega)
end Go.Proofs.Ytkomnnijnggbpaa
