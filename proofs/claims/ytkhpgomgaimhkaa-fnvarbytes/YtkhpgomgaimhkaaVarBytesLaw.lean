/- The walk of the law FnVarBytes. -/
import Derived.Test.YtkhpgomgaimhkaaAt
import Derived.Test.YtkhpgomgaimhkaaBig
import Derived.Test.YtkhpgomgaimhkaaVarAs
import Derived.Test.YtkhpgomgaimhkaaGetVar
namespace Go.Proofs.Ytkhpgomgaimhkaa
open Go.RowKit
set_option linter.unusedVariables false

theorem groups_at : ∀ (l : List UInt8), Groups l → ∀ (i : Nat) (c : UInt8), l[i]? = some c → (128 ≤ c.toNat ↔ i + 1 < l.length)
  | [], h, _, _, _ => h.elim
  | [d], h, i, c, hc => by
    simp only [Groups] at h
    cases i with
    | zero => simp at hc; subst hc; simp; omega
    | succ i => simp at hc
  | d :: f :: l, h, i, c, hc => by
    cases i with
    | zero => simp at hc; subst hc; simp; exact h.1
    | succ i =>
      have := groups_at (f :: l) h.2 i c (by simpa using hc)
      rw [this]; simp
theorem varVal_down (s : ByteArray) (k : Nat) (h : k < s.size) : varVal (s.data.toList.drop k) = 128 * varVal (s.data.toList.drop (k + 1)) + s[k].toNat % 128 := by
  rw [List.drop_eq_getElem_cons (by simpa using h), varVal]
  have e : s.data.toList[k]'(by simpa using h) = s[k] := rfl
  rw [e]; omega
theorem and127 (c : UInt8) : bits .and .u8 (c.toNat : Int) 127 = ((c.toNat % 128 : Nat) : Int) := by
  have hc := c.toNat_lt
  have := u8_and_nat c.toNat 127 (by omega) (by omega)
  rw [show ((127 : Nat) : Int) = 127 from rfl] at this
  rw [this, show 127 = 2 ^ 7 - 1 from rfl, Nat.and_two_pow_sub_one_eq_mod]
theorem end_none (l : List UInt8) : getVarAt (l ++ [0]) ((l.length : Int) + 1) = none := by
  have e : (l.length : Int) + 1 = ((l.length + 1 : Nat) : Int) := by omega
  rw [e]
  exact getVar_none (i := 0) (by simp) ⟨Nat.zero_le _, fun c hc => by simp at hc⟩ (by omega) (Or.inl (by simp))
theorem more_some (N : Nat) (h : 0 < N) (h2 : N < 4294967296) : getVarAt (128 :: varB N) 0 = some (128 :: varB N) := by
  have e : (128 : UInt8) :: varB N = varB (128 * N) := by
    rw [var_step (n := 128 * N) (by omega)]
    have e1 : 128 * N / 128 = N := by omega
    have e2 : 128 * N % 128 = 0 := by omega
    rw [e1, e2]; rfl
  have := getVar_back (128 * N) (by omega) [] []
  rw [e]
  simpa using this
theorem more_none : getVarAt (128 :: varB 0) 0 = none := by
  rw [var_small (by omega)]
  decide +kernel

set_option maxHeartbeats 1000000 in
set_option maxRecDepth 100000 in
theorem fnVarBytes_walk (a0 : Option Addr) (len0 cap0 : Nat) (z0 : List Int) (w : World) (w0 : IsRow .u8 w a0 len0 cap0 z0) :
    Calls Try.prog 9 #[.slice a0 len0 cap0] w fun e w' => e = .returned (.bool true) ∧ Below w.heap.size w w' := by
  have hr := bytes_of_row w0 w.heap.size (Nat.le_refl _)
  have HR := Lib.hid hr
  clear hr w0
  by_cases hbig : len0 ≤ 1048576
  · go_enter Try.func9, Try.ntmps9
    go_wp2_with fail
    refine (big_no a0 len0 cap0 _ hbig).mono ?_
    rintro e w1 ⟨rfl, rfl⟩
    go_wp2_with fail
    refine (at_some a0 len0 cap0 z0 0 _ _ HR.out hbig (by omega)).mono ?_
    rintro e w1 ⟨x0, h0, rfl, rfl⟩
    go_wp2_with fail
    refine (at_some a0 len0 cap0 z0 1 _ _ HR.out hbig (by omega)).mono ?_
    rintro e w1 ⟨x1, h1, rfl, rfl⟩
    go_wp2_with fail
    refine (at_some a0 len0 cap0 z0 2 _ _ HR.out hbig (by omega)).mono ?_
    rintro e w1 ⟨x2, h2, rfl, rfl⟩
    go_wp2_with fail
    refine (at_some a0 len0 cap0 z0 3 _ _ HR.out hbig (by omega)).mono ?_
    rintro e w1 ⟨x3, h3, rfl, rfl⟩
    go_wp2_with fail
    obtain ⟨N, hN, hN2⟩ : ∃ N : Nat, ((x0 : Int) * 256 + x1) * 65536 + x2 * 256 + x3 = (N : Int) ∧ N < 4294967296 := ⟨(x0 * 256 + x1) * 65536 + x2 * 256 + x3, by omega, by omega⟩
    rw [hN]
    clear hN h0 h1 h2 h3 HR
    obtain ⟨A, hA, hAl⟩ := text_of (varB N)
    have HA := Lib.hid (show A.data.toList = putVar N by rw [hA, putVar_in (by omega)])
    have HAL := Lib.hid hA
    have ha9 : A.size ≤ 9 := by rw [hAl]; exact var_len_le 8 N (by omega)
    have ha1 : 1 ≤ A.size := by rw [hAl]; exact List.length_pos_iff.2 (var_ne N)
    have HG := Lib.hid (show ∀ i (h : i < A.size), (128 ≤ A[i].toNat ↔ i + 1 < A.size) from fun i h => by
      have := groups_at (varB N) (groups_var N) i A[i] (by rw [← hA]; exact byte_at A i h)
      rwa [← hAl] at this)
    have HVL := Lib.hid (show ∀ k, (varVal (A.data.toList.drop k) : Int) ≤ 4294967295 from fun k => by
      have h1 : ∀ (l : List UInt8), varVal (l.drop k) ≤ varVal l := by
        induction k with
        | zero => intro l; simp
        | succ k ih =>
          intro l
          cases l with
          | nil => simp
          | cons c l => have := ih l; simp only [List.drop_succ_cons, varVal]; omega
      have := h1 A.data.toList
      rw [hA, varVal_var] at this
      rw [hA]
      omega)
    have HN := Lib.hid hN2
    have hn3 : (N : Int) ≤ 4294967295 := by omega
    clear hA hAl hN2
    refine (implPutVar_as _ A HA.out _).mono ?_
    rintro e w1 ⟨rfl, hb⟩
    have B1 := Lib.hid hb
    clear hb
    go_wp2_with fail
    go_loop [5, 6] (fun n i => ∃ k : Nat, k ≤ A.size ∧ i = .int .i64 ((k : Int) - 1) ∧ n = .int .i64 (varVal (A.data.toList.drop k) : Nat)) (fun _ i => ((intOf i) + 1).toNat)
    case atStart => exact ⟨A.size, Nat.le_refl _, rfl, by rw [List.drop_of_length_le (by simp)]; rfl⟩
    case round =>
      obtain ⟨k, hk, rfl, rfl⟩ := hrel
      cases k with
      | zero =>
        have e1 : ((0 : Nat) : Int) - 1 = -1 := by omega
        have e2 : varVal (A.data.toList.drop 0) = N := by rw [List.drop_zero, HAL.out, varVal_var]
        rw [e1, e2]
        clear e1 e2 hk
        have h0s : (⟨#[0]⟩ : ByteArray).size = 1 := rfl
        have h8s : (⟨#[128]⟩ : ByteArray).size = 1 := rfl
        have HE1 := Lib.hid (show (A ++ (⟨#[0]⟩ : ByteArray)).data.toList = varB N ++ [0] by rw [ByteArray.data_append, Array.toList_append, HAL.out])
        have HE2 := Lib.hid (show ((⟨#[128]⟩ : ByteArray) ++ A).data.toList = 128 :: varB N by rw [ByteArray.data_append, Array.toList_append, HAL.out]; rfl)
        have HLN := Lib.hid (show A.size = (varB N).length by rw [← HAL.out]; simp)
        go_wp2_with fail
        refine (implGetVar _ _ _ (by rw [ByteArray.size_append]; unfold maxLen; omega)).mono ?_
        unfold VarOut
        have hn1 := getVar1_none (end_none (varB N))
        rw [HE1.out, HLN.out, hn1.1, hn1.2, ← HLN.out]
        clear hn1
        rintro e w2 ⟨rfl, hb⟩
        have B2 := Lib.hid (B1.out.trans (hb.mono B1.out.size))
        clear hb B1
        by_cases h0 : N = 0
        · subst h0
          go_wp2_with fail
          refine (implGetVar _ _ _ (by rw [ByteArray.size_append]; unfold maxLen; omega)).mono ?_
          unfold VarOut
          have hn1 := getVar1_none more_none
          rw [HE2.out, hn1.1, hn1.2]
          clear hn1
          rintro e w3 ⟨rfl, hb⟩
          have B3 := Lib.hid (B2.out.trans (hb.mono B2.out.size))
          clear hb B2
          go_wp2_with fail
          refine (specPutVar_as _ A HA.out _).mono ?_
          rintro e w4 ⟨rfl, hb⟩
          have B4 := Lib.hid (B3.out.trans (hb.mono B3.out.size))
          clear hb B3
          go_wp2
          go_ret
          exact ⟨rfl, B4.out⟩
        · have hz1 : (0 : Int) < (N : Int) := by omega
          go_wp2_with fail
          refine (implGetVar _ _ _ (by rw [ByteArray.size_append]; unfold maxLen; omega)).mono ?_
          unfold VarOut
          have hn1 := getVar1_some (more_some N (by omega) HN.out)
          rw [HE2.out, hn1.1, hn1.2, List.length_cons, ← HLN.out]
          have e3 : (0 : Int) + ((A.size + 1 : Nat) : Int) = 1 + (A.size : Int) := by omega
          rw [e3]
          generalize ((varVal (128 :: varB N) : Nat) : Int) = V
          clear hn1 h0 e3
          rintro e w3 ⟨rfl, hb⟩
          have B3 := Lib.hid (B2.out.trans (hb.mono B2.out.size))
          clear hb B2
          go_wp2_with fail
          refine (specPutVar_as _ A HA.out _).mono ?_
          rintro e w4 ⟨rfl, hb⟩
          have B4 := Lib.hid (B3.out.trans (hb.mono B3.out.size))
          clear hb B3
          go_wp2
          go_ret
          exact ⟨rfl, B4.out⟩
      | succ k =>
        have hk1 : k < A.size := by omega
        have HU := Lib.hid (varVal_down A k hk1)
        have hu := HVL.out (k + 1)
        have h127 := and127 A[k]
        have hg := HG.out k hk1
        have e1 : ((k + 1 : Nat) : Int) - 1 = (k : Int) := by omega
        rw [e1]
        clear e1
        have hc := A[k].toNat_lt
        obtain ⟨V, eV⟩ : ∃ V : Int, ((varVal (A.data.toList.drop (k + 1)) : Nat) : Int) = V := ⟨_, rfl⟩
        have hv0 : 0 ≤ V := by omega
        rw [eV] at hu ⊢
        have EV := Lib.hid eV
        clear eV
        by_cases hm : 128 ≤ A[k].toNat
        · have hl := hg.1 hm
          have hl1 : (k : Int) + 1 < (A.size : Int) := by omega
          have hm1 : decide (128 ≤ ((A[k].toNat : Nat) : Int)) = true := by simp; omega
          clear hg
          go_wp2
          go_round
          case rel => exact ⟨k, by omega, rfl, congrArg (Value.int IntKind.i64) (by have := HU.out; have := EV.out; omega)⟩
          case measure => simp [intOf]
        · have hl : ¬ k + 1 < A.size := fun h => hm (hg.2 h)
          have hl1 : ¬ (k : Int) + 1 < (A.size : Int) := by omega
          clear hg
          go_wp2
          go_round
          case rel => exact ⟨k, by omega, rfl, congrArg (Value.int IntKind.i64) (by have := HU.out; have := EV.out; omega)⟩
          case measure => simp [intOf]
  · go_enter Try.func9, Try.ntmps9
    go_wp2_with fail
    refine (big_yes a0 len0 cap0 _ hbig).mono ?_
    rintro e w1 ⟨rfl, rfl⟩
    go_wp2
    go_ret
    exact ⟨rfl, Below.refl _ _⟩
end Go.Proofs.Ytkhpgomgaimhkaa
