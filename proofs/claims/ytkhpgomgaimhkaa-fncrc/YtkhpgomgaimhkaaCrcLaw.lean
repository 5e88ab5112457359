/- The walk of the law FnCrc. -/
import Derived.Test.YtkhpgomgaimhkaaAt
import Derived.Test.YtkhpgomgaimhkaaBig
import Derived.Test.YtkhpgomgaimhkaaCrc
import Derived.Test.YtkhpgomgaimhkaaBuf
import Derived.Test.YtkhpgomgaimhkaaBentPure
import Derived.Test.YtkhpgomgaimhkaaDrawSeal
namespace Go.Proofs.Ytkhpgomgaimhkaa
open Go.RowKit
set_option linter.unusedVariables false

theorem or_one (X : Nat) (h : X < 4294967296) : ∃ M : Nat, bits .or .i64 (X : Int) 1 = (M : Int) ∧ M < 4294967296 ∧ M % 2 = 1 := by
  have h1 := i64_or_nat X 1 (by omega) (by omega)
  rw [show ((1 : Nat) : Int) = 1 from rfl] at h1
  have h2 : X ||| 1 < 2 ^ 32 := Nat.or_lt_two_pow (by omega) (by omega)
  refine ⟨X ||| 1, h1, by omega, ?_⟩
  have := Nat.or_mod_two_pow (a := X) (b := 1) (n := 1)
  rw [show 2 ^ 1 = 2 from rfl] at this
  rw [this]
  rcases Nat.mod_two_eq_zero_or_one X with h | h <;> rw [h] <;> rfl
theorem bit_of (M k : Nat) (h : M < 4294967296) : bits .and .i64 ((M : Int) / 2 ^ k) 1 = ((M / 2 ^ k % 2 : Nat) : Int) := by
  have e : (M : Int) / 2 ^ k = ((M / 2 ^ k : Nat) : Int) := by simp
  have hl : M / 2 ^ k ≤ M := Nat.div_le_self _ _
  have := i64_and_nat (M / 2 ^ k) 1 (by omega) (by omega)
  rw [show ((1 : Nat) : Int) = 1 from rfl] at this
  rw [e, this, Nat.and_one_is_mod]
theorem odd_mod (M k : Nat) (h : M % 2 = 1) (hk : 1 ≤ k) : M % 2 ^ k % 2 = 1 := by
  have : 2 ^ k = 2 * 2 ^ (k - 1) := by rw [← Nat.pow_succ']; congr 1; omega
  rw [this, Nat.mod_mul_right_mod]
  exact h
theorem flip_val (c : UInt8) (j : Nat) (h : j < 8) : Value.int .u8 (bits .xor .u8 (c.toNat : Int) (2 ^ j % 256)) = u8v (flip c j) := by
  have hp := pow8 h
  have hc := c.toNat_lt
  have e : (2 : Int) ^ j % 256 = ((2 ^ j : Nat) : Int) := by
    have : (2 : Int) ^ j = ((2 ^ j : Nat) : Int) := by simp
    rw [this]
    generalize 2 ^ j = q at hp ⊢
    omega
  unfold u8v
  rw [e, u8_xor_nat _ _ (by omega) hp, flip_toNat c j h]
theorem crc_nil : crc [] = 0 := by decide +kernel
/-- The sum tells of the bits that were turned. -/
theorem told (l m : List UInt8) (f M k : Nat) (h : Bent (2 ^ f * (M % 2 ^ k)) l m) (hf : f < 8 * l.length) (hM : M % 2 = 1) (hk : 1 ≤ k) (hM2 : M < 4294967296) : crc m ≠ crc l := by
  refine bent_told l m f (M % 2 ^ k) h (by omega) ?_ (Nat.lt_of_le_of_lt (Nat.mod_le _ _) hM2)
  have h1 := odd_mod M k hM hk
  have h2 := odd_mod (M % 2 ^ k) (8 * l.length - f) h1 (by omega)
  omega

set_option maxHeartbeats 2000000 in
set_option maxRecDepth 100000 in
theorem fnCrc_walk (a0 : Option Addr) (len0 cap0 : Nat) (z0 : List Int) (w : World) (w0 : IsRow .u8 w a0 len0 cap0 z0) :
    Calls Try.prog 7 #[.slice a0 len0 cap0] w fun e w' => e = .returned (.bool true) ∧ Below w.heap.size w w' := by
  have hr := bytes_of_row w0 w.heap.size (Nat.le_refl _)
  have HR := Lib.hid hr
  clear hr w0
  by_cases hbig : len0 ≤ 1048576
  · go_enter Try.func7, Try.ntmps7
    go_wp2_with fail
    refine (big_no a0 len0 cap0 _ hbig).mono ?_
    rintro e w1 ⟨rfl, rfl⟩
    go_wp2_with fail
    refine (drawCrc_at a0 len0 cap0 z0 _ HR.out).mono ?_
    rintro e w1 ⟨t, ht, rfl, hb⟩
    have R1 := Lib.hid (below_bytes HR.out hb)
    have B1 := Lib.hid hb
    clear hb HR
    obtain ⟨s, hs⟩ : ∃ s, t ++ (⟨#[120]⟩ : ByteArray) = s := ⟨_, rfl⟩
    have h1 : (⟨#[120]⟩ : ByteArray).size = 1 := rfl
    have hs1 : 1 ≤ s.size := by rw [← hs, ByteArray.size_append]; omega
    have hs2 : s.size ≤ 101 := by rw [← hs, ByteArray.size_append]; omega
    clear h1
    go_wp2_with fail
    refine (implCrc s _ (by unfold maxLen; omega)).mono ?_
    rintro e w2 ⟨rfl, hb⟩
    have R2 := Lib.hid (below_bytes R1.out hb)
    have B2 := Lib.hid (B1.out.trans (hb.mono B1.out.size))
    clear hb R1 B1 hs
    go_wp2_with fail
    refine (at_some a0 len0 cap0 z0 0 _ _ R2.out hbig (by omega)).mono ?_
    rintro e w3 ⟨x0, h0, rfl, rfl⟩
    go_wp2_with fail
    refine (at_some a0 len0 cap0 z0 1 _ _ R2.out hbig (by omega)).mono ?_
    rintro e w3 ⟨x1, h1, rfl, rfl⟩
    obtain ⟨f, hf, hf2⟩ : ∃ f : Nat, ((x0 : Int) * 256 + x1) % (8 * (s.size : Int)) = (f : Int) ∧ f < 8 * s.size := by
      have e : ((x0 : Int) * 256 + x1) % (8 * (s.size : Int)) = (((x0 * 256 + x1) % (8 * s.size) : Nat) : Int) := by simp
      exact ⟨(x0 * 256 + x1) % (8 * s.size), e, Nat.mod_lt _ (by omega)⟩
    have HF0 := Lib.hid hf
    clear hf
    have hd0 : (8 * (s.size : Int) == 0) = false := beq_eq_false_iff_ne.2 (by omega)
    go_wp2_with fail
    refine (at_some a0 len0 cap0 z0 2 _ _ R2.out hbig (by omega)).mono ?_
    rintro e w3 ⟨x2, h2, rfl, rfl⟩
    clear hd0 h0 h1
    go_wp2_with fail
    refine (at_some a0 len0 cap0 z0 3 _ _ R2.out hbig (by omega)).mono ?_
    rintro e w3 ⟨x3, h3, rfl, rfl⟩
    go_wp2_with fail
    refine (at_some a0 len0 cap0 z0 4 _ _ R2.out hbig (by omega)).mono ?_
    rintro e w3 ⟨x4, h4, rfl, rfl⟩
    go_wp2_with fail
    refine (at_some a0 len0 cap0 z0 5 _ _ R2.out hbig (by omega)).mono ?_
    rintro e w3 ⟨x5, h5, rfl, rfl⟩
    obtain ⟨X, hX, hX2⟩ : ∃ X : Nat, ((x2 : Int) * 256 + x3) * 65536 + x4 * 256 + x5 = (X : Int) ∧ X < 4294967296 := ⟨(x2 * 256 + x3) * 65536 + x4 * 256 + x5, by omega, by omega⟩
    obtain ⟨M, hM, hM2, hM3⟩ := or_one X hX2
    have HM2 := Lib.hid (And.intro hM2 hM3)
    have HX0 := Lib.hid hX
    have HMM := Lib.hid hM
    obtain ⟨cap, W, hcv, hbuf, hcap⟩ := buf_new w2 s
    clear R2 hX2 hM2 hM3 hX hM
    go_wp2_with fail
    have HBF := Lib.hid hbuf
    have HCV := Lib.hid hcv
    clear hbuf hcv h2 h3 h4 h5
    rw [HF0.out, HX0.out, HMM.out]
    clear HF0 HX0 HMM
    have hll : s.data.toList.length = s.size := by simp
    have HLL := Lib.hid hll
    clear hll
    go_loopw [8] (fun i wr => ∃ (k : Nat) (bs : List UInt8), k ≤ 32 ∧ f + k ≤ 8 * s.size ∧ i = .int .i64 k ∧ Hid (Bent (2 ^ f * (M % 2 ^ k)) s.data.toList bs ∧ Buf w2 wr w2.heap.size bs)) (fun i _ => 32 - (intOf i).toNat)
    case atStart => exact ⟨0, s.data.toList, by omega, by omega, rfl, ⟨by rw [Nat.pow_zero, Nat.mod_one, Nat.mul_zero]; exact bent_zero _, HBF.out⟩⟩
    case round =>
      obtain ⟨k, bs, hk, hfk, rfl, HX⟩ := hrel
      have hbl : bs.length = s.size := by rw [bent_len _ _ _ HX.out.1, HLL.out]
      have HBL := Lib.hid hbl
      by_cases h32 : k < 32
      · by_cases hin : f + k < 8 * s.size
        · have hbit := bit_of M k HM2.out.1
          have i1 : ((f : Int) + (k : Int)) / 8 < (s.size : Int) := by omega
          have i0 : 0 ≤ ((f : Int) + (k : Int)) / 8 := by omega
          have i2 : (((f : Int) + (k : Int)) / 8).toNat = (f + k) / 8 := by omega
          have hi8 : (f + k) / 8 < bs.length := by omega
          have hcell := HX.out.2.cell ((f + k) / 8) hi8
          have hfro := HX.out.2.frozen ((f + k) / 8) hi8
          rcases Nat.mod_two_eq_zero_or_one (M / 2 ^ k) with h2 | h2
          · rw [h2] at hbit
            have HE := Lib.hid (mask_same f M k h2)
            clear h2 hcell hfro hbl
            go_wp2
            go_roundw
            case rel => exact ⟨k + 1, bs, by omega, by omega, by go_num, ⟨by rw [HE.out]; exact HX.out.1, HX.out.2⟩⟩
            case measure => simp [intOf]; omega
          · rw [h2] at hbit
            have HE := Lib.hid (mask_more f M k h2)
            have HF := Lib.hid (bent_flip ((f + k) / 8) _ _ _ ((f + k) % 8) HX.out.1 (by rw [HLL.out]; omega) (by omega))
            rw [show 8 * ((f + k) / 8) + (f + k) % 8 = f + k by omega] at HF
            unfold u8v at hcell
            generalize bs.getD ((f + k) / 8) 0 = c at hcell HF
            clear h2 hbl
            go_wp2
            go_roundw
            case rel => exact ⟨k + 1, _, by omega, by omega, by go_num, ⟨by rw [HE.out]; exact HF.out, HX.out.2.set _ _ (flip_val c _ (by omega))⟩⟩
            case measure => simp [intOf]; omega
        · have hk1 : 1 ≤ k := by omega
          have hne := told _ _ f M k HX.out.1 (by rw [HLL.out]; omega) HM2.out.2 hk1 HM2.out.1
          have hcv2 := HX.out.2.str (c := cap) hbl
          have hcl1 := crc_lt s.data.toList
          have hcl2 := crc_lt bs
          have HBB := Lib.hid (B2.out.trans (HX.out.2.below.mono B2.out.size))
          have hbz : (⟨bs.toArray⟩ : ByteArray).size ≤ 1000 := by simp [ByteArray.size]; omega
          have hneq : (((crc bs : Nat) : Int) != ((crc s.data.toList : Nat) : Int)) = true := by simp; omega
          obtain ⟨V, hV⟩ : ∃ V : Int, ((crc s.data.toList : Nat) : Int) = V := ⟨_, rfl⟩
          obtain ⟨V2, hV2⟩ : ∃ V : Int, ((crc bs : Nat) : Int) = V := ⟨_, rfl⟩
          rw [hV] at hneq ⊢
          rw [hV2] at hneq
          have hv0 : 0 ≤ V := by omega
          have hv1 : V ≤ 4294967295 := by omega
          have HV := Lib.hid hV
          have HV2 := Lib.hid hV2
          clear hV hV2 hne hbl hcl1 hcl2 hk1
          go_wp2_with fail
          refine (specCrc s _ (by unfold maxLen; omega)).mono ?_
          rw [HV.out]
          rintro e w4 ⟨rfl, rfl⟩
          go_wp2_with fail
          refine (implCrc _ _ (by unfold maxLen; omega)).mono ?_
          simp only
          rw [HV2.out]
          rintro e w5 ⟨rfl, hb⟩
          have B5 := Lib.hid (HBB.out.trans (hb.mono HBB.out.size))
          clear hb HBB hcv2
          go_wp2_with fail
          refine (implCrc _ _ (by unfold maxLen; decide)).mono ?_
          simp only
          rw [crc_nil]
          rintro e w6 ⟨rfl, hb⟩
          have B6 := Lib.hid (B5.out.trans (hb.mono B5.out.size))
          clear hb B5
          go_wp2
          go_ret
          exact ⟨rfl, B6.out⟩
      · have hk1 : 1 ≤ k := by omega
        have hne := told _ _ f M k HX.out.1 (by rw [HLL.out]; omega) HM2.out.2 hk1 HM2.out.1
        have hcv2 := HX.out.2.str (c := cap) hbl
        have hcl1 := crc_lt s.data.toList
        have hcl2 := crc_lt bs
        have HBB := Lib.hid (B2.out.trans (HX.out.2.below.mono B2.out.size))
        have hbz : (⟨bs.toArray⟩ : ByteArray).size ≤ 1000 := by simp [ByteArray.size]; omega
        have hneq : (((crc bs : Nat) : Int) != ((crc s.data.toList : Nat) : Int)) = true := by simp; omega
        obtain ⟨V, hV⟩ : ∃ V : Int, ((crc s.data.toList : Nat) : Int) = V := ⟨_, rfl⟩
        obtain ⟨V2, hV2⟩ : ∃ V : Int, ((crc bs : Nat) : Int) = V := ⟨_, rfl⟩
        rw [hV] at hneq ⊢
        rw [hV2] at hneq
        have hv0 : 0 ≤ V := by omega
        have hv1 : V ≤ 4294967295 := by omega
        have HV := Lib.hid hV
        have HV2 := Lib.hid hV2
        clear hV hV2 hne hbl hcl1 hcl2 hk1
        go_wp2_with fail
        refine (specCrc s _ (by unfold maxLen; omega)).mono ?_
        rw [HV.out]
        rintro e w4 ⟨rfl, rfl⟩
        go_wp2_with fail
        refine (implCrc _ _ (by unfold maxLen; omega)).mono ?_
        simp only
        rw [HV2.out]
        rintro e w5 ⟨rfl, hb⟩
        have B5 := Lib.hid (HBB.out.trans (hb.mono HBB.out.size))
        clear hb HBB hcv2
        go_wp2_with fail
        refine (implCrc _ _ (by unfold maxLen; decide)).mono ?_
        simp only
        rw [crc_nil]
        rintro e w6 ⟨rfl, hb⟩
        have B6 := Lib.hid (B5.out.trans (hb.mono B5.out.size))
        clear hb B5
        go_wp2
        go_ret
        exact ⟨rfl, B6.out⟩
  · go_enter Try.func7, Try.ntmps7
    go_wp2_with fail
    refine (big_yes a0 len0 cap0 _ hbig).mono ?_
    rintro e w1 ⟨rfl, rfl⟩
    go_wp2
    go_ret
    exact ⟨rfl, Below.refl _ _⟩
end Go.Proofs.Ytkhpgomgaimhkaa
