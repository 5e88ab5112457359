/- The walk of the law FnFix. -/
import Derived.Test.YtkhpgomgaimhkaaBig
import Derived.Test.YtkhpgomgaimhkaaVarAs
import Derived.Test.YtkhpgomgaimhkaaPutFix
import Derived.Test.YtkhpgomgaimhkaaGetFix
import Derived.Test.YtkhpgomgaimhkaaDrawFix
import Derived.Test.YtkhpgomgaimhkaaTake
namespace Go.Proofs.Ytkhpgomgaimhkaa
open Go.RowKit
set_option linter.unusedVariables false

theorem implPutFix_as (n b : Int) (A : ByteArray) (hn : I64 n) (hA : A.data.toList = putFix n b) (w : World) : Calls Try.prog 30 #[.int .i64 n, .int .i64 b] w (Same w A) :=
  (implPutFix n b w hn.1 hn.2).mono fun e w' ⟨h1, h2⟩ => ⟨by rw [h1, as_text hA], h2⟩
theorem specPutFix_as (n b : Int) (A : ByteArray) (hn : I64 n) (hA : A.data.toList = putFix n b) (w : World) : Calls Try.prog 33 #[.int .i64 n, .int .i64 b] w (Same w A) :=
  (specPutFix n b w hn.1 hn.2).mono fun e w' ⟨h1, h2⟩ => ⟨by rw [h1, as_text hA], h2⟩
theorem specGetFix_as (s : ByteArray) (a b : Int) (w : World) (hs : s.size ≤ 100) (ha : I64 a) (m : Int) (hm : getFix s.data.toList a b = m) : Calls Try.prog 34 #[.string s, .int .i64 a, .int .i64 b] w (IntIs w m) := by
  subst hm; exact specGetFix s a b w (by unfold maxLen; omega) ha

/-- A number that was read is that of the bytes at its place. -/
theorem getFix_back (s : ByteArray) (a b m : Int) (h : getFix s.data.toList a b = m) (h0 : 0 ≤ m) : ∃ A B : Nat, a = A ∧ b = B ∧ 1 ≤ B ∧ B ≤ 4 ∧ A + B ≤ s.size ∧ m ≤ 4294967295 ∧ (s.extract A (A + B)).data.toList = putFix m b := by
  unfold getFix at h
  split at h
  · rename_i hc
    obtain ⟨h1, h2, h3, h4⟩ := hc
    obtain ⟨A, rfl⟩ := Int.eq_ofNat_of_zero_le h3
    obtain ⟨B, rfl⟩ := Int.eq_ofNat_of_zero_le (by omega : 0 ≤ b)
    rw [Array.length_toList, ByteArray.size_data] at h4
    rw [Int.toNat_natCast, Int.toNat_natCast] at h
    have hl : ((s.data.toList.drop A).take B).length = B := by simp; omega
    have hlt := fixVal_lt ((s.data.toList.drop A).take B)
    rw [hl] at hlt
    have hp : 2 ^ (8 * B) ≤ 2 ^ 32 := Nat.pow_le_pow_right (by omega) (by omega)
    refine ⟨A, B, rfl, rfl, by omega, by omega, by omega, by omega, ?_⟩
    rw [part_list, ← h, putFix_in (by omega) (by omega)]
    have := fix_fixVal ((s.data.toList.drop A).take B)
    rw [hl] at this
    exact this.symm
  · omega

/-- What is put comes back. -/
theorem putFix_back (n B : Nat) (h1 : 1 ≤ B) (h4 : B ≤ 4) : getFix (120 :: fixB n B) 1 B = ((n % 2 ^ (8 * B) : Nat) : Int) := by
  have := getFix_yes (l := 120 :: fixB n B) (a := 1) (b := B) h1 h4 (by rw [List.length_cons, fix_length]; omega)
  rw [show ((1 : Nat) : Int) = 1 from rfl] at this
  rw [this, List.drop_succ_cons, List.drop_zero, List.take_of_length_le (by rw [fix_length]; omega), fixVal_fix]

theorem rem_pow (n b : Nat) (h1 : 1 ≤ b) (h4 : b ≤ 4) : ¬ IntKind.i64.wrap (2 ^ (8 * b)) = 0 ∧ (n : Int).tmod (IntKind.i64.wrap (2 ^ (8 * b))) = (n : Int) % 2 ^ (8 * b) := by
  have hp : 2 ^ (8 * b) ≤ 2 ^ 32 := Nat.pow_le_pow_right (by omega) (by omega)
  have hp0 : 0 < 2 ^ (8 * b) := Nat.pow_pos (by omega)
  have e : (2 : Int) ^ (8 * b) = ((2 ^ (8 * b) : Nat) : Int) := by simp
  have ew : IntKind.i64.wrap (2 ^ (8 * b)) = ((2 ^ (8 * b) : Nat) : Int) := by rw [e]; exact IntWalk.i64_in _ (by omega)
  rw [ew]
  refine ⟨by omega, ?_⟩
  rw [e, Int.tmod_eq_emod_of_nonneg (by omega)]

set_option maxHeartbeats 1000000 in
set_option maxRecDepth 100000 in
theorem fnFix_walk (a0 : Option Addr) (len0 cap0 : Nat) (z0 : List Int) (w : World) (w0 : IsRow .u8 w a0 len0 cap0 z0) :
    Calls Try.prog 6 #[.slice a0 len0 cap0] w fun e w' => e = .returned (.bool true) ∧ Below w.heap.size w w' := by
  have hr := bytes_of_row w0 w.heap.size (Nat.le_refl _)
  have HR := Lib.hid hr
  clear hr w0
  by_cases hbig : len0 ≤ 1048576
  · go_enter Try.func6, Try.ntmps6
    go_wp2_with fail
    refine (big_no a0 len0 cap0 _ hbig).mono ?_
    rintro e w1 ⟨rfl, rfl⟩
    go_wp2_with fail
    refine (drawPutFix_at a0 len0 cap0 z0 _ HR.out).mono ?_
    rintro e w1 ⟨n, b, hn, hb0, hb5, rfl, hb⟩
    have R1 := Lib.hid (below_bytes HR.out hb)
    have B1 := Lib.hid hb
    have HN := Lib.hid hn
    clear hb hn HR
    obtain ⟨S, hS, hSl⟩ := text_of (putFix n b)
    have HS := Lib.hid hS
    have HSL := Lib.hid hSl
    have hs4 : S.size ≤ 4 := by
      rw [hSl]; unfold putFix; split
      · rw [fix_length]; omega
      · simp
    clear hS hSl
    go_wp2_with fail
    refine (implPutFix_as n b S HN.out HS.out _).mono ?_
    rintro e w2 ⟨rfl, hb⟩
    have R2 := Lib.hid (below_bytes R1.out hb)
    have B2 := Lib.hid (B1.out.trans (hb.mono B1.out.size))
    clear hb B1 R1
    go_wp2_with fail
    refine (drawGetFix_at a0 len0 cap0 z0 _ R2.out).mono ?_
    rintro e w3 ⟨t, a, c, ht, ha, hc0, hc5, rfl, hb⟩
    have HA := Lib.hid ha
    have B3 := Lib.hid (B2.out.trans (hb.mono B2.out.size))
    clear hb B2 R2 ha
    obtain ⟨m, hm⟩ : ∃ m, getFix t.data.toList a c = m := ⟨_, rfl⟩
    have HM := Lib.hid hm
    go_wp2_with fail
    refine (implGetFix t a c _ (by unfold maxLen; omega)).mono ?_
    rw [hm]
    clear hm
    rintro e w4 ⟨rfl, hb⟩
    have B4 := Lib.hid (B3.out.trans (hb.mono B3.out.size))
    clear hb B3
    go_wp2_with fail
    have hsame : (!S.toList == S.toList) = false := by simp
    have hsame2 : (m != m) = false := by simp
    by_cases hm0 : 0 ≤ m
    · obtain ⟨A, C, rfl, rfl, hC1, hC4, hAC, hm1, hpart⟩ := getFix_back t a c m HM.out hm0
      have s0 : (0 : Int) ≤ (A : Int) := by omega
      have s2 : IntKind.i64.wrap ((A : Int) + (C : Int)) = (A : Int) + (C : Int) := IntWalk.i64_in _ (by omega)
      have s3 : (A : Int) ≤ (A : Int) + (C : Int) := by omega
      have s4 : (A : Int) + (C : Int) ≤ (t.size : Int) := by omega
      have s5 : ((A : Int) + (C : Int)).toNat = A + C := by omega
      have HP := Lib.hid hpart
      have hm2 : decide (0 ≤ m) = true := by simpa using hm0
      clear hpart
      go_region_held3 (fun w' => True) (exact trivial) (first | (go_at_call 33; refine (specPutFix_as n b S HN.out HS.out _).mono ?_; rintro e w5 ⟨rfl, hb5⟩) | (go_at_call 34; refine (specGetFix_as t _ _ _ (by omega) HA.out m HM.out).mono ?_; rintro e w6 ⟨rfl, hb6⟩) | (go_at_call 30; refine (implPutFix_as m _ (t.extract A (A + C)) ⟨by omega, by omega⟩ HP.out _).mono ?_; rintro e w7 ⟨rfl, hb7⟩))
      have B5 := Lib.hid (B4.out.drew.trans (hb5.mono (by have := B4.out.size; simpa using this)))
      have B6 := Lib.hid (B5.out.trans (hb6.mono B5.out.size))
      have B7 := Lib.hid (B6.out.trans (hb7.mono B6.out.size))
      clear hb5 hb6 hb7 B4 B5 B6 s2 s3 s4 s5
      by_cases hbad : n < 0 ∨ b < 1 ∨ 4 < b
      · have hp := putFix_no hbad
        have hS0 : S.data.toList = [] := by rw [HS.out, hp]
        have hS1 : S = ⟨#[]⟩ := bytes_ext (by rw [hS0])
        subst hS1
        clear hp hS0
        by_cases q1 : n < 0
        · clear hbad
          go_wp2
          go_ret
          exact ⟨rfl, B7.out⟩
        · by_cases q2 : b < 1
          · clear hbad
            go_wp2
            go_ret
            exact ⟨rfl, B7.out⟩
          · have q3 : 4 < b := by omega
            clear hbad
            go_wp2
            go_ret
            exact ⟨rfl, B7.out⟩
      · obtain ⟨n, rfl⟩ := Int.eq_ofNat_of_zero_le (by omega : 0 ≤ n)
        obtain ⟨b, rfl⟩ := Int.eq_ofNat_of_zero_le (by omega : 0 ≤ b)
        have b1 : 1 ≤ b := by omega
        have b4 : b ≤ 4 := by omega
        have hS2 : S.data.toList = fixB n b := by rw [HS.out, putFix_in b1 b4]
        have hSz : S.size = b := by rw [HSL.out, putFix_in b1 b4, fix_length]
        have hbk := putFix_back n b b1 b4
        have HX := Lib.hid (show ((⟨#[120]⟩ : ByteArray) ++ S).data.toList = 120 :: fixB n b by rw [ByteArray.data_append, Array.toList_append, hS2]; rfl)
        have h1s : (⟨#[120]⟩ : ByteArray).size = 1 := rfl
        have hsz : ((⟨#[120]⟩ : ByteArray) ++ S).size ≤ 100 := by rw [ByteArray.size_append, h1s]; omega
        have HBK := Lib.hid hbk
        have hle : ((S.size : Int) == (b : Int)) = true := by simp; omega
        clear hbad hS2 hSz hbk
        go_wp2_with fail
        have e1 : IntKind.i64.wrap (8 * (b : Int)) = 8 * (b : Int) := IntWalk.i64_in _ (by omega)
        have e2 : IntKind.u64.wrap (8 * (b : Int)) = 8 * (b : Int) := IntWalk.u64_in _ (by omega)
        have e3 : (8 * (b : Int)).toNat = 8 * b := by omega
        have hap : ¬ 9223372036854775807 < 1 + S.size := by omega
        have HREM := Lib.hid (rem_pow n b b1 b4)
        refine wp_region_held_drew (S := fun _ => True) (by kernel_rfl) trivial (fun hHeld => ?_)
        refine take_at (i := 0) (d := some 71) (v := ?_) rfl rfl (by kernel_rfl) (by kernel_rfl) (by kernel_rfl) (fun _ _ _ h => h) (by rfl) ?hy ?_
        case hy => (intro w; go_simp <;> with_reducible rfl)
        simp only [Act.put, List.setIfInBounds_toArray, List.set_cons_zero, List.set_cons_succ]
        refine take_at (i := 1) (d := some 72) (v := ?_) rfl rfl (by kernel_rfl) (by kernel_rfl) (by kernel_rfl) (fun _ _ _ h => h) (by rfl) ?hy ?_
        case hy => (intro w; go_simp <;> with_reducible rfl)
        simp only [Act.put, List.setIfInBounds_toArray, List.set_cons_zero, List.set_cons_succ]
        refine take_at (i := 2) (d := some 73) (v := ?_) rfl rfl (by kernel_rfl) (by kernel_rfl) (by kernel_rfl) (fun _ _ _ h => h) (by rfl) ?hy ?_
        case hy => (intro w; go_simp <;> with_reducible rfl)
        simp only [Act.put, List.setIfInBounds_toArray, List.set_cons_zero, List.set_cons_succ]
        refine take_at (i := 3) (d := some 74) (v := ?_) rfl rfl (by kernel_rfl) (by kernel_rfl) (by kernel_rfl) (fun _ _ _ h => h) (by rfl) ?hy ?_
        case hy => (intro w; go_simp <;> with_reducible rfl)
        simp only [Act.put, List.setIfInBounds_toArray, List.set_cons_zero, List.set_cons_succ]
        refine take_at (i := 4) (d := some 75) (v := ?_) rfl rfl (by kernel_rfl) (by kernel_rfl) (by kernel_rfl) (fun _ _ _ h => h) (by rfl) ?hy ?_
        case hy => (intro w; go_simp <;> with_reducible rfl)
        simp only [Act.put, List.setIfInBounds_toArray, List.set_cons_zero, List.set_cons_succ]
        refine take_at (i := 5) (d := some 76) (v := ?_) rfl rfl (by kernel_rfl) (by kernel_rfl) (by kernel_rfl) (fun _ _ _ h => h) (by rfl) ?hy ?_
        case hy => (intro w; go_simp <;> with_reducible rfl)
        simp only [Act.put, List.setIfInBounds_toArray, List.set_cons_zero, List.set_cons_succ]
        refine take_at (i := 7) (d := some 78) (v := ?_) rfl rfl (by kernel_rfl) (by kernel_rfl) (by kernel_rfl) (fun _ _ _ h => h) (by rfl) ?hy ?_
        case hy => (intro w; go_simp <;> with_reducible rfl)
        simp only [Act.put, List.setIfInBounds_toArray, List.set_cons_zero, List.set_cons_succ]
        refine take_at (i := 9) (d := some 80) (v := ?_) rfl rfl (by kernel_rfl) (by kernel_rfl) (by kernel_rfl) (fun _ _ _ h => h) (by rfl) ?hy ?_
        case hy => (intro w; go_simp <;> with_reducible rfl)
        simp only [Act.put, List.setIfInBounds_toArray, List.set_cons_zero, List.set_cons_succ]
        refine take_at (i := 10) (d := some 81) (v := ?_) rfl rfl (by kernel_rfl) (by kernel_rfl) (by kernel_rfl) (fun _ _ _ h => h) (by rfl) ?hy ?_
        case hy => (intro w; go_simp <;> with_reducible rfl)
        simp only [Act.put, List.setIfInBounds_toArray, List.set_cons_zero, List.set_cons_succ]
        refine take_at (i := 11) (d := some 82) (v := ?_) rfl rfl (by kernel_rfl) (by kernel_rfl) (by kernel_rfl) (fun _ _ _ h => h) (by rfl) ?hy ?_
        case hy => (intro w; go_simp <;> with_reducible rfl)
        simp only [Act.put, List.setIfInBounds_toArray, List.set_cons_zero, List.set_cons_succ]
        refine take_at (i := 12) (d := some 83) (v := ?_) rfl rfl (by kernel_rfl) (by kernel_rfl) (by kernel_rfl) (fun _ _ _ h => h) (by rfl) ?hy ?_
        case hy => (intro w; go_simp <;> with_reducible rfl)
        simp only [Act.put, List.setIfInBounds_toArray, List.set_cons_zero, List.set_cons_succ]
        refine take_at (i := 13) (d := some 84) (v := ?_) rfl rfl (by kernel_rfl) (by kernel_rfl) (by kernel_rfl) (fun _ _ _ h => h) (by rfl) ?hy ?_
        case hy => (intro w; go_simp <;> with_reducible rfl)
        simp only [Act.put, List.setIfInBounds_toArray, List.set_cons_zero, List.set_cons_succ]
        refine take_at (i := 14) (d := some 85) (v := .int .i64 ((n : Int) % 2 ^ (8 * b))) rfl rfl (by kernel_rfl) (by kernel_rfl) (by kernel_rfl) (fun _ _ _ h => h) (by rfl) ?hy ?_
        case hy => (intro w; go_simp; rw [if_neg HREM.out.1, HREM.out.2])
        simp only [Act.put, List.setIfInBounds_toArray, List.set_cons_zero, List.set_cons_succ]
        refine take_at (i := 6) (d := some 77) (v := .string ((⟨#[120]⟩ : ByteArray) ++ S)) rfl rfl (by kernel_rfl) (by kernel_rfl) (by kernel_rfl) (fun _ _ _ h => h) (by rfl) ?hy ?_
        case hy => (intro w; go_simp <;> rw [if_neg hap])
        simp only [Act.put, List.setIfInBounds_toArray, List.set_cons_zero, List.set_cons_succ]
        refine wpAnyH_ready (rs := [8]) (by kernel_rfl) (by simp) ?_
        refine AllReadyH.cons rfl (fun K hK => ?_) AllReadyH.nil
        go_simp
        refine (implGetFix _ 1 b _ (by unfold maxLen; omega)).mono ?_
        rw [HX.out, HBK.out, show ((n % 2 ^ (8 * b) : Nat) : Int) = (n : Int) % 2 ^ (8 * b) by simp]
        rintro e w8 ⟨rfl, hb8⟩
        have B8 := Lib.hid (B7.out.drew.trans (hb8.mono (by have := B7.out.size; simpa using this)))
        clear hb8
        go_wp2_with fail
        refine hK.out _ _ trivial (fun hHeld => ?_)
        clear hK K
        refine take_at (i := 15) (d := some 86) (v := ?_) rfl rfl (by kernel_rfl) (by kernel_rfl) (by kernel_rfl) (fun _ _ _ h => h) (by rfl) ?hy ?_
        case hy => (intro w; go_simp <;> with_reducible rfl)
        simp only [Act.put, List.setIfInBounds_toArray, List.set_cons_zero, List.set_cons_succ]
        refine take_at (i := 16) (d := some 87) (v := ?_) rfl rfl (by kernel_rfl) (by kernel_rfl) (by kernel_rfl) (fun _ _ _ h => h) (by rfl) ?hy ?_
        case hy => (intro w; go_simp <;> with_reducible rfl)
        simp only [Act.put, List.setIfInBounds_toArray, List.set_cons_zero, List.set_cons_succ]
        refine take_at (i := 17) (d := some 2) (v := ?_) rfl rfl (by kernel_rfl) (by kernel_rfl) (by kernel_rfl) (fun _ _ _ h => h) (by rfl) ?hy ?_
        case hy => (intro w; go_simp <;> with_reducible rfl)
        simp only [Act.put, List.setIfInBounds_toArray, List.set_cons_zero, List.set_cons_succ]
        refine wpAnyH_done (by kernel_rfl) ?_ _
        go_wp2
        go_ret
        exact ⟨rfl, B8.out⟩
    · have hm2 : decide (0 ≤ m) = false := by simpa using hm0
      refine wp_region_held_drew (S := fun _ => True) (by kernel_rfl) trivial (fun hHeld => ?_)
      refine take_at (i := 0) (d := some 30) (v := ?_) rfl rfl (by kernel_rfl) (by kernel_rfl) (by kernel_rfl) (fun _ _ _ h => h) (by rfl) ?hy ?_
      case hy => (intro w; go_simp <;> with_reducible rfl)
      simp only [Act.put, List.setIfInBounds_toArray, List.set_cons_zero, List.set_cons_succ]
      refine take_at (i := 1) (d := some 31) (v := ?_) rfl rfl (by kernel_rfl) (by kernel_rfl) (by kernel_rfl) (fun _ _ _ h => h) (by rfl) ?hy ?_
      case hy => (intro w; go_simp <;> with_reducible rfl)
      simp only [Act.put, List.setIfInBounds_toArray, List.set_cons_zero, List.set_cons_succ]
      refine take_at (i := 2) (d := some 32) (v := ?_) rfl rfl (by kernel_rfl) (by kernel_rfl) (by kernel_rfl) (fun _ _ _ h => h) (by rfl) ?hy ?_
      case hy => (intro w; go_simp <;> with_reducible rfl)
      simp only [Act.put, List.setIfInBounds_toArray, List.set_cons_zero, List.set_cons_succ]
      refine wpAnyH_ready (rs := [3]) (by kernel_rfl) (by simp) ?_
      refine AllReadyH.cons rfl (fun K hK => ?_) AllReadyH.nil
      go_simp
      refine (specPutFix_as n b S HN.out HS.out _).mono ?_
      rintro e w5 ⟨rfl, hb5⟩
      go_wp2_with fail
      refine hK.out _ _ trivial (fun hHeld => ?_)
      clear hK K
      refine take_at (i := 4) (d := some 34) (v := ?_) rfl rfl (by kernel_rfl) (by kernel_rfl) (by kernel_rfl) (fun _ _ _ h => h) (by rfl) ?hy ?_
      case hy => (intro w; go_simp <;> with_reducible rfl)
      simp only [Act.put, List.setIfInBounds_toArray, List.set_cons_zero, List.set_cons_succ]
      refine take_at (i := 5) (d := some 35) (v := ?_) rfl rfl (by kernel_rfl) (by kernel_rfl) (by kernel_rfl) (fun _ _ _ h => h) (by rfl) ?hy ?_
      case hy => (intro w; go_simp <;> with_reducible rfl)
      simp only [Act.put, List.setIfInBounds_toArray, List.set_cons_zero, List.set_cons_succ]
      refine take_at (i := 6) (d := some 36) (v := ?_) rfl rfl (by kernel_rfl) (by kernel_rfl) (by kernel_rfl) (fun _ _ _ h => h) (by rfl) ?hy ?_
      case hy => (intro w; go_simp <;> with_reducible rfl)
      simp only [Act.put, List.setIfInBounds_toArray, List.set_cons_zero, List.set_cons_succ]
      refine take_at (i := 7) (d := some 37) (v := ?_) rfl rfl (by kernel_rfl) (by kernel_rfl) (by kernel_rfl) (fun _ _ _ h => h) (by rfl) ?hy ?_
      case hy => (intro w; go_simp <;> with_reducible rfl)
      simp only [Act.put, List.setIfInBounds_toArray, List.set_cons_zero, List.set_cons_succ]
      refine take_at (i := 8) (d := some 38) (v := ?_) rfl rfl (by kernel_rfl) (by kernel_rfl) (by kernel_rfl) (fun _ _ _ h => h) (by rfl) ?hy ?_
      case hy => (intro w; go_simp <;> with_reducible rfl)
      simp only [Act.put, List.setIfInBounds_toArray, List.set_cons_zero, List.set_cons_succ]
      refine take_at (i := 9) (d := some 39) (v := ?_) rfl rfl (by kernel_rfl) (by kernel_rfl) (by kernel_rfl) (fun _ _ _ h => h) (by rfl) ?hy ?_
      case hy => (intro w; go_simp <;> with_reducible rfl)
      simp only [Act.put, List.setIfInBounds_toArray, List.set_cons_zero, List.set_cons_succ]
      refine wpAnyH_ready (rs := [10]) (by kernel_rfl) (by simp) ?_
      refine AllReadyH.cons rfl (fun K hK => ?_) AllReadyH.nil
      go_simp
      refine (specGetFix_as t _ _ _ (by omega) HA.out m HM.out).mono ?_
      rintro e w6 ⟨rfl, hb6⟩
      go_wp2_with fail
      refine hK.out _ _ trivial (fun hHeld => ?_)
      clear hK K
      refine take_at (i := 11) (d := some 41) (v := ?_) rfl rfl (by kernel_rfl) (by kernel_rfl) (by kernel_rfl) (fun _ _ _ h => h) (by rfl) ?hy ?_
      case hy => (intro w; go_simp <;> with_reducible rfl)
      simp only [Act.put, List.setIfInBounds_toArray, List.set_cons_zero, List.set_cons_succ]
      refine take_at (i := 12) (d := some 42) (v := ?_) rfl rfl (by kernel_rfl) (by kernel_rfl) (by kernel_rfl) (fun _ _ _ h => h) (by rfl) ?hy ?_
      case hy => (intro w; go_simp <;> with_reducible rfl)
      simp only [Act.put, List.setIfInBounds_toArray, List.set_cons_zero, List.set_cons_succ]
      refine take_at (i := 13) (d := some 43) (v := ?_) rfl rfl (by kernel_rfl) (by kernel_rfl) (by kernel_rfl) (fun _ _ _ h => h) (by rfl) ?hy ?_
      case hy => (intro w; go_simp <;> with_reducible rfl)
      simp only [Act.put, List.setIfInBounds_toArray, List.set_cons_zero, List.set_cons_succ]
      refine take_at (i := 14) (d := some 44) (v := ?_) rfl rfl (by kernel_rfl) (by kernel_rfl) (by kernel_rfl) (fun _ _ _ h => h) (by rfl) ?hy ?_
      case hy => (intro w; go_simp <;> with_reducible rfl)
      simp only [Act.put, List.setIfInBounds_toArray, List.set_cons_zero, List.set_cons_succ]
      refine take_at (i := 15) (d := some 45) (v := ?_) rfl rfl (by kernel_rfl) (by kernel_rfl) (by kernel_rfl) (fun _ _ _ h => h) (by rfl) ?hy ?_
      case hy => (intro w; go_simp <;> with_reducible rfl)
      simp only [Act.put, List.setIfInBounds_toArray, List.set_cons_zero, List.set_cons_succ]
      refine take_at (i := 16) (d := some 46) (v := ?_) rfl rfl (by kernel_rfl) (by kernel_rfl) (by kernel_rfl) (fun _ _ _ h => h) (by rfl) ?hy ?_
      case hy => (intro w; go_simp <;> with_reducible rfl)
      simp only [Act.put, List.setIfInBounds_toArray, List.set_cons_zero, List.set_cons_succ]
      refine skip_at (i := 17) (d := some 47) rfl rfl (by kernel_rfl) (by kernel_rfl) (by kernel_rfl) (fun _ _ _ h => h) (by rfl) ?_
      simp only [Act.put, List.setIfInBounds_toArray, List.set_cons_zero, List.set_cons_succ]
      refine skip_at (i := 18) (d := some 48) rfl rfl (by kernel_rfl) (by kernel_rfl) (by kernel_rfl) (fun _ _ _ h => h) (by rfl) ?_
      simp only [Act.put, List.setIfInBounds_toArray, List.set_cons_zero, List.set_cons_succ]
      refine skip_at (i := 19) (d := some 49) rfl rfl (by kernel_rfl) (by kernel_rfl) (by kernel_rfl) (fun _ _ _ h => h) (by rfl) ?_
      simp only [Act.put, List.setIfInBounds_toArray, List.set_cons_zero, List.set_cons_succ]
      refine skip_at (i := 20) (d := some 50) rfl rfl (by kernel_rfl) (by kernel_rfl) (by kernel_rfl) (fun _ _ _ h => h) (by rfl) ?_
      simp only [Act.put, List.setIfInBounds_toArray, List.set_cons_zero, List.set_cons_succ]
      refine skip_at (i := 21) (d := some 51) rfl rfl (by kernel_rfl) (by kernel_rfl) (by kernel_rfl) (fun _ _ _ h => h) (by rfl) ?_
      simp only [Act.put, List.setIfInBounds_toArray, List.set_cons_zero, List.set_cons_succ]
      refine skip_at (i := 22) (d := some 52) rfl rfl (by kernel_rfl) (by kernel_rfl) (by kernel_rfl) (fun _ _ _ h => h) (by rfl) ?_
      simp only [Act.put, List.setIfInBounds_toArray, List.set_cons_zero, List.set_cons_succ]
      refine skip_at (i := 23) (d := some 53) rfl rfl (by kernel_rfl) (by kernel_rfl) (by kernel_rfl) (fun _ _ _ h => h) (by rfl) ?_
      simp only [Act.put, List.setIfInBounds_toArray, List.set_cons_zero, List.set_cons_succ]
      refine skip_at (i := 24) (d := some 54) rfl rfl (by kernel_rfl) (by kernel_rfl) (by kernel_rfl) (fun _ _ _ h => h) (by rfl) ?_
      simp only [Act.put, List.setIfInBounds_toArray, List.set_cons_zero, List.set_cons_succ]
      refine skip_at (i := 25) (d := some 55) rfl rfl (by kernel_rfl) (by kernel_rfl) (by kernel_rfl) (fun _ _ _ h => h) (by rfl) ?_
      simp only [Act.put, List.setIfInBounds_toArray, List.set_cons_zero, List.set_cons_succ]
      refine skip_at (i := 26) (d := some 56) rfl rfl (by kernel_rfl) (by kernel_rfl) (by kernel_rfl) (fun _ _ _ h => h) (by rfl) ?_
      simp only [Act.put, List.setIfInBounds_toArray, List.set_cons_zero, List.set_cons_succ]
      refine take_at (i := 27) (d := some 57) (v := ?_) rfl rfl (by kernel_rfl) (by kernel_rfl) (by kernel_rfl) (fun _ _ _ h => h) (by rfl) ?hy ?_
      case hy => (intro w; go_simp <;> with_reducible rfl)
      simp only [Act.put, List.setIfInBounds_toArray, List.set_cons_zero, List.set_cons_succ]
      refine take_at (i := 28) (d := some 58) (v := ?_) rfl rfl (by kernel_rfl) (by kernel_rfl) (by kernel_rfl) (fun _ _ _ h => h) (by rfl) ?hy ?_
      case hy => (intro w; go_simp <;> with_reducible rfl)
      simp only [Act.put, List.setIfInBounds_toArray, List.set_cons_zero, List.set_cons_succ]
      refine wpAnyH_done (by kernel_rfl) ?_ _
      have B5 := Lib.hid (B4.out.drew.trans (hb5.mono (by have := B4.out.size; simpa using this)))
      have B6 := Lib.hid (B5.out.trans (hb6.mono B5.out.size))
      clear hb5 hb6 B4 B5
      by_cases hbad : n < 0 ∨ b < 1 ∨ 4 < b
      · have hp := putFix_no hbad
        have hS0 : S.data.toList = [] := by rw [HS.out, hp]
        have hS1 : S = ⟨#[]⟩ := bytes_ext (by rw [hS0])
        subst hS1
        clear hp hS0
        by_cases q1 : n < 0
        · clear hbad
          go_wp2
          go_ret
          exact ⟨rfl, B6.out⟩
        · by_cases q2 : b < 1
          · clear hbad
            go_wp2
            go_ret
            exact ⟨rfl, B6.out⟩
          · have q3 : 4 < b := by omega
            clear hbad
            go_wp2
            go_ret
            exact ⟨rfl, B6.out⟩
      · obtain ⟨n, rfl⟩ := Int.eq_ofNat_of_zero_le (by omega : 0 ≤ n)
        obtain ⟨b, rfl⟩ := Int.eq_ofNat_of_zero_le (by omega : 0 ≤ b)
        have b1 : 1 ≤ b := by omega
        have b4 : b ≤ 4 := by omega
        have hS2 : S.data.toList = fixB n b := by rw [HS.out, putFix_in b1 b4]
        have hSz : S.size = b := by rw [HSL.out, putFix_in b1 b4, fix_length]
        have hbk := putFix_back n b b1 b4
        have HX := Lib.hid (show ((⟨#[120]⟩ : ByteArray) ++ S).data.toList = 120 :: fixB n b by rw [ByteArray.data_append, Array.toList_append, hS2]; rfl)
        have h1s : (⟨#[120]⟩ : ByteArray).size = 1 := rfl
        have hsz : ((⟨#[120]⟩ : ByteArray) ++ S).size ≤ 100 := by rw [ByteArray.size_append, h1s]; omega
        have HBK := Lib.hid hbk
        have hle : ((S.size : Int) == (b : Int)) = true := by simp; omega
        clear hbad hS2 hSz hbk
        go_wp2_with fail
        have e1 : IntKind.i64.wrap (8 * (b : Int)) = 8 * (b : Int) := IntWalk.i64_in _ (by omega)
        have e2 : IntKind.u64.wrap (8 * (b : Int)) = 8 * (b : Int) := IntWalk.u64_in _ (by omega)
        have e3 : (8 * (b : Int)).toNat = 8 * b := by omega
        have hap : ¬ 9223372036854775807 < 1 + S.size := by omega
        have HREM := Lib.hid (rem_pow n b b1 b4)
        refine wp_region_held_drew (S := fun _ => True) (by kernel_rfl) trivial (fun hHeld => ?_)
        refine take_at (i := 0) (d := some 71) (v := ?_) rfl rfl (by kernel_rfl) (by kernel_rfl) (by kernel_rfl) (fun _ _ _ h => h) (by rfl) ?hy ?_
        case hy => (intro w; go_simp <;> with_reducible rfl)
        simp only [Act.put, List.setIfInBounds_toArray, List.set_cons_zero, List.set_cons_succ]
        refine take_at (i := 1) (d := some 72) (v := ?_) rfl rfl (by kernel_rfl) (by kernel_rfl) (by kernel_rfl) (fun _ _ _ h => h) (by rfl) ?hy ?_
        case hy => (intro w; go_simp <;> with_reducible rfl)
        simp only [Act.put, List.setIfInBounds_toArray, List.set_cons_zero, List.set_cons_succ]
        refine take_at (i := 2) (d := some 73) (v := ?_) rfl rfl (by kernel_rfl) (by kernel_rfl) (by kernel_rfl) (fun _ _ _ h => h) (by rfl) ?hy ?_
        case hy => (intro w; go_simp <;> with_reducible rfl)
        simp only [Act.put, List.setIfInBounds_toArray, List.set_cons_zero, List.set_cons_succ]
        refine take_at (i := 3) (d := some 74) (v := ?_) rfl rfl (by kernel_rfl) (by kernel_rfl) (by kernel_rfl) (fun _ _ _ h => h) (by rfl) ?hy ?_
        case hy => (intro w; go_simp <;> with_reducible rfl)
        simp only [Act.put, List.setIfInBounds_toArray, List.set_cons_zero, List.set_cons_succ]
        refine take_at (i := 4) (d := some 75) (v := ?_) rfl rfl (by kernel_rfl) (by kernel_rfl) (by kernel_rfl) (fun _ _ _ h => h) (by rfl) ?hy ?_
        case hy => (intro w; go_simp <;> with_reducible rfl)
        simp only [Act.put, List.setIfInBounds_toArray, List.set_cons_zero, List.set_cons_succ]
        refine take_at (i := 5) (d := some 76) (v := ?_) rfl rfl (by kernel_rfl) (by kernel_rfl) (by kernel_rfl) (fun _ _ _ h => h) (by rfl) ?hy ?_
        case hy => (intro w; go_simp <;> with_reducible rfl)
        simp only [Act.put, List.setIfInBounds_toArray, List.set_cons_zero, List.set_cons_succ]
        refine take_at (i := 7) (d := some 78) (v := ?_) rfl rfl (by kernel_rfl) (by kernel_rfl) (by kernel_rfl) (fun _ _ _ h => h) (by rfl) ?hy ?_
        case hy => (intro w; go_simp <;> with_reducible rfl)
        simp only [Act.put, List.setIfInBounds_toArray, List.set_cons_zero, List.set_cons_succ]
        refine take_at (i := 9) (d := some 80) (v := ?_) rfl rfl (by kernel_rfl) (by kernel_rfl) (by kernel_rfl) (fun _ _ _ h => h) (by rfl) ?hy ?_
        case hy => (intro w; go_simp <;> with_reducible rfl)
        simp only [Act.put, List.setIfInBounds_toArray, List.set_cons_zero, List.set_cons_succ]
        refine take_at (i := 10) (d := some 81) (v := ?_) rfl rfl (by kernel_rfl) (by kernel_rfl) (by kernel_rfl) (fun _ _ _ h => h) (by rfl) ?hy ?_
        case hy => (intro w; go_simp <;> with_reducible rfl)
        simp only [Act.put, List.setIfInBounds_toArray, List.set_cons_zero, List.set_cons_succ]
        refine take_at (i := 11) (d := some 82) (v := ?_) rfl rfl (by kernel_rfl) (by kernel_rfl) (by kernel_rfl) (fun _ _ _ h => h) (by rfl) ?hy ?_
        case hy => (intro w; go_simp <;> with_reducible rfl)
        simp only [Act.put, List.setIfInBounds_toArray, List.set_cons_zero, List.set_cons_succ]
        refine take_at (i := 12) (d := some 83) (v := ?_) rfl rfl (by kernel_rfl) (by kernel_rfl) (by kernel_rfl) (fun _ _ _ h => h) (by rfl) ?hy ?_
        case hy => (intro w; go_simp <;> with_reducible rfl)
        simp only [Act.put, List.setIfInBounds_toArray, List.set_cons_zero, List.set_cons_succ]
        refine take_at (i := 13) (d := some 84) (v := ?_) rfl rfl (by kernel_rfl) (by kernel_rfl) (by kernel_rfl) (fun _ _ _ h => h) (by rfl) ?hy ?_
        case hy => (intro w; go_simp <;> with_reducible rfl)
        simp only [Act.put, List.setIfInBounds_toArray, List.set_cons_zero, List.set_cons_succ]
        refine take_at (i := 14) (d := some 85) (v := .int .i64 ((n : Int) % 2 ^ (8 * b))) rfl rfl (by kernel_rfl) (by kernel_rfl) (by kernel_rfl) (fun _ _ _ h => h) (by rfl) ?hy ?_
        case hy => (intro w; go_simp; rw [if_neg HREM.out.1, HREM.out.2])
        simp only [Act.put, List.setIfInBounds_toArray, List.set_cons_zero, List.set_cons_succ]
        refine take_at (i := 6) (d := some 77) (v := .string ((⟨#[120]⟩ : ByteArray) ++ S)) rfl rfl (by kernel_rfl) (by kernel_rfl) (by kernel_rfl) (fun _ _ _ h => h) (by rfl) ?hy ?_
        case hy => (intro w; go_simp <;> rw [if_neg hap])
        simp only [Act.put, List.setIfInBounds_toArray, List.set_cons_zero, List.set_cons_succ]
        refine wpAnyH_ready (rs := [8]) (by kernel_rfl) (by simp) ?_
        refine AllReadyH.cons rfl (fun K hK => ?_) AllReadyH.nil
        go_simp
        refine (implGetFix _ 1 b _ (by unfold maxLen; omega)).mono ?_
        rw [HX.out, HBK.out, show ((n % 2 ^ (8 * b) : Nat) : Int) = (n : Int) % 2 ^ (8 * b) by simp]
        rintro e w8 ⟨rfl, hb8⟩
        have B8 := Lib.hid (B6.out.drew.trans (hb8.mono (by have := B6.out.size; simpa using this)))
        clear hb8
        go_wp2_with fail
        refine hK.out _ _ trivial (fun hHeld => ?_)
        clear hK K
        refine take_at (i := 15) (d := some 86) (v := ?_) rfl rfl (by kernel_rfl) (by kernel_rfl) (by kernel_rfl) (fun _ _ _ h => h) (by rfl) ?hy ?_
        case hy => (intro w; go_simp <;> with_reducible rfl)
        simp only [Act.put, List.setIfInBounds_toArray, List.set_cons_zero, List.set_cons_succ]
        refine take_at (i := 16) (d := some 87) (v := ?_) rfl rfl (by kernel_rfl) (by kernel_rfl) (by kernel_rfl) (fun _ _ _ h => h) (by rfl) ?hy ?_
        case hy => (intro w; go_simp <;> with_reducible rfl)
        simp only [Act.put, List.setIfInBounds_toArray, List.set_cons_zero, List.set_cons_succ]
        refine take_at (i := 17) (d := some 2) (v := ?_) rfl rfl (by kernel_rfl) (by kernel_rfl) (by kernel_rfl) (fun _ _ _ h => h) (by rfl) ?hy ?_
        case hy => (intro w; go_simp <;> with_reducible rfl)
        simp only [Act.put, List.setIfInBounds_toArray, List.set_cons_zero, List.set_cons_succ]
        refine wpAnyH_done (by kernel_rfl) ?_ _
        go_wp2
        go_ret
        exact ⟨rfl, B8.out⟩
  · go_enter Try.func6, Try.ntmps6
    go_wp2_with fail
    refine (big_yes a0 len0 cap0 _ hbig).mono ?_
    rintro e w1 ⟨rfl, rfl⟩
    go_wp2
    go_ret
    exact ⟨rfl, Below.refl _ _⟩
end Go.Proofs.Ytkhpgomgaimhkaa
