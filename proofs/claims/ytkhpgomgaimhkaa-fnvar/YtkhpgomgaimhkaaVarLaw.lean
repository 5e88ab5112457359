/- The walk of the law FnVar. -/
import Derived.Test.YtkhpgomgaimhkaaBig
import Derived.Test.YtkhpgomgaimhkaaDrawVar
import Derived.Test.YtkhpgomgaimhkaaSpecGetVar
import Derived.Test.YtkhpgomgaimhkaaTake
namespace Go.Proofs.Ytkhpgomgaimhkaa
open Go.RowKit
set_option linter.unusedVariables false

theorem part_of (t : ByteArray) (P : Nat) (g : List UInt8) (h1 : g = (t.data.toList.drop P).take g.length) (h2 : P + g.length ≤ t.size) : (t.extract P (P + g.length)).data.toList = g := by
  simp only [ByteArray.data_extract, Array.toList_extract, List.extract_eq_take_drop]
  have e : P + g.length - P = g.length := by omega
  rw [e]
  exact h1.symm

set_option maxHeartbeats 1000000 in
set_option maxRecDepth 100000 in
theorem fnVar_walk (a0 : Option Addr) (len0 cap0 : Nat) (z0 : List Int) (w : World) (w0 : IsRow .u8 w a0 len0 cap0 z0) :
    Calls Try.prog 3 #[.slice a0 len0 cap0] w fun e w' => e = .returned (.bool true) ∧ Below w.heap.size w w' := by
  have hr := bytes_of_row w0 w.heap.size (Nat.le_refl _)
  have HR := Lib.hid hr
  clear hr w0
  by_cases hbig : len0 ≤ 1048576
  · go_enter Try.func3, Try.ntmps3
    go_wp2_with fail
    refine (big_no a0 len0 cap0 _ hbig).mono ?_
    rintro e w1 ⟨rfl, rfl⟩
    go_wp2_with fail
    refine (drawPutVar_at a0 len0 cap0 z0 _ HR.out).mono ?_
    rintro e w1 ⟨n, hn, rfl, hb⟩
    have R1 := Lib.hid (below_bytes HR.out hb)
    have B1 := Lib.hid hb
    clear hb hn HR
    obtain ⟨S, hS, hSl⟩ := text_of (putVar n)
    have HS := Lib.hid hS
    have hs9 : S.size ≤ 9 := by rw [hSl]; exact var_len9 n
    have HZ := Lib.hid (show ((⟨#[122]⟩ : ByteArray) ++ S ++ ⟨#[122]⟩).data.toList = 122 :: (putVar n ++ [122]) by
      rw [ByteArray.data_append, Array.toList_append, ByteArray.data_append, Array.toList_append, hS]; rfl)
    have hz1 : (⟨#[122]⟩ : ByteArray).size = 1 := rfl
    clear hS hSl
    go_wp2_with fail
    refine (implPutVar_as n S HS.out _).mono ?_
    rintro e w2 ⟨rfl, hb⟩
    have R2 := Lib.hid (below_bytes R1.out hb)
    have B2 := Lib.hid (B1.out.trans (hb.mono B1.out.size))
    clear hb R1 B1
    go_wp2_with fail
    refine (drawGetVar_at a0 len0 cap0 z0 _ R2.out).mono ?_
    rintro e w3 ⟨t, pl, ht, hpl, rfl, hb⟩
    have B3 := Lib.hid (B2.out.trans (hb.mono B2.out.size))
    clear hb B2 R2 hpl
    go_wp2_with fail
    refine (implGetVar t pl _ (by unfold maxLen; omega)).mono ?_
    unfold VarOut
    have hsome := fun g (h : getVarAt t.data.toList pl = some g) => And.intro (getVar1_some h) (getVar_some h)
    have hnone := fun (h : getVarAt t.data.toList pl = none) => getVar1_none h
    have HSP := Lib.hid (specGetVar t pl)
    unfold VarOut at HSP
    generalize getVar1 t.data.toList pl = m at hsome hnone HSP ⊢
    generalize getVar2 t.data.toList pl = en at hsome hnone HSP ⊢
    rintro e w4 ⟨rfl, hb⟩
    have B4 := Lib.hid (B3.out.trans (hb.mono B3.out.size))
    clear hb B3
    have H1 := Lib.hid hsome
    have H2 := Lib.hid hnone
    clear hsome hnone
    go_wp2_with fail
    refine (HSP.out _ (by unfold maxLen; omega)).mono ?_
    rintro e w4b ⟨rfl, hb⟩
    have B4b := Lib.hid (B4.out.trans (hb.mono B4.out.size))
    clear hb B4 HSP
    have hsame : (!S.toList == S.toList) = false := by simp
    have hsame2 : (m != m) = false := by simp
    have hsame3 : (en != en) = false := by simp
    go_wp2_with fail
    cases hg : getVarAt t.data.toList pl with
    | some g =>
      obtain ⟨⟨rfl, rfl⟩, P, rfl, hP, hpg, hmax, hg9, hgt, hPg⟩ := H1.out g hg
      have htl : t.data.toList.length = t.size := by simp
      rw [htl] at hP hPg
      clear htl
      have hpart := part_of t P g hgt hPg
      have HP := Lib.hid (show (t.extract P (P + g.length)).data.toList = putVar (varVal g : Nat) by rw [hpart, hpg])
      clear H1 H2 hg hpg hgt hpart
      obtain ⟨M, hM⟩ : ∃ M : Int, ((varVal g : Nat) : Int) = M := ⟨_, rfl⟩
      rw [hM] at HP hsame2 ⊢
      clear hM hmax
      obtain ⟨gl, hgl⟩ : ∃ gl, g.length = gl := ⟨_, rfl⟩
      rw [hgl] at HP hsame3 hPg hg9 ⊢
      clear hgl
      have s0 : (0 : Int) ≤ (P : Int) := by omega
      have s1 : (0 : Int) ≤ (P : Int) + (gl : Int) := by omega
      have s3 : (P : Int) ≤ (P : Int) + (gl : Int) := by omega
      have s4 : (P : Int) + (gl : Int) ≤ (t.size : Int) := by omega
      have s5 : ((P : Int) + (gl : Int)).toNat = P + gl := by omega
      have hm2 : decide (0 ≤ (P : Int) + (gl : Int)) = true := by simpa using s1
      go_region_held3 (fun w' => True) (exact trivial) (first | (go_at_call 21; refine (specPutVar_as n S HS.out _).mono ?_; rintro e w5 ⟨rfl, hb5⟩) | (go_at_call 17; refine (implPutVar_as M (t.extract P (P + gl)) HP.out _).mono ?_; rintro e w6 ⟨rfl, hb6⟩))
      have B5 := Lib.hid (B4b.out.drew.trans (hb5.mono (by have := B4b.out.size; simpa using this)))
      have B6 := Lib.hid (B5.out.trans (hb6.mono B5.out.size))
      clear hb5 hb6 B4b B5 s0 s1 s3 s4 s5 hm2
      go_wp2_with fail
      refine (implGetVar _ _ _ (by rw [ByteArray.size_append, ByteArray.size_append]; unfold maxLen; omega)).mono ?_
      unfold VarOut
      rw [HZ.out]
      by_cases hbad : n < 0 ∨ 4611686018427387903 < n
      · have hS0 : S.data.toList = [] := by rw [HS.out, putVar_no hbad]
        have hS1 : S = ⟨#[]⟩ := bytes_ext (by rw [hS0])
        subst hS1
        generalize getVar1 (122 :: (putVar n ++ [122])) 1 = x1
        generalize getVar2 (122 :: (putVar n ++ [122])) 1 = x2
        rintro e w8 ⟨rfl, hb⟩
        have B8 := Lib.hid (B6.out.trans (hb.mono B6.out.size))
        clear hb hS0
        by_cases q1 : n < 0
        · clear hbad
          go_wp2
          go_ret
          exact ⟨rfl, B8.out⟩
        · have q2 : 4611686018427387903 < n := by omega
          clear hbad
          go_wp2
          go_ret
          exact ⟨rfl, B8.out⟩
      · obtain ⟨N, rfl⟩ := Int.eq_ofNat_of_zero_le (by omega : 0 ≤ n)
        have hN : N ≤ 4611686018427387903 := by omega
        have hbk := getVar1_some (getVar_back N hN [122] [122])
        have hS2 : S.data.toList = varB N := by rw [HS.out, putVar_in hN]
        have hSl : S.size = (varB N).length := by rw [← hS2]; simp
        rw [putVar_in hN]
        rw [List.singleton_append, List.length_singleton, show ((1 : Nat) : Int) = 1 from rfl, varVal_var, ← hSl] at hbk
        rw [hbk.1, hbk.2]
        rintro e w8 ⟨rfl, hb⟩
        have B8 := Lib.hid (B6.out.trans (hb.mono B6.out.size))
        have hpos : 1 ≤ S.size := by rw [hSl]; exact List.length_pos_iff.2 (var_ne N)
        have hne : S.toList.isEmpty = false := by
          rw [ByteArray.toList_eq, List.isEmpty_eq_false_iff, hS2]; exact var_ne N
        have hne2 : ¬ S.toList = [] := by rw [ByteArray.toList_eq, hS2]; exact var_ne N
        have HNN := Lib.hid (show N < 128 ↔ S.size = 1 by
          rw [hSl]
          constructor
          · intro h; rw [var_small h]; rfl
          · intro h
            by_cases h1 : N < 128
            · exact h1
            · rw [var_step (by omega)] at h
              have := List.length_pos_iff.2 (var_ne (N / 128))
              simp only [List.length_cons] at h
              omega)
        clear hb hbad hbk hS2 hSl hN
        by_cases hsm : N < 128
        · have hs1 : ((S.size : Int) == 1) = true := by have := HNN.out.1 hsm; simp; omega
          have hsm1 : (N : Int) < 128 := by omega
          have hsm2 : decide ((N : Int) < 128) = true := by simpa using hsm1
          clear hsm
          go_wp2
          go_ret
          exact ⟨ret_bool (a := decide ((S.size : Int) ≤ 9)) (by simp; omega), B8.out⟩
        · have hs1 : ((S.size : Int) == 1) = false := by have h1 : ¬ S.size = 1 := fun h => hsm (HNN.out.2 h); simp; omega
          have hsm1 : ¬ (N : Int) < 128 := by omega
          have hsm2 : decide ((N : Int) < 128) = false := by simpa using hsm1
          clear hsm
          go_wp2
          go_ret
          exact ⟨ret_bool (a := decide ((S.size : Int) ≤ 9)) (by simp; omega), B8.out⟩
    | none =>
      obtain ⟨rfl, rfl⟩ := H2.out hg
      clear H1 H2 hg
      refine wp_region_held_drew (S := fun _ => True) (by kernel_rfl) trivial (fun hHeld => ?_)
      refine take_at (i := 0) (d := some 36) (v := ?_) rfl rfl (by kernel_rfl) (by kernel_rfl) (by kernel_rfl) (fun _ _ _ h => h) (by rfl) ?hy ?_
      case hy => (intro w; go_simp <;> with_reducible rfl)
      simp only [Act.put, List.setIfInBounds_toArray, List.set_cons_zero, List.set_cons_succ]
      refine take_at (i := 1) (d := some 37) (v := ?_) rfl rfl (by kernel_rfl) (by kernel_rfl) (by kernel_rfl) (fun _ _ _ h => h) (by rfl) ?hy ?_
      case hy => (intro w; go_simp <;> with_reducible rfl)
      simp only [Act.put, List.setIfInBounds_toArray, List.set_cons_zero, List.set_cons_succ]
      refine wpAnyH_ready (rs := [2]) (by kernel_rfl) (by simp) ?_
      refine AllReadyH.cons rfl (fun K hK => ?_) AllReadyH.nil
      go_simp
      refine (specPutVar_as n S HS.out _).mono ?_
      rintro e w5 ⟨rfl, hb5⟩
      go_wp2_with fail
      refine hK.out _ _ trivial (fun hHeld => ?_)
      clear hK K
      refine take_at (i := 3) (d := some 39) (v := ?_) rfl rfl (by kernel_rfl) (by kernel_rfl) (by kernel_rfl) (fun _ _ _ h => h) (by rfl) ?hy ?_
      case hy => (intro w; go_simp <;> with_reducible rfl)
      simp only [Act.put, List.setIfInBounds_toArray, List.set_cons_zero, List.set_cons_succ]
      refine take_at (i := 4) (d := some 40) (v := ?_) rfl rfl (by kernel_rfl) (by kernel_rfl) (by kernel_rfl) (fun _ _ _ h => h) (by rfl) ?hy ?_
      case hy => (intro w; go_simp <;> with_reducible rfl)
      simp only [Act.put, List.setIfInBounds_toArray, List.set_cons_zero, List.set_cons_succ]
      refine take_at (i := 5) (d := some 41) (v := ?_) rfl rfl (by kernel_rfl) (by kernel_rfl) (by kernel_rfl) (fun _ _ _ h => h) (by rfl) ?hy ?_
      case hy => (intro w; go_simp <;> with_reducible rfl)
      simp only [Act.put, List.setIfInBounds_toArray, List.set_cons_zero, List.set_cons_succ]
      refine take_at (i := 6) (d := some 42) (v := ?_) rfl rfl (by kernel_rfl) (by kernel_rfl) (by kernel_rfl) (fun _ _ _ h => h) (by rfl) ?hy ?_
      case hy => (intro w; go_simp <;> with_reducible rfl)
      simp only [Act.put, List.setIfInBounds_toArray, List.set_cons_zero, List.set_cons_succ]
      refine take_at (i := 7) (d := some 43) (v := ?_) rfl rfl (by kernel_rfl) (by kernel_rfl) (by kernel_rfl) (fun _ _ _ h => h) (by rfl) ?hy ?_
      case hy => (intro w; go_simp <;> with_reducible rfl)
      simp only [Act.put, List.setIfInBounds_toArray, List.set_cons_zero, List.set_cons_succ]
      refine take_at (i := 8) (d := some 44) (v := ?_) rfl rfl (by kernel_rfl) (by kernel_rfl) (by kernel_rfl) (fun _ _ _ h => h) (by rfl) ?hy ?_
      case hy => (intro w; go_simp <;> with_reducible rfl)
      simp only [Act.put, List.setIfInBounds_toArray, List.set_cons_zero, List.set_cons_succ]
      refine take_at (i := 9) (d := some 45) (v := ?_) rfl rfl (by kernel_rfl) (by kernel_rfl) (by kernel_rfl) (fun _ _ _ h => h) (by rfl) ?hy ?_
      case hy => (intro w; go_simp <;> with_reducible rfl)
      simp only [Act.put, List.setIfInBounds_toArray, List.set_cons_zero, List.set_cons_succ]
      refine take_at (i := 10) (d := some 46) (v := ?_) rfl rfl (by kernel_rfl) (by kernel_rfl) (by kernel_rfl) (fun _ _ _ h => h) (by rfl) ?hy ?_
      case hy => (intro w; go_simp <;> with_reducible rfl)
      simp only [Act.put, List.setIfInBounds_toArray, List.set_cons_zero, List.set_cons_succ]
      refine take_at (i := 11) (d := some 47) (v := ?_) rfl rfl (by kernel_rfl) (by kernel_rfl) (by kernel_rfl) (fun _ _ _ h => h) (by rfl) ?hy ?_
      case hy => (intro w; go_simp <;> with_reducible rfl)
      simp only [Act.put, List.setIfInBounds_toArray, List.set_cons_zero, List.set_cons_succ]
      refine take_at (i := 12) (d := some 48) (v := ?_) rfl rfl (by kernel_rfl) (by kernel_rfl) (by kernel_rfl) (fun _ _ _ h => h) (by rfl) ?hy ?_
      case hy => (intro w; go_simp <;> with_reducible rfl)
      simp only [Act.put, List.setIfInBounds_toArray, List.set_cons_zero, List.set_cons_succ]
      refine take_at (i := 13) (d := some 49) (v := ?_) rfl rfl (by kernel_rfl) (by kernel_rfl) (by kernel_rfl) (fun _ _ _ h => h) (by rfl) ?hy ?_
      case hy => (intro w; go_simp <;> with_reducible rfl)
      simp only [Act.put, List.setIfInBounds_toArray, List.set_cons_zero, List.set_cons_succ]
      refine take_at (i := 14) (d := some 50) (v := ?_) rfl rfl (by kernel_rfl) (by kernel_rfl) (by kernel_rfl) (fun _ _ _ h => h) (by rfl) ?hy ?_
      case hy => (intro w; go_simp <;> with_reducible rfl)
      simp only [Act.put, List.setIfInBounds_toArray, List.set_cons_zero, List.set_cons_succ]
      refine take_at (i := 15) (d := some 51) (v := ?_) rfl rfl (by kernel_rfl) (by kernel_rfl) (by kernel_rfl) (fun _ _ _ h => h) (by rfl) ?hy ?_
      case hy => (intro w; go_simp <;> with_reducible rfl)
      simp only [Act.put, List.setIfInBounds_toArray, List.set_cons_zero, List.set_cons_succ]
      refine take_at (i := 16) (d := some 52) (v := ?_) rfl rfl (by kernel_rfl) (by kernel_rfl) (by kernel_rfl) (fun _ _ _ h => h) (by rfl) ?hy ?_
      case hy => (intro w; go_simp <;> with_reducible rfl)
      simp only [Act.put, List.setIfInBounds_toArray, List.set_cons_zero, List.set_cons_succ]
      refine take_at (i := 17) (d := some 53) (v := ?_) rfl rfl (by kernel_rfl) (by kernel_rfl) (by kernel_rfl) (fun _ _ _ h => h) (by rfl) ?hy ?_
      case hy => (intro w; go_simp <;> with_reducible rfl)
      simp only [Act.put, List.setIfInBounds_toArray, List.set_cons_zero, List.set_cons_succ]
      refine skip_at (i := 18) (d := some 54) rfl rfl (by kernel_rfl) (by kernel_rfl) (by kernel_rfl) (fun _ _ _ h => h) (by rfl) ?_
      simp only [Act.put, List.setIfInBounds_toArray, List.set_cons_zero, List.set_cons_succ]
      refine skip_at (i := 19) (d := some 55) rfl rfl (by kernel_rfl) (by kernel_rfl) (by kernel_rfl) (fun _ _ _ h => h) (by rfl) ?_
      simp only [Act.put, List.setIfInBounds_toArray, List.set_cons_zero, List.set_cons_succ]
      refine skip_at (i := 20) (d := some 56) rfl rfl (by kernel_rfl) (by kernel_rfl) (by kernel_rfl) (fun _ _ _ h => h) (by rfl) ?_
      simp only [Act.put, List.setIfInBounds_toArray, List.set_cons_zero, List.set_cons_succ]
      refine skip_at (i := 21) (d := some 57) rfl rfl (by kernel_rfl) (by kernel_rfl) (by kernel_rfl) (fun _ _ _ h => h) (by rfl) ?_
      simp only [Act.put, List.setIfInBounds_toArray, List.set_cons_zero, List.set_cons_succ]
      refine skip_at (i := 22) (d := some 58) rfl rfl (by kernel_rfl) (by kernel_rfl) (by kernel_rfl) (fun _ _ _ h => h) (by rfl) ?_
      simp only [Act.put, List.setIfInBounds_toArray, List.set_cons_zero, List.set_cons_succ]
      refine skip_at (i := 23) (d := some 59) rfl rfl (by kernel_rfl) (by kernel_rfl) (by kernel_rfl) (fun _ _ _ h => h) (by rfl) ?_
      simp only [Act.put, List.setIfInBounds_toArray, List.set_cons_zero, List.set_cons_succ]
      refine skip_at (i := 24) (d := some 60) rfl rfl (by kernel_rfl) (by kernel_rfl) (by kernel_rfl) (fun _ _ _ h => h) (by rfl) ?_
      simp only [Act.put, List.setIfInBounds_toArray, List.set_cons_zero, List.set_cons_succ]
      refine take_at (i := 25) (d := some 61) (v := ?_) rfl rfl (by kernel_rfl) (by kernel_rfl) (by kernel_rfl) (fun _ _ _ h => h) (by rfl) ?hy ?_
      case hy => (intro w; go_simp <;> with_reducible rfl)
      simp only [Act.put, List.setIfInBounds_toArray, List.set_cons_zero, List.set_cons_succ]
      refine take_at (i := 26) (d := some 62) (v := ?_) rfl rfl (by kernel_rfl) (by kernel_rfl) (by kernel_rfl) (fun _ _ _ h => h) (by rfl) ?hy ?_
      case hy => (intro w; go_simp <;> with_reducible rfl)
      simp only [Act.put, List.setIfInBounds_toArray, List.set_cons_zero, List.set_cons_succ]
      refine wpAnyH_done (by kernel_rfl) ?_ _
      have B5 := Lib.hid (B4b.out.drew.trans (hb5.mono (by have := B4b.out.size; simpa using this)))
      clear hb5 B4b
      go_wp2_with fail
      refine (implGetVar _ _ _ (by rw [ByteArray.size_append, ByteArray.size_append]; unfold maxLen; omega)).mono ?_
      unfold VarOut
      rw [HZ.out]
      by_cases hbad : n < 0 ∨ 4611686018427387903 < n
      · have hS0 : S.data.toList = [] := by rw [HS.out, putVar_no hbad]
        have hS1 : S = ⟨#[]⟩ := bytes_ext (by rw [hS0])
        subst hS1
        generalize getVar1 (122 :: (putVar n ++ [122])) 1 = x1
        generalize getVar2 (122 :: (putVar n ++ [122])) 1 = x2
        rintro e w8 ⟨rfl, hb⟩
        have B8 := Lib.hid (B5.out.trans (hb.mono B5.out.size))
        clear hb hS0
        by_cases q1 : n < 0
        · clear hbad
          go_wp2
          go_ret
          exact ⟨rfl, B8.out⟩
        · have q2 : 4611686018427387903 < n := by omega
          clear hbad
          go_wp2
          go_ret
          exact ⟨rfl, B8.out⟩
      · obtain ⟨N, rfl⟩ := Int.eq_ofNat_of_zero_le (by omega : 0 ≤ n)
        have hN : N ≤ 4611686018427387903 := by omega
        have hbk := getVar1_some (getVar_back N hN [122] [122])
        have hS2 : S.data.toList = varB N := by rw [HS.out, putVar_in hN]
        have hSl : S.size = (varB N).length := by rw [← hS2]; simp
        rw [putVar_in hN]
        rw [List.singleton_append, List.length_singleton, show ((1 : Nat) : Int) = 1 from rfl, varVal_var, ← hSl] at hbk
        rw [hbk.1, hbk.2]
        rintro e w8 ⟨rfl, hb⟩
        have B8 := Lib.hid (B5.out.trans (hb.mono B5.out.size))
        have hpos : 1 ≤ S.size := by rw [hSl]; exact List.length_pos_iff.2 (var_ne N)
        have hne : S.toList.isEmpty = false := by
          rw [ByteArray.toList_eq, List.isEmpty_eq_false_iff, hS2]; exact var_ne N
        have hne2 : ¬ S.toList = [] := by rw [ByteArray.toList_eq, hS2]; exact var_ne N
        have HNN := Lib.hid (show N < 128 ↔ S.size = 1 by
          rw [hSl]
          constructor
          · intro h; rw [var_small h]; rfl
          · intro h
            by_cases h1 : N < 128
            · exact h1
            · rw [var_step (by omega)] at h
              have := List.length_pos_iff.2 (var_ne (N / 128))
              simp only [List.length_cons] at h
              omega)
        clear hb hbad hbk hS2 hSl hN
        by_cases hsm : N < 128
        · have hs1 : ((S.size : Int) == 1) = true := by have := HNN.out.1 hsm; simp; omega
          have hsm1 : (N : Int) < 128 := by omega
          have hsm2 : decide ((N : Int) < 128) = true := by simpa using hsm1
          clear hsm
          go_wp2
          go_ret
          exact ⟨ret_bool (a := decide ((S.size : Int) ≤ 9)) (by simp; omega), B8.out⟩
        · have hs1 : ((S.size : Int) == 1) = false := by have h1 : ¬ S.size = 1 := fun h => hsm (HNN.out.2 h); simp; omega
          have hsm1 : ¬ (N : Int) < 128 := by omega
          have hsm2 : decide ((N : Int) < 128) = false := by simpa using hsm1
          clear hsm
          go_wp2
          go_ret
          exact ⟨ret_bool (a := decide ((S.size : Int) ≤ 9)) (by simp; omega), B8.out⟩
  · go_enter Try.func3, Try.ntmps3
    go_wp2_with fail
    refine (big_yes a0 len0 cap0 _ hbig).mono ?_
    rintro e w1 ⟨rfl, rfl⟩
    go_wp2
    go_ret
    exact ⟨rfl, Below.refl _ _⟩
end Go.Proofs.Ytkhpgomgaimhkaa
