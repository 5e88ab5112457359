/- The walk of the law FnFilters: a filter of more keys has all that the one of fewer has, where they are of one size. -/
import Derived.Test.YtlnjaebfdemlgaaFilI
import Derived.Test.YtlnjaebfdemlgaaOwnStr
import Derived.Test.YtlnjaebfdemlgaaLawA
import Derived.Test.YtlnjaebfdemlgaaDec
import Derived.Lib.ItoaLen
namespace Go.Proofs.Ytlnjaebfdemlgaa
open Go.RowKit
set_option linter.unusedVariables false

theorem itoa_short (n : Int) (h0 : 0 ≤ n) (h1 : n ≤ 9223372036854775807) : (⟨(Lib.itoa n).toArray⟩ : ByteArray).size ≤ 21 := by
  have := Lib.itoa_length_le n (by omega) h1
  simpa [ByteArray.size] using this
theorem mem_lists {xs : List ByteArray} {k : List UInt8} : k ∈ lists xs ↔ ∃ x ∈ xs, x.data.toList = k := by unfold lists; rw [List.mem_map]
theorem lists_app (xs ys : List ByteArray) : lists (xs ++ ys) = lists xs ++ lists ys := by unfold lists; rw [List.map_append]
theorem fit_twice {xs : List ByteArray} (h : FitS xs) : FitS (xs ++ xs) := fun x hx => by
  rcases List.mem_append.1 hx with h1 | h1 <;> exact h x h1
/-- What of a list stands from a place on, turned around. -/
def backOf (xs : List ByteArray) (j : Nat) : List ByteArray := (xs.drop j).reverse
theorem back_step {xs : List ByteArray} {j : Nat} {x : ByteArray} (h : xs[j]? = some x) : backOf xs j = backOf xs (j + 1) ++ [x] := by
  obtain ⟨hi, rfl⟩ := List.getElem?_eq_some_iff.1 h
  unfold backOf
  rw [List.drop_eq_getElem_cons hi, List.reverse_cons]
theorem back_len (xs : List ByteArray) (j : Nat) : (backOf xs j).length = xs.length - j := by unfold backOf; simp
theorem back_end (xs : List ByteArray) : backOf xs xs.length = [] := by unfold backOf; simp
theorem strs_cells {w : World} {g n c : Nat} {xs : List ByteArray} (h : StrAt w (some ⟨g, 0, none⟩) n c xs) : ∀ j u, (xs.map Value.string)[j]? = some u → w.cell? ((⟨g, 0, none⟩ : Addr).add j) = some u := by
  intro j u hj
  rw [List.getElem?_map] at hj
  cases hx : xs[j]? with
  | none => rw [hx] at hj; cases hj
  | some x =>
    rw [hx] at hj
    cases hj
    obtain ⟨g', hg, hc⟩ := h.2.2 j x hx
    cases hg
    have e : (⟨g, 0, none⟩ : Addr).add j = ⟨g, j, none⟩ := by
      unfold Addr.add; split
      · subst_vars; rfl
      · simp
    rw [e]
    exact hc

theorem OwnS.kept {B : Nat} {w w' : World} {v : Value} {xs : List ByteArray} {row : Option Nat} (h : OwnS B w v xs) (hg : w.grownBy w' row) (hne : ∀ k, v.ownBlock = some k → some k ≠ row) : OwnS B w' v xs := by
  refine World.ownsRow.kept h hg ?_
  cases hv : v.ownBlock with
  | none => exact .inl rfl
  | some k => exact .inr (hne k hv)
theorem made_string (w : World) : OwnS w.heap.size (w.alloc (.cells #[] 9)) (.slice (some ⟨w.heap.size, 0, none⟩) 0 0) [] := owns_made w
set_option maxHeartbeats 4000000 in
set_option maxRecDepth 100000 in
theorem fnFilters_walk (a0 : Option Addr) (len0 cap0 : Nat) (z0 : List Int) (w : World) (w0 : IsRow .u8 w a0 len0 cap0 z0) :
    Calls Try.prog 5 #[.slice a0 len0 cap0] w fun e w' => e = .returned (.bool true) ∧ Below w.heap.size w w' := by
  have HR := Lib.hid (bytes_of_row w0 w.heap.size (Nat.le_refl _))
  clear w0
  by_cases hbig : len0 ≤ 1048576
  · have O0 := Lib.hid (owns_made w)
    have B0 := Lib.hid ((Below.refl w.heap.size w).alloc (Nat.le_refl _) (.cells #[] 9))
    go_enter Try.func5, Try.ntmps5
    go_wp2_with fail
    refine (big_no a0 len0 cap0 _ hbig).mono ?_
    rintro e w1 ⟨rfl, rfl⟩
    go_wp2_with fail
    refine (at_some a0 len0 cap0 z0 0 _ _ HR.out hbig (by omega)).mono ?_
    rintro e w2 ⟨x0, hx0, rfl, rfl⟩
    obtain ⟨N, hN⟩ : ∃ N : Nat, 1 + x0 % 20 = N := ⟨_, rfl⟩
    have hN0 : 1 ≤ N := by omega
    have hN1 : N ≤ 20 := by omega
    have hNi : (1 : Int) + (x0 : Int) % 20 = (N : Int) := by omega
    clear hN
    go_wp2_with fail
    go_loopw [4, 5] (fun vv ii wr => ∃ (j : Nat) (xs : List ByteArray), j ≤ N ∧ ii = .int .i64 j ∧ xs.length = j ∧ Hid (OwnS w.heap.size wr vv xs ∧ Below w.heap.size w wr ∧ FitS xs)) (fun _ ii _ => N - (intOf ii).toNat)
    case atStart => exact ⟨0, [], by omega, rfl, rfl, ⟨O0.out, B0.out, fun x hx => by simp at hx⟩⟩
    case round =>
      obtain ⟨j, xs, hj, rfl, hxl, HX⟩ := hrel
      obtain ⟨ad, cp, hv⟩ := HX.out.1.form
      rw [hxl] at hv
      subst hv
      have HL := Lib.hid hxl
      clear hxl
      by_cases hlt : j < N
      · have j1 : (j : Int) < (N : Int) := by omega
        have Q1 := Lib.hid (show (j : Int) + 1 = ((j + 1 : Nat) : Int) by omega)
        go_wp2_with fail
        rw [Q1.out]
        refine (at_some a0 len0 cap0 z0 (j + 1) _ _ (below_bytes HR.out HX.out.2.1) hbig (by omega)).mono ?_
        rintro e w4 ⟨y, hy, rfl, rfl⟩
        obtain ⟨m, hm⟩ : ∃ m : Nat, y * j = m := ⟨_, rfl⟩
        have hm1 : m ≤ 255 * 20 := by rw [← hm]; exact Nat.mul_le_mul hy (by omega)
        have hmi : (y : Int) * (j : Int) = (m : Int) := by rw [← hm, Int.natCast_mul]
        have hmw : IntKind.i64.wrap ((y : Int) * (j : Int)) = (m : Int) := by rw [hmi]; exact IntWalk.i64_in _ (by omega)
        clear hm
        go_wp2_with fail
        refine (specDecText (m : Int) _ (by omega) (by omega)).mono ?_
        rintro e w4 ⟨rfl, rfl⟩
        obtain ⟨V, hV⟩ : ∃ V : ByteArray, (⟨(Lib.itoa (m : Int)).toArray⟩ : ByteArray) = V := ⟨_, rfl⟩
        have hVs : V.size ≤ 21 := by rw [← hV]; exact itoa_short _ (by omega) (by omega)
        rw [hV]
        clear hV hmi hmw
        have N6 := Lib.hid (new_text wr V)
        have O6 := Lib.hid (HX.out.1.new (.cells #[.string V] 9))
        have B6 := Lib.hid (HX.out.2.1.alloc HX.out.2.1.size (.cells #[.string V] 9))
        have HF := Lib.hid HX.out.2.2
        clear HX
        go_wp2_with (at_builtin; refine wpList_plain rfl (fun K hK => ?_); refine op_pushW [V] _ _ rfl rfl rfl rfl N6.out O6.out B6.out.size (by rw [HL.out]; simp; omega) ?_; intro v7 w7 o7 gr7; refine hK _ _ ?_; clear hK K; have L7 := Lib.hid (B6.out.grown gr7 B6.out.size (fun q e => (O6.out.lt e).1)); have O7 := Lib.hid o7; clear o7 gr7)
        go_roundw
        case rel =>
          refine ⟨j + 1, xs ++ [V], by omega, by go_num, by rw [List.length_append, HL.out]; rfl, ⟨O7.out, L7.out, fun x hx => ?_⟩⟩
          rcases List.mem_append.1 hx with h1 | h1
          · exact HF.out x h1
          · rw [List.mem_singleton.1 h1]; unfold maxLen; omega
        case measure => simp [intOf]; omega
      · obtain rfl : j = N := by omega
        have h3 : ¬ (j : Int) < (j : Int) := by omega
        obtain ⟨y0, hy0⟩ : ∃ y, xs[0]? = some y := ⟨_, List.getElem?_eq_getElem (by rw [HL.out]; omega)⟩
        obtain ⟨g, hag, _⟩ := HX.out.1.row.2.2 0 y0 hy0
        subst hag
        have OX := Lib.hid HX.out.1
        have BX := Lib.hid HX.out.2.1
        have HF := Lib.hid HX.out.2.2
        have hjc := OX.out.row.2.1
        have hgl : g < wr.heap.size := (OX.out.lt (k := g) rfl).2
        have HG := Lib.hid hgl
        have HGN := Lib.hid (show (some g : Option Nat) ≠ some wr.heap.size from fun e => by have := Option.some.inj e; omega)
        clear HX hy0 hNi
        have E1 := Lib.hid (owns_made wr)
        have ZZ := Lib.hid (show wr.heap.size ≤ (wr.alloc (.cells #[] 9)).heap.size by simp)
        have K1 := Lib.hid (OX.out.new (.cells #[] 9))
        have C1 := Lib.hid (strs_cells K1.out.row)
        have L1 := Lib.hid (BX.out.alloc BX.out.size (.cells #[] 9))
        go_wp2_with (at_builtin; refine wpList_plain rfl (fun K hK => ?_); first
          | (refine op_pushW xs _ _ rfl rfl rfl HL.out C2.out E2.out Z2.out (by rw [HL.out]; omega) ?_
             intro v8 w8 o8 gr8
             refine hK _ _ ?_
             clear hK K
             have K3 := Lib.hid (K2.out.kept gr8 (fun k hk => by cases hk; exact N2.out))
             have L3 := Lib.hid (L2.out.grown gr8 L2.out.size (fun q e => Nat.le_trans BX.out.size (E2.out.lt e).1))
             have E3 := Lib.hid o8
             clear o8 gr8)
          | (refine op_pushW xs _ _ rfl rfl rfl HL.out C1.out E1.out ZZ.out (by rw [HL.out]; simp; omega) ?_
             intro v7 w7 o7 gr7
             refine hK _ _ ?_
             clear hK K
             rw [List.nil_append] at o7
             have K2 := Lib.hid (K1.out.kept gr7 (fun k hk => by cases hk; exact HGN.out))
             have L2 := Lib.hid (L1.out.grown gr7 L1.out.size (fun q e => Nat.le_trans BX.out.size (E1.out.lt e).1))
             have C2 := Lib.hid (strs_cells K2.out.row)
             have E2 := Lib.hid o7
             have Z2 := Lib.hid (Nat.le_trans ZZ.out gr7.size)
             have N2 := Lib.hid (show some g ≠ v7.ownBlock from fun e => by have := (E2.out.lt e.symm).1; have := HG.out; omega)
             clear o7 gr7))
        obtain ⟨m2, hm2⟩ : ∃ m, j + j = m := ⟨_, rfl⟩
        obtain ⟨ad8, cp8, hv8⟩ := E3.out.form
        have HL2 := Lib.hid (show (xs ++ xs).length = m2 by rw [List.length_append, HL.out, hm2])
        rw [HL2.out] at hv8
        subst hv8
        have hm40 : m2 ≤ 40 := by omega
        have K8 := Lib.hid K3.out.row
        have T8 := Lib.hid E3.out.row
        have B8 := Lib.hid L3.out
        have HF2 := Lib.hid (fit_twice HF.out)
        obtain ⟨A, hA⟩ : ∃ A : ByteArray, (⟨(filterB (lists xs)).toArray⟩ : ByteArray) = A := ⟨_, rfl⟩
        have HAT := Lib.hid hA
        obtain ⟨D, hD⟩ : ∃ A : ByteArray, (⟨(filterB (lists (xs ++ xs))).toArray⟩ : ByteArray) = A := ⟨_, rfl⟩
        have HDT := Lib.hid hD
        have HDL := Lib.hid (show D.data.toList = filterB (lists (xs ++ xs)) by rw [← hD])
        have hD20 : D.size ≤ 250 := by
          have h1 := filter_len (keys := lists (xs ++ xs)) (by rw [lists_len, HL2.out]; omega)
          have h2 := fsize_le (n := (lists (xs ++ xs)).length) (by rw [lists_len, HL2.out]; omega)
          rw [← HDL.out] at h1
          have h3 : D.data.toList.length = D.size := by simp
          omega
        clear hA hD hm2
        go_wp2_with fail
        refine (implFilter (some ⟨g, 0, none⟩) j cp xs (by omega) HF.out _ K8.out).mono ?_
        rw [HAT.out]
        rintro e w9 ⟨rfl, b9⟩
        have K9 := Lib.hid (K8.out.below b9)
        have T9 := Lib.hid (T8.out.below b9)
        have B9 := Lib.hid (B8.out.trans (b9.mono B8.out.size))
        clear b9
        go_wp2_with fail
        refine (implFilter ad8 m2 cp8 (xs ++ xs) (by omega) HF2.out _ T9.out).mono ?_
        rw [HDT.out]
        rintro e wA ⟨rfl, bA⟩
        have KA := Lib.hid (K9.out.below bA)
        have TA := Lib.hid (T9.out.below bA)
        have BA := Lib.hid (B9.out.trans (bA.mono B9.out.size))
        have OA := Lib.hid (owns_made wA)
        have GA := Lib.hid ((Below.refl wA.heap.size wA).alloc (Nat.le_refl _) (.cells #[] 9))
        clear bA
        go_wp2_with fail
        go_loopw [9, 10] (fun vv ii wr => ∃ (k : Nat) (q : Int), k ≤ j ∧ q = (k : Int) - 1 ∧ ii = .int .i64 q ∧ Hid (OwnS wA.heap.size wr vv (backOf xs k) ∧ Below wA.heap.size wA wr)) (fun _ ii _ => (intOf ii + 1).toNat)
        case atStart => exact ⟨j, (j : Int) - 1, by omega, rfl, rfl, ⟨by have := back_end xs; rw [HL.out] at this; rw [this]; exact OA.out, GA.out⟩⟩
        case round =>
          obtain ⟨k, q, hk, hq, rfl, RR⟩ := hrel
          obtain ⟨adb, cpb, hvb⟩ := RR.out.1.form
          rw [back_len, HL.out] at hvb
          subst hvb
          by_cases h0 : 0 ≤ q
          · obtain ⟨m, rfl⟩ := Int.eq_ofNat_of_zero_le h0
            obtain rfl : k = m + 1 := by omega
            obtain ⟨x, hx⟩ : ∃ x, xs[m]? = some x := ⟨_, List.getElem?_eq_getElem (by rw [HL.out]; omega)⟩
            obtain ⟨g', hg', c0⟩ := (KA.out.below RR.out.2).2.2 m x hx
            cases hg'
            have HB := Lib.hid (back_step hx)
            have m1 : (m : Int) < (j : Int) := by omega
            have N6 := Lib.hid (new_text wr x)
            have O6 := Lib.hid (RR.out.1.new (.cells #[.string x] 9))
            have B6 := Lib.hid (RR.out.2.alloc RR.out.2.size (.cells #[.string x] 9))
            have HBL := Lib.hid (show (backOf xs (m + 1)).length ≤ 20 by rw [back_len, HL.out]; omega)
            clear hx RR hq
            go_wp2_with (at_builtin; refine wpList_plain rfl (fun K hK => ?_); refine op_pushW [x] _ _ rfl rfl rfl rfl N6.out O6.out B6.out.size (by have := HBL.out; simp; omega) ?_; intro v7 w7 o7 gr7; refine hK _ _ ?_; clear hK K; have M7 := Lib.hid (B6.out.grown gr7 B6.out.size (fun q e => (O6.out.lt e).1)); have P7 := Lib.hid o7; clear o7 gr7)
            go_roundw
            case rel => exact ⟨m, (m : Int) - 1, by omega, rfl, by go_num, ⟨by rw [HB.out]; exact P7.out, M7.out⟩⟩
            case measure => simp [intOf]
          · obtain rfl : k = 0 := by omega
            have hq1 : q = -1 := by omega
            subst hq1
            have KB := Lib.hid (KA.out.below RR.out.2)
            have TB := Lib.hid (TA.out.below RR.out.2)
            have RB := Lib.hid (show StrAt wr adb (j - 0) cpb xs.reverse from RR.out.1.row)
            have BB := Lib.hid (BA.out.trans (RR.out.2.mono BA.out.size))
            have HSR := Lib.hid (show filterB (lists xs.reverse) = filterB (lists xs) from filter_same (by rw [lists_len, lists_len, List.length_reverse]) (by rw [lists_len, List.length_reverse, HL.out]; omega) (fun k => by rw [mem_lists, mem_lists]; simp))
            have HFR := Lib.hid (show FitS xs.reverse from fun x hx => HF.out x (List.mem_reverse.1 hx))
            have hA1 : (A.toList == A.toList) = true := by simp
            have hD1 : (D.toList == D.toList) = true := by simp
            clear RR hq h0
            go_wp2_with fail
            refine (specFilter (some ⟨g, 0, none⟩) j cp xs (by omega) HF.out _ KB.out).mono ?_
            rw [HAT.out]
            rintro e wC ⟨rfl, bC⟩
            have KC := Lib.hid (KB.out.below bC)
            have TC := Lib.hid (TB.out.below bC)
            have RC := Lib.hid (RB.out.below bC)
            have BC := Lib.hid (BB.out.trans (bC.mono BB.out.size))
            clear bC
            go_wp2_with fail
            refine (specFilter ad8 m2 cp8 (xs ++ xs) (by omega) HF2.out _ TC.out).mono ?_
            rw [HDT.out]
            rintro e wD ⟨rfl, bD⟩
            have KD := Lib.hid (KC.out.below bD)
            have RD := Lib.hid (RC.out.below bD)
            have BD := Lib.hid (BC.out.trans (bD.mono BC.out.size))
            clear bD
            go_wp2_with fail
            refine (implFilter adb (j - 0) cpb xs.reverse (by omega) HFR.out _ RD.out).mono ?_
            rw [HSR.out, HAT.out]
            rintro e wE ⟨rfl, bE⟩
            have KE := Lib.hid (KD.out.below bE)
            have BE := Lib.hid (BD.out.trans (bE.mono BD.out.size))
            have HRE := Lib.hid (below_bytes HR.out BE.out)
            clear bE
            go_wp2_with fail
            refine (at_some a0 len0 cap0 z0 30 _ _ HRE.out hbig (by omega)).mono ?_
            rintro e w2 ⟨y, hy, rfl, rfl⟩
            obtain ⟨p, hp⟩ : ∃ p : Nat, y % j = p := ⟨_, rfl⟩
            have hpj : p < j := by rw [← hp]; exact Nat.mod_lt _ (by omega)
            have hpi : (y : Int).tmod (j : Int) = (p : Int) := by rw [← hp, Int.natCast_emod, Int.tmod_eq_emod_of_nonneg (by omega)]
            have hjz : ¬ j = 0 := by omega
            have hpw : IntKind.i64.wrap (p : Int) = (p : Int) := IntWalk.i64_in _ (by omega)
            have p0 : (0 : Int) ≤ (p : Int) := by omega
            have p1 : (p : Int) < (j : Int) := by omega
            obtain ⟨x, hx⟩ : ∃ x, xs[p]? = some x := ⟨_, List.getElem?_eq_getElem (by rw [HL.out]; exact hpj)⟩
            obtain ⟨g', hg', c0⟩ := KE.out.2.2 p x hx
            cases hg'
            have hxm := HF.out x (List.mem_of_getElem? hx)
            have HH := Lib.hid (show mayHave D.data.toList x.data.toList = true by
              rw [HDL.out]
              exact has_keys (by rw [lists_len, HL2.out]; omega) (mem_lists.2 ⟨x, by simp [List.mem_of_getElem? hx], rfl⟩))
            clear hp hx
            go_wp2_with fail
            refine (implMayHave D x _ (by omega) hxm).mono ?_
            rw [HH.out]
            rintro e wF ⟨rfl, bF⟩
            have BF := Lib.hid (BE.out.trans (bF.mono BE.out.size))
            clear bF
            go_wp2
            go_ret
            exact ⟨ret_bool (by simp), BF.out⟩
  · go_enter Try.func5, Try.ntmps5
    go_wp2_with fail
    refine (big_yes a0 len0 cap0 _ hbig).mono ?_
    rintro e w1 ⟨rfl, rfl⟩
    go_wp2
    go_ret
    exact ⟨rfl, Below.refl _ _⟩
end Go.Proofs.Ytlnjaebfdemlgaa
