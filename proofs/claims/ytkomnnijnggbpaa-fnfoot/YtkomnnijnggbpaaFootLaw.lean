/- The walk of the law FnFoot: the foot of a table tells where its parts are, and how many cells it has. -/
import Derived.Test.YtkomnnijnggbpaaPutTab
import Derived.Test.YtkomnnijnggbpaaTabPutI
import Derived.Test.YtkomnnijnggbpaaZ6
import Derived.Test.YtkomnnijnggbpaaGetFix
import Derived.Test.YtkomnnijnggbpaaUnwrap
import Derived.Test.YtkomnnijnggbpaaMayI
import Derived.Test.YtkomnnijnggbpaaNamesS
import Derived.Test.YtkomnnijnggbpaaZ0
import Derived.Test.YtkomnnijnggbpaaZ2
namespace Go.Proofs.Ytkomnnijnggbpaa
open Go.RowKit
set_option linter.unusedVariables false

theorem confF_cells {w : World} {g T : Nat} {a b c : Value} (h : w.heap[g]? = some (.cells #[a, b, c] T (0, 0))) : w.cell? ⟨g, 0, none⟩ = some a ∧ w.cell? ⟨g, 1, none⟩ = some b ∧ w.cell? ⟨g, 2, none⟩ = some c :=
  ⟨by simp [World.cell?, h], by simp [World.cell?, h], by simp [World.cell?, h]⟩
theorem keeps_blockF {W W' : World} {g : Nat} {o : Obj} (h : W.heap[g]? = some o) (hb : Below W.heap.size W W') : W'.heap[g]? = some o := (hb.block _ (Array.getElem?_eq_some_iff.1 h).1).trans h
theorem part_of (s : ByteArray) (a n : Nat) : (s.extract a (a + n)).data.toList = (s.data.toList.drop a).take n := by
  simp only [ByteArray.data_extract, Array.toList_extract, List.extract_eq_take_drop]
  rw [show a + n - a = n by omega]
set_option maxHeartbeats 20000000 in
set_option maxRecDepth 100000 in
theorem fnFoot_walk (a0 : Option Addr) (len0 cap0 : Nat) (z0 : List Int) (w : World) (w0 : IsRow .u8 w a0 len0 cap0 z0) :
    Calls Try.prog 3 #[.slice a0 len0 cap0] w fun e w' => e = .returned (.bool true) ∧ Below w.heap.size w w' := by
  have HR := Lib.hid (bytes_of_row w0 w.heap.size (Nat.le_refl _))
  clear w0
  by_cases hbig : len0 ≤ 1048576
  · go_enter Try.func3, Try.ntmps3
    go_wp2_with fail
    refine (big_no a0 len0 cap0 _ hbig).mono ?_
    rintro e w1 ⟨rfl, rfl⟩
    go_wp2_with fail
    refine (at_some a0 len0 cap0 z0 0 _ _ HR.out hbig (by omega)).mono ?_
    rintro e w2 ⟨x0, hx0, rfl, rfl⟩
    obtain ⟨N, hN⟩ : ∃ N : Nat, x0 % 12 = N := ⟨_, rfl⟩
    have hN1 : N ≤ 11 := by omega
    have hNi : (x0 : Int) % 12 = (N : Int) := by omega
    clear hN
    go_wp2_with fail
    try rw [hNi]
    refine (cells_at_of 4 N (by omega) (by omega) a0 len0 cap0 z0 _ HR.out hbig).mono ?_
    rintro e w1 ⟨v, xs, rfl, o1, hok, hxl, b1⟩
    obtain ⟨ad, cp, rfl⟩ := own_form o1
    obtain ⟨n, hn⟩ : ∃ n, xs.length = n := ⟨_, rfl⟩
    have HL := Lib.hid hn
    have HT := Lib.hid (tab_small (c := ⟨(confE len0 z0 : Int), (confZ len0 z0 : Int), confP len0 z0⟩) hok (conf_ok' len0 z0) (by omega))
    rw [hn] at hxl ⊢
    have R1 := Lib.hid (show CelRow w1 ad n cp xs by have := o1.row; rwa [hn] at this)
    have B1 := Lib.hid b1
    have HF := Lib.hid (fit_ok hok)
    have HOK := Lib.hid hok
    have HR1 := Lib.hid (below_bytes HR.out b1)
    clear o1 hok b1 hn hNi
    go_wp2_with fail
    refine (aConfig_at a0 len0 cap0 z0 _ HR1.out hbig).mono ?_
    rintro e w2 ⟨rfl, b2⟩
    obtain ⟨E1, hE1⟩ : ∃ x, confE len0 z0 = x := ⟨_, rfl⟩
    obtain ⟨Z1, hZ1⟩ : ∃ x, confZ len0 z0 = x := ⟨_, rfl⟩
    obtain ⟨P1, hP1⟩ : ∃ x, confP len0 z0 = x := ⟨_, rfl⟩
    rw [hE1, hZ1, hP1] at HT ⊢
    clear hE1 hZ1 hP1
    have K2 := Lib.hid (b2.trans ((one_below w2 (.cells #[.int .i64 E1, .int .i64 Z1, .bool P1] 28)).mono b2.size))
    have X2 := Lib.hid (alloc_at w2 (.cells #[.int .i64 E1, .int .i64 Z1, .bool P1] 28))
    have R2 := Lib.hid (R1.out.below K2.out)
    have B2 := Lib.hid (B1.out.trans (K2.out.mono B1.out.size))
    clear b2 K2
    obtain ⟨wa, hwa⟩ : ∃ X, w2.alloc (.cells #[.int .i64 E1, .int .i64 Z1, .bool P1] 28) = X := ⟨_, rfl⟩
    obtain ⟨ga, hga⟩ : ∃ g, w2.heap.size = g := ⟨_, rfl⟩
    rw [hwa, hga] at X2
    rw [hwa] at R2 B2
    obtain ⟨x0, x1, x2⟩ := confF_cells X2.out
    obtain ⟨S, hS, hSl⟩ := text_of (tableB xs ⟨(E1 : Int), (Z1 : Int), P1⟩)
    have hS1 := table_short HT.out
    have hS2 := table_len xs ⟨(E1 : Int), (Z1 : Int), P1⟩
    obtain ⟨a, ha⟩ : ∃ x, (outB xs ⟨(E1 : Int), (Z1 : Int), P1⟩).length = x := ⟨_, rfl⟩
    obtain ⟨b, hb⟩ : ∃ x, (topB xs ⟨(E1 : Int), (Z1 : Int), P1⟩).length = x := ⟨_, rfl⟩
    obtain ⟨f, hf⟩ : ∃ x, (filB xs).length = x := ⟨_, rfl⟩
    obtain ⟨p, hp⟩ : ∃ x, a + b = x := ⟨_, rfl⟩
    obtain ⟨q, hq⟩ : ∃ x, p + f = x := ⟨_, rfl⟩
    have hSs : S.size = q + 38 := by omega
    have hq9 : q ≤ 130000 := by omega
    have hp9 : p ≤ 130000 := by omega
    have ha9 : a ≤ 130000 := by omega
    have hb9 : b ≤ 130000 := by omega
    have hf9 : f ≤ 130000 := by omega
    have hSm : S.size ≤ maxLen := by unfold maxLen; omega
    have hfoot : (S.size : Int) - 38 = (q : Int) := by omega
    have hpi : (a : Int) + (b : Int) = (p : Int) := by omega
    have hqi : (p : Int) + (f : Int) = (q : Int) := by omega
    obtain ⟨g0, g1, g2, g3, g4, g5, g6, _⟩ := foot_reads xs ⟨(E1 : Int), (Z1 : Int), P1⟩ HT.out (q : Int) (by rw [← hSl]; omega)
    rw [← hS] at g0 g1 g2 g3 g4 g5 g6
    rw [ha] at g0
    rw [hb] at g1
    rw [ha, hb, hp] at g2
    rw [hf] at g3
    rw [HL.out] at g4
    have G0 := Lib.hid g0
    have G1 := Lib.hid g1
    have G2 := Lib.hid g2
    have G3 := Lib.hid g3
    have G4 := Lib.hid g4
    have G5 := Lib.hid g5
    have G6 := Lib.hid g6
    obtain ⟨X, hX⟩ : ∃ X, S.extract a p = X := ⟨_, rfl⟩
    obtain ⟨Y, hY⟩ : ∃ X, S.extract p q = X := ⟨_, rfl⟩
    have hXs : X.size ≤ 1048576 := by rw [← hX, ByteArray.size_extract]; omega
    have hYs : Y.size ≤ 1048576 := by rw [← hY, ByteArray.size_extract]; omega
    have hXd : X.data.toList = topB xs ⟨(E1 : Int), (Z1 : Int), P1⟩ := by
      rw [← hX, ← hp, part_of, hS, ← ha, ← hb]
      exact top_at _ _
    have hYd : Y.data.toList = filB xs := by
      rw [← hY, ← hq, part_of, hS, ← hp, ← ha, ← hb, ← hf]
      exact fil_at _ _
    have hx60 : xs.length ≤ 60 := HT.out.1
    obtain ⟨I, hI, _⟩ := text_of (idxTo xs ⟨(E1 : Int), (Z1 : Int), P1⟩ (nBlk xs ⟨(E1 : Int), (Z1 : Int), P1⟩))
    obtain ⟨A, hA, hAl⟩ := text_of (filterB (xs.map nameKey))
    have HUX := Lib.hid (show (I.data.toList, 0) = unwrapB X.data.toList by rw [hXd, top_read HT.out, hI])
    have HUY := Lib.hid (show (A.data.toList, 0) = unwrapB Y.data.toList by rw [hYd, fil_read HT.out.1, hA])
    have hAs : A.size ≤ 1000 := by
      rw [hAl, filter_len (by rw [List.length_map]; omega)]
      have := fsize_le (n := (xs.map nameKey).length) (by rw [List.length_map]; omega)
      omega
    have HAD := Lib.hid hA
    have HX := Lib.hid hX
    have HY := Lib.hid hY
    have HP := Lib.hid (show putTable xs ⟨(E1 : Int), (Z1 : Int), P1⟩ = S.data.toList by rw [putTable, if_pos HT.out, hS])
    clear hS hSl hS1 hS2 ha hb hf g0 g1 g2 g3 g4 g5 g6 hX hY hXd hYd hI hA hAl
    go_wp2_with fail
    clear hwa hga x0 x1 x2
    refine (implPutTable ad n cp xs E1 Z1 P1 (by omega) HF.out _ R2.out.o).mono ?_
    intro e w3 h3
    obtain ⟨S', hS', hz', rfl, b3⟩ := h3.text
    rw [HP.out] at hS'
    obtain rfl : S' = S := bytes_ext hS'
    have X3 := Lib.hid (keeps_blockF X2.out b3)
    have R3 := Lib.hid (R2.out.below b3)
    have B3 := Lib.hid (B2.out.trans (b3.mono B2.out.size))
    clear h3 hS' hz' b3
    obtain ⟨x0, x1, x2⟩ := confF_cells X3.out
    go_wp2_with fail
    clear x0 x1 x2
    refine (specPutTable ad n cp xs E1 Z1 P1 (by omega) HF.out _ R3.out.o).mono ?_
    intro e w4 h4
    obtain ⟨S2, hS', hz', rfl, b4⟩ := h4.text
    rw [HP.out] at hS'
    obtain rfl : S2 = S' := bytes_ext hS'
    have X4 := Lib.hid (keeps_blockF X3.out b4)
    have R4 := Lib.hid (R3.out.below b4)
    have B4 := Lib.hid (B3.out.trans (b4.mono B3.out.size))
    clear h4 hS' hz' b4
    go_wp2_with fail
    refine (implGetFix S2 (q : Int) 4 _ hSm).mono ?_
    rw [G0.out]
    rintro e w5 ⟨rfl, b5⟩
    have X5 := Lib.hid (keeps_blockF X4.out b5)
    have R5 := Lib.hid (R4.out.below b5)
    have B5 := Lib.hid (B4.out.trans (b5.mono B4.out.size))
    clear b5
    go_wp2_with fail
    refine (implGetFix S2 ((q : Int) + 4) 4 _ hSm).mono ?_
    rw [G1.out]
    rintro e w6 ⟨rfl, b6⟩
    have X6 := Lib.hid (keeps_blockF X5.out b6)
    have R6 := Lib.hid (R5.out.below b6)
    have B6 := Lib.hid (B5.out.trans (b6.mono B5.out.size))
    clear b6
    go_wp2_with fail
    refine (implGetFix S2 ((q : Int) + 8) 4 _ hSm).mono ?_
    rw [G2.out]
    rintro e w7 ⟨rfl, b7⟩
    have X7 := Lib.hid (keeps_blockF X6.out b7)
    have R7 := Lib.hid (R6.out.below b7)
    have B7 := Lib.hid (B6.out.trans (b7.mono B6.out.size))
    clear b7
    go_wp2_with fail
    refine (implGetFix S2 ((q : Int) + 12) 4 _ hSm).mono ?_
    rw [G3.out]
    rintro e w8 ⟨rfl, b8⟩
    have X8 := Lib.hid (keeps_blockF X7.out b8)
    have R8 := Lib.hid (R7.out.below b8)
    have B8 := Lib.hid (B7.out.trans (b8.mono B7.out.size))
    clear b8
    go_wp2_with fail
    refine (specGetFix S2 (q : Int) 4 _ hSm (by omega)).mono ?_
    rw [G0.out]
    rintro e w9 ⟨rfl, b9⟩
    have X9 := Lib.hid (keeps_blockF X8.out b9)
    have R9 := Lib.hid (R8.out.below b9)
    have B9 := Lib.hid (B8.out.trans (b9.mono B8.out.size))
    clear b9
    go_wp2_with fail
    refine (specGetFix S2 ((q : Int) + 4) 4 _ hSm (by omega)).mono ?_
    rw [G1.out]
    rintro e w10 ⟨rfl, b10⟩
    have X10 := Lib.hid (keeps_blockF X9.out b10)
    have R10 := Lib.hid (R9.out.below b10)
    have B10 := Lib.hid (B9.out.trans (b10.mono B9.out.size))
    clear b10
    go_wp2_with fail
    refine (specGetFix S2 ((q : Int) + 8) 4 _ hSm (by omega)).mono ?_
    rw [G2.out]
    rintro e w11 ⟨rfl, b11⟩
    have X11 := Lib.hid (keeps_blockF X10.out b11)
    have R11 := Lib.hid (R10.out.below b11)
    have B11 := Lib.hid (B10.out.trans (b11.mono B10.out.size))
    clear b11
    go_wp2_with fail
    refine (specGetFix S2 ((q : Int) + 12) 4 _ hSm (by omega)).mono ?_
    rw [G3.out]
    rintro e w12 ⟨rfl, b12⟩
    have X12 := Lib.hid (keeps_blockF X11.out b12)
    have R12 := Lib.hid (R11.out.below b12)
    have B12 := Lib.hid (B11.out.trans (b12.mono B11.out.size))
    clear b12
    have i1 : (0 : Int) ≤ (a : Int) := by omega
    have i2 : (a : Int) ≤ (p : Int) := by omega
    have i3 : (p : Int) ≤ (S2.size : Int) := by omega
    have i4 : (0 : Int) ≤ (p : Int) := by omega
    have i5 : (p : Int) ≤ (q : Int) := by omega
    have i6 : (q : Int) ≤ (S2.size : Int) := by omega
    go_wp2_with fail
    try rw [HX.out]
    refine (implUnwrap X I 0 hXs HUX.out _).mono ?_
    rintro e w13 ⟨rfl, b13⟩
    have X13 := Lib.hid (keeps_blockF X12.out b13)
    have R13 := Lib.hid (R12.out.below b13)
    have B13 := Lib.hid (B12.out.trans (b13.mono B12.out.size))
    clear b13
    go_wp2_with fail
    try rw [HY.out]
    refine (implUnwrap Y A 0 hYs HUY.out _).mono ?_
    rintro e w14 ⟨rfl, b14⟩
    have X14 := Lib.hid (keeps_blockF X13.out b14)
    have R14 := Lib.hid (R13.out.below b14)
    have B14 := Lib.hid (B13.out.trans (b14.mono B13.out.size))
    clear b14
    obtain ⟨w15, hw15⟩ : ∃ W, w14 = W := ⟨_, rfl⟩
    rw [hw15] at X14 R14 B14 ⊢
    clear hw15
    go_wp2_with fail
    go_loopw [15] (fun ii wr => ∃ i : Nat, i ≤ n ∧ ii = .int .i64 i ∧ Hid (Below w15.heap.size w15 wr)) (fun ii _ => n - (intOf ii).toNat)
    case atStart => exact ⟨0, Nat.zero_le _, rfl, Below.refl _ _⟩
    case round =>
      obtain ⟨i, hi, rfl, HB⟩ := hrel
      by_cases hlt : i < n
      · obtain ⟨⟨R, C, T, G, V⟩, hy⟩ : ∃ y, xs[i]? = some y := ⟨_, List.getElem?_eq_getElem (by rw [HL.out]; exact hlt)⟩
        obtain ⟨g, hag, k5⟩ := R14.out.2.2 i _ hy
        subst hag
        have C5 := Lib.hid (k5.below HB.out)
        obtain ⟨hnr, hnc, _⟩ := keyOk_parts (cel_keyOk (cells_ok HOK.out hy))
        have hRs : R.size ≤ 16 := by have h1 : R.data.toList.length ≤ 16 := (name_parts hnr).2.2; have h2 : R.data.toList.length = R.size := (by simp); omega
        have hCs : C.size ≤ 16 := by have h1 : C.data.toList.length ≤ 16 := (name_parts hnc).2.2; have h2 : C.data.toList.length = C.size := (by simp); omega
        have HK := Lib.hid (show mayHave A.data.toList ((R ++ ⟨#[0]⟩) ++ C).data.toList = true by
          rw [HAD.out]
          exact has_keys (by rw [List.length_map, HL.out]; omega) (List.mem_map.2 ⟨_, List.mem_of_getElem? hy, (name_key ⟨R, C, T, G, V⟩).symm⟩))
        have j1 : (i : Int) < (n : Int) := by omega
        have j0 : (0 : Int) ≤ (i : Int) := by omega
        have hkm : ((R ++ ⟨#[0]⟩) ++ C).size ≤ maxLen := by
          have h1 : (R ++ ⟨#[0]⟩).size = R.size + 1 := ByteArray.size_append
          rw [ByteArray.size_append, h1]
          unfold maxLen
          omega
        have q1 : ¬ 9223372036854775807 < R.size + 1 := by omega
        have q2 : ¬ 9223372036854775807 < R.size + 1 + C.size := by omega
        clear hy k5 hnr hnc
        go_wp2_with fail
        refine wp_region_held_drew (S := fun W => Cel5 W g i ⟨R, C, T, G, V⟩) (by kernel_rfl) C5.out (fun hHeld => ?_)
        refine takeS_at (i := 0) (d := some 106) (v := ?_) rfl rfl (by kernel_rfl) (by kernel_rfl) (by kernel_rfl) (fun _ _ _ h => h) (by rfl) ?hy hHeld ?_
        case hy => (intro w' hS; clear hS; go_simp <;> with_reducible rfl)
        simp only [Act.put, List.setIfInBounds_toArray, List.set_cons_zero, List.set_cons_succ]
        refine takeS_at (i := 1) (d := some 107) (v := ?_) rfl rfl (by kernel_rfl) (by kernel_rfl) (by kernel_rfl) (fun _ _ _ h => h) (by rfl) ?hy hHeld ?_
        case hy => (intro w' hS; clear hS; go_simp <;> with_reducible rfl)
        simp only [Act.put, List.setIfInBounds_toArray, List.set_cons_zero, List.set_cons_succ]
        refine takeS_at (i := 2) (d := some 108) (v := ?_) rfl rfl (by kernel_rfl) (by kernel_rfl) (by kernel_rfl) (fun _ _ _ h => h) (by rfl) ?hy hHeld ?_
        case hy => (intro w' hS; clear hS; go_simp <;> with_reducible rfl)
        simp only [Act.put, List.setIfInBounds_toArray, List.set_cons_zero, List.set_cons_succ]
        refine takeS_at (i := 3) (d := some 109) (v := ?_) rfl rfl (by kernel_rfl) (by kernel_rfl) (by kernel_rfl) (fun _ _ _ h => h) (by rfl) ?hy hHeld ?_
        case hy => (intro w' hS; clear hS; go_simp <;> with_reducible rfl)
        simp only [Act.put, List.setIfInBounds_toArray, List.set_cons_zero, List.set_cons_succ]
        refine takeS_at (i := 4) (d := some 110) (v := ?_) rfl rfl (by kernel_rfl) (by kernel_rfl) (by kernel_rfl) (fun _ _ _ h => h) (by rfl) ?hy hHeld ?_
        case hy => (intro w' hS; clear hS; go_simp <;> with_reducible rfl)
        simp only [Act.put, List.setIfInBounds_toArray, List.set_cons_zero, List.set_cons_succ]
        refine takeS_at (i := 5) (d := some 111) (v := ?_) rfl rfl (by kernel_rfl) (by kernel_rfl) (by kernel_rfl) (fun _ _ _ h => h) (by rfl) ?hy hHeld ?_
        case hy => (intro w' hS; unfold Cel5 at hS; obtain ⟨c0, c1, c2, c3, c4⟩ := hS; go_simp <;> with_reducible rfl)
        simp only [Act.put, List.setIfInBounds_toArray, List.set_cons_zero, List.set_cons_succ]
        refine takeS_at (i := 6) (d := some 112) (v := ?_) rfl rfl (by kernel_rfl) (by kernel_rfl) (by kernel_rfl) (fun _ _ _ h => h) (by rfl) ?hy hHeld ?_
        case hy => (intro w' hS; clear hS; go_simp <;> with_reducible rfl)
        simp only [Act.put, List.setIfInBounds_toArray, List.set_cons_zero, List.set_cons_succ]
        refine takeS_at (i := 7) (d := some 113) (v := ?_) rfl rfl (by kernel_rfl) (by kernel_rfl) (by kernel_rfl) (fun _ _ _ h => h) (by rfl) ?hy hHeld ?_
        case hy => (intro w' hS; clear hS; go_simp <;> with_reducible rfl)
        simp only [Act.put, List.setIfInBounds_toArray, List.set_cons_zero, List.set_cons_succ]
        refine takeS_at (i := 8) (d := some 114) (v := ?_) rfl rfl (by kernel_rfl) (by kernel_rfl) (by kernel_rfl) (fun _ _ _ h => h) (by rfl) ?hy hHeld ?_
        case hy => (intro w' hS; clear hS; go_simp <;> with_reducible rfl)
        simp only [Act.put, List.setIfInBounds_toArray, List.set_cons_zero, List.set_cons_succ]
        refine takeS_at (i := 9) (d := some 115) (v := ?_) rfl rfl (by kernel_rfl) (by kernel_rfl) (by kernel_rfl) (fun _ _ _ h => h) (by rfl) ?hy hHeld ?_
        case hy => (intro w' hS; clear hS; go_simp <;> with_reducible rfl)
        simp only [Act.put, List.setIfInBounds_toArray, List.set_cons_zero, List.set_cons_succ]
        refine takeS_at (i := 10) (d := some 116) (v := ?_) rfl rfl (by kernel_rfl) (by kernel_rfl) (by kernel_rfl) (fun _ _ _ h => h) (by rfl) ?hy hHeld ?_
        case hy => (intro w' hS; clear hS; go_simp <;> with_reducible rfl)
        simp only [Act.put, List.setIfInBounds_toArray, List.set_cons_zero, List.set_cons_succ]
        refine takeS_at (i := 11) (d := some 117) (v := ?_) rfl rfl (by kernel_rfl) (by kernel_rfl) (by kernel_rfl) (fun _ _ _ h => h) (by rfl) ?hy hHeld ?_
        case hy => (intro w' hS; unfold Cel5 at hS; obtain ⟨c0, c1, c2, c3, c4⟩ := hS; go_simp <;> with_reducible rfl)
        simp only [Act.put, List.setIfInBounds_toArray, List.set_cons_zero, List.set_cons_succ]
        refine takeS_at (i := 12) (d := some 118) (v := ?_) rfl rfl (by kernel_rfl) (by kernel_rfl) (by kernel_rfl) (fun _ _ _ h => h) (by rfl) ?hy hHeld ?_
        case hy => (intro w' hS; clear hS; go_simp <;> with_reducible rfl)
        simp only [Act.put, List.setIfInBounds_toArray, List.set_cons_zero, List.set_cons_succ]
        refine wpAnyH_ready (rs := [13]) (by kernel_rfl) (by simp) ?_
        refine AllReadyH.cons rfl (fun K hK => ?_) AllReadyH.nil
        go_simp
        refine (implMayHave A _ _ (by omega) hkm).mono ?_
        rw [HK.out]
        rintro e w16 ⟨rfl, b16⟩
        have C16 := Lib.hid ((C5.out.below (below_draws (B := wr.heap.size) 1)).below b16)
        have B16 := Lib.hid ((HB.out.trans (below_draws (B := w15.heap.size) 1)).trans (b16.mono (by have := HB.out.size; simpa using this)))
        clear b16
        go_wp2_with fail
        refine hK.out _ _ C16.out (fun hHeld => ?_)
        clear hK K
        refine takeS_at (i := 14) (d := some 120) (v := ?_) rfl rfl (by kernel_rfl) (by kernel_rfl) (by kernel_rfl) (fun _ _ _ h => h) (by rfl) ?hy hHeld ?_
        case hy => (intro w' hS; clear hS; go_simp <;> with_reducible rfl)
        simp only [Act.put, List.setIfInBounds_toArray, List.set_cons_zero, List.set_cons_succ]
        refine wpAnyH_done (by kernel_rfl) ?_ _
        go_wp2_with fail
        go_roundw
        case rel => exact ⟨i + 1, by omega, by go_num, B16.out⟩
        case measure => simp [intOf]; omega
      · obtain rfl : i = n := by omega
        have h3 : ¬ (i : Int) < (i : Int) := by omega
        have X17 := Lib.hid (keeps_blockF X14.out HB.out)
        have B17 := Lib.hid (B14.out.trans (HB.out.mono B14.out.size))
        have ewp : IntKind.i64.wrap (p : Int) = (p : Int) := IntWalk.i64_in _ (by omega)
        have ewq : IntKind.i64.wrap (q : Int) = (q : Int) := IntWalk.i64_in _ (by omega)
        have ew16 : IntKind.i64.wrap ((q : Int) + 16) = (q : Int) + 16 := IntWalk.i64_in _ (by omega)
        have ew20 : IntKind.i64.wrap ((q : Int) + 20) = (q : Int) + 20 := IntWalk.i64_in _ (by omega)
        have ew24 : IntKind.i64.wrap ((q : Int) + 24) = (q : Int) + 24 := IntWalk.i64_in _ (by omega)
        go_wp2_with fail
        refine wp_region_held_drew (S := fun W => W.heap[ga]? = some (.cells #[.int .i64 E1, .int .i64 Z1, .bool P1] 28 (0, 0))) (by kernel_rfl) X17.out (fun hHeld => ?_)
        refine takeS_at (i := 0) (d := some 121) (v := ?_) rfl rfl (by kernel_rfl) (by kernel_rfl) (by kernel_rfl) (fun _ _ _ h => h) (by rfl) ?hy hHeld ?_
        case hy => (intro w' hS; clear hS; go_simp <;> with_reducible rfl)
        simp only [Act.put, List.setIfInBounds_toArray, List.set_cons_zero, List.set_cons_succ]
        refine takeS_at (i := 1) (d := some 122) (v := ?_) rfl rfl (by kernel_rfl) (by kernel_rfl) (by kernel_rfl) (fun _ _ _ h => h) (by rfl) ?hy hHeld ?_
        case hy => (intro w' hS; clear hS; go_simp <;> with_reducible rfl)
        simp only [Act.put, List.setIfInBounds_toArray, List.set_cons_zero, List.set_cons_succ]
        refine takeS_at (i := 2) (d := some 123) (v := ?_) rfl rfl (by kernel_rfl) (by kernel_rfl) (by kernel_rfl) (fun _ _ _ h => h) (by rfl) ?hy hHeld ?_
        case hy => (intro w' hS; clear hS; go_simp <;> with_reducible rfl)
        simp only [Act.put, List.setIfInBounds_toArray, List.set_cons_zero, List.set_cons_succ]
        refine takeS_at (i := 3) (d := some 124) (v := ?_) rfl rfl (by kernel_rfl) (by kernel_rfl) (by kernel_rfl) (fun _ _ _ h => h) (by rfl) ?hy hHeld ?_
        case hy => (intro w' hS; clear hS; go_simp <;> with_reducible rfl)
        simp only [Act.put, List.setIfInBounds_toArray, List.set_cons_zero, List.set_cons_succ]
        refine takeS_at (i := 4) (d := some 125) (v := .bool true) rfl rfl (by kernel_rfl) (by kernel_rfl) (by kernel_rfl) (fun _ _ _ h => h) (by rfl) ?hy hHeld ?_
        case hy => (intro w' hS; clear hS; go_simp <;> with_reducible rfl)
        simp only [Act.put, List.setIfInBounds_toArray, List.set_cons_zero, List.set_cons_succ]
        refine takeS_at (i := 5) (d := some 126) (v := ?_) rfl rfl (by kernel_rfl) (by kernel_rfl) (by kernel_rfl) (fun _ _ _ h => h) (by rfl) ?hy hHeld ?_
        case hy => (intro w' hS; clear hS; go_simp <;> with_reducible rfl)
        simp only [Act.put, List.setIfInBounds_toArray, List.set_cons_zero, List.set_cons_succ]
        refine takeS_at (i := 6) (d := some 127) (v := ?_) rfl rfl (by kernel_rfl) (by kernel_rfl) (by kernel_rfl) (fun _ _ _ h => h) (by rfl) ?hy hHeld ?_
        case hy => (intro w' hS; clear hS; go_simp <;> with_reducible rfl)
        simp only [Act.put, List.setIfInBounds_toArray, List.set_cons_zero, List.set_cons_succ]
        refine takeS_at (i := 7) (d := some 128) (v := ?_) rfl rfl (by kernel_rfl) (by kernel_rfl) (by kernel_rfl) (fun _ _ _ h => h) (by rfl) ?hy hHeld ?_
        case hy => (intro w' hS; clear hS; go_simp <;> with_reducible rfl)
        simp only [Act.put, List.setIfInBounds_toArray, List.set_cons_zero, List.set_cons_succ]
        refine takeS_at (i := 8) (d := some 129) (v := ?_) rfl rfl (by kernel_rfl) (by kernel_rfl) (by kernel_rfl) (fun _ _ _ h => h) (by rfl) ?hy hHeld ?_
        case hy => (intro w' hS; clear hS; go_simp <;> with_reducible rfl)
        simp only [Act.put, List.setIfInBounds_toArray, List.set_cons_zero, List.set_cons_succ]
        refine takeS_at (i := 9) (d := some 130) (v := ?_) rfl rfl (by kernel_rfl) (by kernel_rfl) (by kernel_rfl) (fun _ _ _ h => h) (by rfl) ?hy hHeld ?_
        case hy => (intro w' hS; clear hS; go_simp <;> with_reducible rfl)
        simp only [Act.put, List.setIfInBounds_toArray, List.set_cons_zero, List.set_cons_succ]
        refine takeS_at (i := 10) (d := some 131) (v := .bool true) rfl rfl (by kernel_rfl) (by kernel_rfl) (by kernel_rfl) (fun _ _ _ h => h) (by rfl) ?hy hHeld ?_
        case hy => (intro w' hS; clear hS; go_simp <;> with_reducible rfl)
        simp only [Act.put, List.setIfInBounds_toArray, List.set_cons_zero, List.set_cons_succ]
        refine takeS_at (i := 11) (d := some 132) (v := .bool true) rfl rfl (by kernel_rfl) (by kernel_rfl) (by kernel_rfl) (fun _ _ _ h => h) (by rfl) ?hy hHeld ?_
        case hy => (intro w' hS; clear hS; go_simp <;> with_reducible rfl)
        simp only [Act.put, List.setIfInBounds_toArray, List.set_cons_zero, List.set_cons_succ]
        refine takeS_at (i := 12) (d := some 133) (v := ?_) rfl rfl (by kernel_rfl) (by kernel_rfl) (by kernel_rfl) (fun _ _ _ h => h) (by rfl) ?hy hHeld ?_
        case hy => (intro w' hS; clear hS; go_simp <;> with_reducible rfl)
        simp only [Act.put, List.setIfInBounds_toArray, List.set_cons_zero, List.set_cons_succ]
        refine takeS_at (i := 13) (d := some 134) (v := ?_) rfl rfl (by kernel_rfl) (by kernel_rfl) (by kernel_rfl) (fun _ _ _ h => h) (by rfl) ?hy hHeld ?_
        case hy => (intro w' hS; clear hS; go_simp <;> with_reducible rfl)
        simp only [Act.put, List.setIfInBounds_toArray, List.set_cons_zero, List.set_cons_succ]
        refine takeS_at (i := 14) (d := some 135) (v := .bool true) rfl rfl (by kernel_rfl) (by kernel_rfl) (by kernel_rfl) (fun _ _ _ h => h) (by rfl) ?hy hHeld ?_
        case hy => (intro w' hS; clear hS; go_simp <;> with_reducible rfl)
        simp only [Act.put, List.setIfInBounds_toArray, List.set_cons_zero, List.set_cons_succ]
        refine takeS_at (i := 15) (d := some 136) (v := .bool true) rfl rfl (by kernel_rfl) (by kernel_rfl) (by kernel_rfl) (fun _ _ _ h => h) (by rfl) ?hy hHeld ?_
        case hy => (intro w' hS; clear hS; go_simp <;> with_reducible rfl)
        simp only [Act.put, List.setIfInBounds_toArray, List.set_cons_zero, List.set_cons_succ]
        refine takeS_at (i := 16) (d := some 137) (v := ?_) rfl rfl (by kernel_rfl) (by kernel_rfl) (by kernel_rfl) (fun _ _ _ h => h) (by rfl) ?hy hHeld ?_
        case hy => (intro w' hS; clear hS; go_simp <;> with_reducible rfl)
        simp only [Act.put, List.setIfInBounds_toArray, List.set_cons_zero, List.set_cons_succ]
        refine takeS_at (i := 17) (d := some 138) (v := ?_) rfl rfl (by kernel_rfl) (by kernel_rfl) (by kernel_rfl) (fun _ _ _ h => h) (by rfl) ?hy hHeld ?_
        case hy => (intro w' hS; clear hS; go_simp <;> with_reducible rfl)
        simp only [Act.put, List.setIfInBounds_toArray, List.set_cons_zero, List.set_cons_succ]
        refine takeS_at (i := 18) (d := some 139) (v := .bool true) rfl rfl (by kernel_rfl) (by kernel_rfl) (by kernel_rfl) (fun _ _ _ h => h) (by rfl) ?hy hHeld ?_
        case hy => (intro w' hS; clear hS; go_simp <;> with_reducible rfl)
        simp only [Act.put, List.setIfInBounds_toArray, List.set_cons_zero, List.set_cons_succ]
        refine takeS_at (i := 19) (d := some 140) (v := .bool true) rfl rfl (by kernel_rfl) (by kernel_rfl) (by kernel_rfl) (fun _ _ _ h => h) (by rfl) ?hy hHeld ?_
        case hy => (intro w' hS; clear hS; go_simp <;> with_reducible rfl)
        simp only [Act.put, List.setIfInBounds_toArray, List.set_cons_zero, List.set_cons_succ]
        refine takeS_at (i := 20) (d := some 141) (v := ?_) rfl rfl (by kernel_rfl) (by kernel_rfl) (by kernel_rfl) (fun _ _ _ h => h) (by rfl) ?hy hHeld ?_
        case hy => (intro w' hS; clear hS; go_simp <;> with_reducible rfl)
        simp only [Act.put, List.setIfInBounds_toArray, List.set_cons_zero, List.set_cons_succ]
        refine takeS_at (i := 21) (d := some 142) (v := ?_) rfl rfl (by kernel_rfl) (by kernel_rfl) (by kernel_rfl) (fun _ _ _ h => h) (by rfl) ?hy hHeld ?_
        case hy => (intro w' hS; clear hS; go_simp <;> with_reducible rfl)
        simp only [Act.put, List.setIfInBounds_toArray, List.set_cons_zero, List.set_cons_succ]
        refine takeS_at (i := 22) (d := some 143) (v := ?_) rfl rfl (by kernel_rfl) (by kernel_rfl) (by kernel_rfl) (fun _ _ _ h => h) (by rfl) ?hy hHeld ?_
        case hy => (intro w' hS; clear hS; go_simp <;> with_reducible rfl)
        simp only [Act.put, List.setIfInBounds_toArray, List.set_cons_zero, List.set_cons_succ]
        refine takeS_at (i := 23) (d := some 144) (v := ?_) rfl rfl (by kernel_rfl) (by kernel_rfl) (by kernel_rfl) (fun _ _ _ h => h) (by rfl) ?hy hHeld ?_
        case hy => (intro w' hS; clear hS; go_simp <;> with_reducible rfl)
        simp only [Act.put, List.setIfInBounds_toArray, List.set_cons_zero, List.set_cons_succ]
        refine takeS_at (i := 25) (d := some 146) (v := ?_) rfl rfl (by kernel_rfl) (by kernel_rfl) (by kernel_rfl) (fun _ _ _ h => h) (by rfl) ?hy hHeld ?_
        case hy => (intro w' hS; clear hS; go_simp <;> with_reducible rfl)
        simp only [Act.put, List.setIfInBounds_toArray, List.set_cons_zero, List.set_cons_succ]
        refine takeS_at (i := 26) (d := some 147) (v := ?_) rfl rfl (by kernel_rfl) (by kernel_rfl) (by kernel_rfl) (fun _ _ _ h => h) (by rfl) ?hy hHeld ?_
        case hy => (intro w' hS; clear hS; go_simp <;> with_reducible rfl)
        simp only [Act.put, List.setIfInBounds_toArray, List.set_cons_zero, List.set_cons_succ]
        refine wpAnyH_ready (rs := [24]) (by kernel_rfl) (by simp) ?_
        refine AllReadyH.cons rfl (fun K hK => ?_) AllReadyH.nil
        go_simp
        refine (implGetFix S2 ((q : Int) + 16) 4 _ hSm).mono ?_
        rw [G4.out]
        rintro e w18 ⟨rfl, b18⟩
        have X18 := Lib.hid (keeps_blockF (keeps_blockF X17.out (below_draws 1)) b18)
        have B18 := Lib.hid ((B17.out.trans (below_draws (B := w.heap.size) 1)).trans (b18.mono (by have := B17.out.size; simpa using this)))
        clear b18
        go_wp2_with fail
        refine hK.out _ _ X18.out (fun hHeld => ?_)
        clear hK K
        refine takeS_at (i := 27) (d := some 148) (v := .bool true) rfl rfl (by kernel_rfl) (by kernel_rfl) (by kernel_rfl) (fun _ _ _ h => h) (by rfl) ?hy hHeld ?_
        case hy => (intro w' hS; clear hS; go_simp <;> with_reducible rfl)
        simp only [Act.put, List.setIfInBounds_toArray, List.set_cons_zero, List.set_cons_succ]
        refine takeS_at (i := 28) (d := some 149) (v := .bool true) rfl rfl (by kernel_rfl) (by kernel_rfl) (by kernel_rfl) (fun _ _ _ h => h) (by rfl) ?hy hHeld ?_
        case hy => (intro w' hS; clear hS; go_simp <;> with_reducible rfl)
        simp only [Act.put, List.setIfInBounds_toArray, List.set_cons_zero, List.set_cons_succ]
        refine takeS_at (i := 29) (d := some 150) (v := ?_) rfl rfl (by kernel_rfl) (by kernel_rfl) (by kernel_rfl) (fun _ _ _ h => h) (by rfl) ?hy hHeld ?_
        case hy => (intro w' hS; clear hS; go_simp <;> with_reducible rfl)
        simp only [Act.put, List.setIfInBounds_toArray, List.set_cons_zero, List.set_cons_succ]
        refine takeS_at (i := 30) (d := some 151) (v := ?_) rfl rfl (by kernel_rfl) (by kernel_rfl) (by kernel_rfl) (fun _ _ _ h => h) (by rfl) ?hy hHeld ?_
        case hy => (intro w' hS; clear hS; go_simp <;> with_reducible rfl)
        simp only [Act.put, List.setIfInBounds_toArray, List.set_cons_zero, List.set_cons_succ]
        refine takeS_at (i := 31) (d := some 152) (v := ?_) rfl rfl (by kernel_rfl) (by kernel_rfl) (by kernel_rfl) (fun _ _ _ h => h) (by rfl) ?hy hHeld ?_
        case hy => (intro w' hS; clear hS; go_simp <;> with_reducible rfl)
        simp only [Act.put, List.setIfInBounds_toArray, List.set_cons_zero, List.set_cons_succ]
        refine takeS_at (i := 32) (d := some 153) (v := ?_) rfl rfl (by kernel_rfl) (by kernel_rfl) (by kernel_rfl) (fun _ _ _ h => h) (by rfl) ?hy hHeld ?_
        case hy => (intro w' hS; clear hS; go_simp <;> with_reducible rfl)
        simp only [Act.put, List.setIfInBounds_toArray, List.set_cons_zero, List.set_cons_succ]
        refine takeS_at (i := 34) (d := some 155) (v := ?_) rfl rfl (by kernel_rfl) (by kernel_rfl) (by kernel_rfl) (fun _ _ _ h => h) (by rfl) ?hy hHeld ?_
        case hy => (intro w' hS; clear hS; go_simp <;> with_reducible rfl)
        simp only [Act.put, List.setIfInBounds_toArray, List.set_cons_zero, List.set_cons_succ]
        refine takeS_at (i := 35) (d := some 156) (v := ?_) rfl rfl (by kernel_rfl) (by kernel_rfl) (by kernel_rfl) (fun _ _ _ h => h) (by rfl) ?hy hHeld ?_
        case hy => (intro w' hS; obtain ⟨c0, c1, c2⟩ := confF_cells hS; clear hS; go_simp <;> with_reducible rfl)
        simp only [Act.put, List.setIfInBounds_toArray, List.set_cons_zero, List.set_cons_succ]
        refine wpAnyH_ready (rs := [33]) (by kernel_rfl) (by simp) ?_
        refine AllReadyH.cons rfl (fun K hK => ?_) AllReadyH.nil
        go_simp
        refine (implGetFix S2 ((q : Int) + 20) 4 _ hSm).mono ?_
        rw [G5.out]
        rintro e w19 ⟨rfl, b19⟩
        have X19 := Lib.hid (keeps_blockF X18.out b19)
        have B19 := Lib.hid (B18.out.trans (b19.mono (by have := B18.out.size; simpa using this)))
        clear b19
        go_wp2_with fail
        refine hK.out _ _ X19.out (fun hHeld => ?_)
        clear hK K
        refine takeS_at (i := 36) (d := some 157) (v := .bool true) rfl rfl (by kernel_rfl) (by kernel_rfl) (by kernel_rfl) (fun _ _ _ h => h) (by rfl) ?hy hHeld ?_
        case hy => (intro w' hS; clear hS; go_simp <;> with_reducible rfl)
        simp only [Act.put, List.setIfInBounds_toArray, List.set_cons_zero, List.set_cons_succ]
        refine takeS_at (i := 37) (d := some 158) (v := .bool true) rfl rfl (by kernel_rfl) (by kernel_rfl) (by kernel_rfl) (fun _ _ _ h => h) (by rfl) ?hy hHeld ?_
        case hy => (intro w' hS; clear hS; go_simp <;> with_reducible rfl)
        simp only [Act.put, List.setIfInBounds_toArray, List.set_cons_zero, List.set_cons_succ]
        refine takeS_at (i := 38) (d := some 159) (v := ?_) rfl rfl (by kernel_rfl) (by kernel_rfl) (by kernel_rfl) (fun _ _ _ h => h) (by rfl) ?hy hHeld ?_
        case hy => (intro w' hS; clear hS; go_simp <;> with_reducible rfl)
        simp only [Act.put, List.setIfInBounds_toArray, List.set_cons_zero, List.set_cons_succ]
        refine takeS_at (i := 39) (d := some 160) (v := ?_) rfl rfl (by kernel_rfl) (by kernel_rfl) (by kernel_rfl) (fun _ _ _ h => h) (by rfl) ?hy hHeld ?_
        case hy => (intro w' hS; clear hS; go_simp <;> with_reducible rfl)
        simp only [Act.put, List.setIfInBounds_toArray, List.set_cons_zero, List.set_cons_succ]
        refine takeS_at (i := 40) (d := some 161) (v := ?_) rfl rfl (by kernel_rfl) (by kernel_rfl) (by kernel_rfl) (fun _ _ _ h => h) (by rfl) ?hy hHeld ?_
        case hy => (intro w' hS; clear hS; go_simp <;> with_reducible rfl)
        simp only [Act.put, List.setIfInBounds_toArray, List.set_cons_zero, List.set_cons_succ]
        refine takeS_at (i := 41) (d := some 162) (v := ?_) rfl rfl (by kernel_rfl) (by kernel_rfl) (by kernel_rfl) (fun _ _ _ h => h) (by rfl) ?hy hHeld ?_
        case hy => (intro w' hS; clear hS; go_simp <;> with_reducible rfl)
        simp only [Act.put, List.setIfInBounds_toArray, List.set_cons_zero, List.set_cons_succ]
        refine takeS_at (i := 43) (d := some 164) (v := ?_) rfl rfl (by kernel_rfl) (by kernel_rfl) (by kernel_rfl) (fun _ _ _ h => h) (by rfl) ?hy hHeld ?_
        case hy => (intro w' hS; clear hS; go_simp <;> with_reducible rfl)
        simp only [Act.put, List.setIfInBounds_toArray, List.set_cons_zero, List.set_cons_succ]
        refine takeS_at (i := 44) (d := some 165) (v := ?_) rfl rfl (by kernel_rfl) (by kernel_rfl) (by kernel_rfl) (fun _ _ _ h => h) (by rfl) ?hy hHeld ?_
        case hy => (intro w' hS; obtain ⟨c0, c1, c2⟩ := confF_cells hS; clear hS; go_simp <;> with_reducible rfl)
        simp only [Act.put, List.setIfInBounds_toArray, List.set_cons_zero, List.set_cons_succ]
        refine wpAnyH_ready (rs := [42]) (by kernel_rfl) (by simp) ?_
        refine AllReadyH.cons rfl (fun K hK => ?_) AllReadyH.nil
        go_simp
        refine (implGetFix S2 ((q : Int) + 24) 4 _ hSm).mono ?_
        rw [G6.out]
        rintro e w20 ⟨rfl, b20⟩
        have X20 := Lib.hid (keeps_blockF X19.out b20)
        have B20 := Lib.hid (B19.out.trans (b20.mono (by have := B19.out.size; simpa using this)))
        clear b20
        go_wp2_with fail
        refine hK.out _ _ X20.out (fun hHeld => ?_)
        clear hK K
        refine takeS_at (i := 45) (d := some 166) (v := .bool true) rfl rfl (by kernel_rfl) (by kernel_rfl) (by kernel_rfl) (fun _ _ _ h => h) (by rfl) ?hy hHeld ?_
        case hy => (intro w' hS; clear hS; go_simp <;> with_reducible rfl)
        simp only [Act.put, List.setIfInBounds_toArray, List.set_cons_zero, List.set_cons_succ]
        refine takeS_at (i := 46) (d := some 167) (v := .bool true) rfl rfl (by kernel_rfl) (by kernel_rfl) (by kernel_rfl) (fun _ _ _ h => h) (by rfl) ?hy hHeld ?_
        case hy => (intro w' hS; clear hS; go_simp <;> with_reducible rfl)
        simp only [Act.put, List.setIfInBounds_toArray, List.set_cons_zero, List.set_cons_succ]
        refine takeS_at (i := 47) (d := some 2) (v := .bool true) rfl rfl (by kernel_rfl) (by kernel_rfl) (by kernel_rfl) (fun _ _ _ h => h) (by rfl) ?hy hHeld ?_
        case hy => (intro w' hS; clear hS; go_simp <;> with_reducible rfl)
        simp only [Act.put, List.setIfInBounds_toArray, List.set_cons_zero, List.set_cons_succ]
        refine wpAnyH_done (by kernel_rfl) ?_ _
        go_wp2_with fail
        go_ret
        exact ⟨rfl, B20.out⟩
  · go_enter Try.func3, Try.ntmps3
    go_wp2_with fail
    refine (big_yes a0 len0 cap0 _ (by omega)).mono ?_
    rintro e w1 ⟨rfl, rfl⟩
    go_wp2
    go_ret
    exact ⟨rfl, Below.refl _ _⟩
end Go.Proofs.Ytkomnnijnggbpaa
