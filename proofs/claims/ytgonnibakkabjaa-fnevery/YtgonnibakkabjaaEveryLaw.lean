/- The walk of the law FnEvery: it makes no difference for what is found how often a block starts anew. -/
import Derived.Test.YtgonnibakkabjaaCellsN
import Derived.Test.YtgonnibakkabjaaSeekA
import Derived.Test.YtgonnibakkabjaaPutBlockS
import Derived.Test.YtgonnibakkabjaaBlockLen
import Derived.Test.YtgonnibakkabjaaLawA
namespace Go.Proofs.Ytgonnibakkabjaa
open Go.RowKit
set_option linter.unusedVariables false

theorem entry_least {e i : Nat} {last last' : List UInt8} {x : Cel} (h : cellOk x = true) : (entry e i last x).length ≤ (entry 1 i last' x).length := by
  have hk := key_small h
  have hz := size_small h
  have hs := share_le e i last (celKey x)
  have h0 : shareOf 1 i last' (celKey x) = 0 := by unfold shareOf; rw [if_pos (Nat.mod_one i)]
  unfold entry
  rw [h0]
  simp only [List.length_append, List.length_drop]
  rw [var_one (by omega), var_one (by omega), var_one (by omega), var_one (by omega), var_one (by omega)]
  omega
theorem entries_least (e : Nat) : ∀ (xs : List Cel) (i : Nat) (last last' : List UInt8), (∀ x ∈ xs, cellOk x = true) → (entries e i last xs).length ≤ (entries 1 i last' xs).length
  | [], _, _, _, _ => by simp [entries]
  | x :: r, i, last, last', h => by
    have h1 := entry_least (e := e) (i := i) (last := last) (last' := last') (h x (by simp))
    have h2 := entries_least e r (i + 1) (celKey x) (celKey x) (fun y hy => h y (by simp [hy]))
    rw [entries, entries, List.length_append, List.length_append]
    omega
theorem block_len' (xs : List Cel) (e : Nat) : (block xs e).length = (entries e 0 [] xs).length + (startsB e 0 0 [] xs).length + 2 := by
  have : block xs e = (entries e 0 [] xs ++ startsB e 0 0 [] xs) ++ fixB ((startsB e 0 0 [] xs).length / 2) 2 := by unfold block; simp
  rw [this, List.length_append, List.length_append, fix_length]
theorem block_least {xs : List Cel} {e : Nat} (h : cellsOk xs = true) : (block xs e).length ≤ (block xs 1).length := by
  have h1 := entries_least e xs 0 [] [] (all_ok h)
  have h2 := (starts_len e xs 0 0 []).2
  have h3 := starts_many 1 (by omega) (by omega) xs 0 0 []
  simp only [Nat.add_sub_cancel, Nat.div_one, Nat.zero_add] at h3
  rw [block_len', block_len']
  omega

set_option maxHeartbeats 4000000 in
set_option maxRecDepth 100000 in
theorem fnEvery_walk (a0 : Option Addr) (len0 cap0 : Nat) (z0 : List Int) (w : World) (w0 : IsRow .u8 w a0 len0 cap0 z0) :
    Calls Try.prog 6 #[.slice a0 len0 cap0] w fun e w' => e = .returned (.bool true) ∧ Below w.heap.size w w' := by
  have HR := Lib.hid (bytes_of_row w0 w.heap.size (Nat.le_refl _))
  clear w0
  by_cases hbig : len0 ≤ 1048576
  · go_enter Try.func6, Try.ntmps6
    go_wp2_with fail
    refine (big_no a0 len0 cap0 _ hbig).mono ?_
    rintro e w1 ⟨rfl, rfl⟩
    go_wp2_with fail
    refine (at_some a0 len0 cap0 z0 0 _ _ HR.out hbig (by omega)).mono ?_
    rintro e w2 ⟨x0, hx0, rfl, rfl⟩
    obtain ⟨N, hN⟩ : ∃ N : Nat, x0 % 12 = N := ⟨_, rfl⟩
    have hN1 : N ≤ 11 := by omega
    have hNi : (x0 : Int) % 12 = (N : Int) := by omega
    clear hN
    go_wp2_with fail
    refine (cells_at_of 4 N (by omega) (by omega) a0 len0 cap0 z0 _ HR.out hbig).mono ?_
    rintro e w1 ⟨v, xs, rfl, o1, hok, hxl, b1⟩
    obtain ⟨ad, cp, rfl⟩ := own_form o1
    obtain ⟨n, hn⟩ : ∃ n, xs.length = n := ⟨_, rfl⟩
    have HL := Lib.hid hn
    rw [hn] at hxl ⊢
    have R1 := Lib.hid (show CelRow w1 ad n cp xs by have := o1.row; rwa [hn] at this)
    have B1 := Lib.hid b1
    have HOK := Lib.hid hok
    have HF := Lib.hid (fit_ok hok)
    have HR1 := Lib.hid (below_bytes HR.out b1)
    clear o1 hok b1 hn hNi
    go_wp2_with fail
    refine (at_some a0 len0 cap0 z0 1 _ _ HR1.out hbig (by omega)).mono ?_
    rintro e w2 ⟨x1, hx1, rfl, rfl⟩
    go_wp2_with fail
    refine (at_some a0 len0 cap0 z0 2 _ _ HR1.out hbig (by omega)).mono ?_
    rintro e w2 ⟨x2, hx2, rfl, rfl⟩
    obtain ⟨p, hp⟩ : ∃ p : Nat, 1 + x1 % 16 = p := ⟨_, rfl⟩
    have hp0 : 1 ≤ p := by omega
    have hp1 : p ≤ 16 := by omega
    have hpi : (1 : Int) + (x1 : Int) % 16 = (p : Int) := by omega
    obtain ⟨q, hq⟩ : ∃ q : Nat, 1 + x2 % 16 = q := ⟨_, rfl⟩
    have hq0 : 1 ≤ q := by omega
    have hq1 : q ≤ 16 := by omega
    have hqi : (1 : Int) + (x2 : Int) % 16 = (q : Int) := by omega
    clear hp hq
    obtain ⟨A, hA, hAl⟩ := text_of (putBlock xs p)
    have HAT := Lib.hid (as_text hA)
    have HA := Lib.hid hA
    obtain ⟨B, hB, hBl⟩ := text_of (putBlock xs q)
    have HBT := Lib.hid (as_text hB)
    have HB := Lib.hid hB
    obtain ⟨C1, hC1, hC1l⟩ := text_of (putBlock xs 1)
    have HCT := Lib.hid (as_text hC1)
    have hA20 : A.size ≤ 1048576 := by have := put_most xs p; rw [HL.out] at this; omega
    have hB20 : B.size ≤ 1048576 := by have := put_most xs q; rw [HL.out] at this; omega
    have hC20 : C1.size ≤ 1048576 := by have := put_most xs 1; rw [HL.out] at this; omega
    have hyA := putBlock_yes (xs := xs) (e := p) (by rw [HL.out]; omega) HOK.out hp0 hp1
    have hyB := putBlock_yes (xs := xs) (e := q) (by rw [HL.out]; omega) HOK.out hq0 hq1
    have hyC : putBlock xs 1 = block xs 1 := putBlock_yes (xs := xs) (e := 1) (by rw [HL.out]; omega) HOK.out (by omega) (by omega)
    have hBC : B.size ≤ C1.size := by rw [hBl, hC1l, hyB, hyC]; exact block_least HOK.out
    have hBCi : (B.size : Int) ≤ (C1.size : Int) := by omega
    have HGA := Lib.hid (show Got A.data.toList p xs true from .inl ⟨rfl, HA.out.symm, by rw [HA.out, hyA]; exact block_ne _ _⟩)
    have HGB := Lib.hid (show Got B.data.toList q xs true from .inl ⟨rfl, HB.out.symm, by rw [HB.out, hyB]; exact block_ne _ _⟩)
    have hsame := same_beq A
    clear hA hB hC1 hAl hBl hC1l hyA hyB hyC hBC
    go_wp2_with fail
    refine (implPutBlock ad n cp xs p (by omega) HF.out _ R1.out).mono ?_
    rintro e w2 ⟨rfl, b2⟩
    rw [HAT.out]
    have R2 := Lib.hid (R1.out.below b2)
    have B2 := Lib.hid (B1.out.trans (b2.mono B1.out.size))
    clear b2
    go_wp2_with fail
    refine (implPutBlock ad n cp xs q (by omega) HF.out _ R2.out).mono ?_
    rintro e w3 ⟨rfl, b3⟩
    rw [HBT.out]
    have R3 := Lib.hid (R2.out.below b3)
    have B3 := Lib.hid (B2.out.trans (b3.mono B2.out.size))
    have HR3 := Lib.hid (below_bytes HR.out B3.out)
    clear b3
    go_wp2_with fail
    refine (aCell_any 3 (by omega) a0 len0 cap0 z0 _ HR3.out hbig).mono ?_
    rintro e w4 ⟨R, C, t, G, V, hok, hR40, hC40, hV40, rfl, b4⟩
    have X4 := Lib.hid (one5_new w4 (.string R) (.string C) (.int .i64 t) (.bool G) (.string V) 38)
    have K4 := Lib.hid (b4.trans ((one_below w4 (.cells #[.string R, .string C, .int .i64 t, .bool G, .string V] 38)).mono b4.size))
    have R4 := Lib.hid (R3.out.below K4.out)
    have B4 := Lib.hid (B3.out.trans (K4.out.mono B3.out.size))
    obtain ⟨r, hr⟩ : ∃ r, newest xs R.data.toList C.data.toList t = r := ⟨_, rfl⟩
    have HN := Lib.hid hr
    have x5 := X4.out
    unfold One5 at x5
    obtain ⟨c0, c1, c2, c3, c4⟩ := x5
    clear b4 K4 hr hok
    go_wp2_with fail
    obtain ⟨w5, hw5⟩ : ∃ W, w4.alloc (.cells #[.string R, .string C, .int .i64 t, .bool G, .string V] 38) = W := ⟨_, rfl⟩
    rw [hw5] at X4 R4 B4 c0 c1 c2 c3 c4 ⊢
    clear hw5
    obtain ⟨Q, hQ⟩ : ∃ A, w4.heap.size = A := ⟨_, rfl⟩
    rw [hQ] at X4 c0 c1 c2 c3 c4 ⊢
    clear hQ
    refine (implSeek A p R C t hA20 xs true HGA.out _).mono ?_
    rw [HN.out]
    intro e w6 h6
    obtain ⟨Rx, Cx, Tx, Gx, Vx, hrr, rfl, b6⟩ := h6.form
    have HRR := Lib.hid hrr
    obtain ⟨ok, hok⟩ : ∃ b, r.isSome = b := ⟨_, rfl⟩
    rw [hok]
    have HO := Lib.hid hok
    have Y6 := Lib.hid (one5_new w6 (.string Rx) (.string Cx) (.int .i64 Tx) (.bool Gx) (.string Vx) 38)
    have K6 := Lib.hid (b6.trans ((one_below w6 (.cells #[.string Rx, .string Cx, .int .i64 Tx, .bool Gx, .string Vx] 38)).mono b6.size))
    have X6 := Lib.hid (X4.out.below K6.out)
    have R6 := Lib.hid (R4.out.below K6.out)
    have B6 := Lib.hid (B4.out.trans (K6.out.mono B4.out.size))
    clear h6 hrr hok b6 K6 c0 c1 c2 c3 c4
    have x5 := X6.out
    unfold One5 at x5
    obtain ⟨c0, c1, c2, c3, c4⟩ := x5
    go_wp2_with fail
    obtain ⟨w7, hw7⟩ : ∃ W, w6.alloc (.cells #[.string Rx, .string Cx, .int .i64 Tx, .bool Gx, .string Vx] 38) = W := ⟨_, rfl⟩
    rw [hw7] at Y6 R6 B6 ⊢
    clear hw7 c0 c1 c2 c3 c4 X6 X4
    obtain ⟨Z, hZ⟩ : ∃ A, w6.heap.size = A := ⟨_, rfl⟩
    rw [hZ] at Y6 ⊢
    clear hZ
    refine (implSeek B q R C t hB20 xs true HGB.out _).mono ?_
    rw [HN.out]
    intro e w8 h8
    obtain ⟨R', C', T', G', V', hrr', rfl, b8⟩ := h8.form
    rw [HRR.out] at hrr'
    cases hrr'
    rw [HO.out]
    have Z8 := Lib.hid (one5_new w8 (.string Rx) (.string Cx) (.int .i64 Tx) (.bool Gx) (.string Vx) 38)
    have K8 := Lib.hid (b8.trans ((one_below w8 (.cells #[.string Rx, .string Cx, .int .i64 Tx, .bool Gx, .string Vx] 38)).mono b8.size))
    have Y8 := Lib.hid (Y6.out.below K8.out)
    have R8 := Lib.hid (R6.out.below K8.out)
    have B8 := Lib.hid (B6.out.trans (K8.out.mono B6.out.size))
    clear h8 b8 K8
    go_wp2_with fail
    obtain ⟨w9, hw9⟩ : ∃ W, w8.alloc (.cells #[.string Rx, .string Cx, .int .i64 Tx, .bool Gx, .string Vx] 38) = W := ⟨_, rfl⟩
    rw [hw9] at Z8 Y8 R8 B8 ⊢
    clear hw9
    obtain ⟨U, hU⟩ : ∃ A, w8.heap.size = A := ⟨_, rfl⟩
    rw [hU] at Z8 ⊢
    clear hU
    refine (specPutBlock ad n cp xs p (by omega) HF.out _ R8.out).mono ?_
    rintro e w10 ⟨rfl, b10⟩
    rw [HAT.out]
    have Y10 := Lib.hid (Y8.out.below b10)
    have Z10 := Lib.hid (Z8.out.below b10)
    have R10 := Lib.hid (R8.out.below b10)
    have B10 := Lib.hid (B8.out.trans (b10.mono B8.out.size))
    clear b10
    have Y10o := Y10.out
    unfold One5 at Y10o
    obtain ⟨e0, e1, e2, e3, e4⟩ := Y10o
    have Z10o := Z10.out
    unfold One5 at Z10o
    obtain ⟨f0, f1, f2, f3, f4⟩ := Z10o
    have nok : (ok == ok) = true := by simp
    go_wp2_with fail
    refine (implPutBlock ad n cp xs 1 (by omega) HF.out _ R10.out).mono ?_
    rintro e w11 ⟨rfl, b11⟩
    rw [HCT.out]
    have B11 := Lib.hid (B10.out.trans (b11.mono B10.out.size))
    clear b11
    go_wp2
    go_ret
    exact ⟨ret_bool (by simp), B11.out⟩
  · go_enter Try.func6, Try.ntmps6
    go_wp2_with fail
    refine (big_yes a0 len0 cap0 _ hbig).mono ?_
    rintro e w1 ⟨rfl, rfl⟩
    go_wp2
    go_ret
    exact ⟨rfl, Below.refl _ _⟩
end Go.Proofs.Ytgonnibakkabjaa
