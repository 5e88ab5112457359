/- The walk of the law FnTableGet: what is got from a table is what is got from its cells. -/
import Derived.Test.YtkomnnijnggbpaaGreatDoorScanGetI
import Derived.Test.YtkomnnijnggbpaaGreatDoorDrawTabs
import Derived.Test.YtkomnnijnggbpaaGreatDoorTabMore
import Derived.Test.YtkomnnijnggbpaaGreatDoorBig
namespace Go.Proofs.YtkomnnijnggbpaaGreatDoor
open Go.RowKit
set_option linter.unusedVariables false

theorem got_yes {l : List UInt8} {xs : List Cel} {c : Conf} {k : Nat} (hT : Tab l xs c k) {r q : List UInt8} {t : Int} {x : Cel} (h : newest xs r q t = some x) : tabMay xs k r q = true := by
 obtain ⟨h1, h2⟩ := got_may hT h
 unfold tabMay
 rw [h1, h2]
 rfl
set_option maxHeartbeats 4000000 in
set_option maxRecDepth 100000 in
theorem fnTableGet_walk (a0 : Option Addr) (len0 cap0 : Nat) (z0 : List Int) (w : World) (w0 : IsRow .u8 w a0 len0 cap0 z0) (hL : ErrLaid w) :
   Calls Tryz.prog 6 #[.slice a0 len0 cap0] w fun e w' => e = .returned (.bool true) ∧ Below w.heap.size w w' := by
 have HR := Lib.hid (bytes_of_row w0 w.heap.size (Nat.le_refl _))
 have HERR := Lib.hid hL
 have hl0 := hL.lt
 clear w0 hL
 by_cases hbig : len0 ≤ 1048576
 · go_enter Tryz.func6, Tryz.ntmps6
   go_wp2_with fail
   refine (big_no a0 len0 cap0 _ hbig).mono ?_
   rintro e w1 ⟨rfl, rfl⟩
   go_wp2_with fail
   refine (drawTableGet_at a0 len0 cap0 z0 _ HR.out).mono ?_
   rintro e w1 ⟨s, R, C, t, rfl, hs, hR, hC, b1⟩
   have B1 := Lib.hid b1
   have HR1 := Lib.hid (below_bytes HR.out b1)
   obtain ⟨xs, cf, k, hT⟩ := tab_some s.data.toList
   have HT := Lib.hid hT
   obtain ⟨r, hr⟩ : ∃ r, newest xs R.data.toList C.data.toList t = r := ⟨_, rfl⟩
   have HN := Lib.hid hr
   clear b1 hT hr
   go_wp2_with fail
   refine (implTableGet s R C t (by omega) xs cf k HT.out _ (HERR.out.below B1.out hl0)).mono ?_
   rw [HN.out]
   intro e w2 h2
   obtain ⟨Rx, Cx, Tx, Gx, Vx, hrr, rfl, b2⟩ := h2.form
   have HRR := Lib.hid hrr
   obtain ⟨ok, hok⟩ : ∃ b, r.isSome = b := ⟨_, rfl⟩
   rw [hok]
   have HOK := Lib.hid hok
   have X2 := Lib.hid (one5_new w2 (.string Rx) (.string Cx) (.int .i64 Tx) (.bool Gx) (.string Vx) 41)
   have K2 := Lib.hid (b2.trans ((one_below w2 (.cells #[.string Rx, .string Cx, .int .i64 Tx, .bool Gx, .string Vx] 41)).mono b2.size))
   have B2 := Lib.hid (B1.out.trans (K2.out.mono B1.out.size))
   have HR2 := Lib.hid (below_bytes HR1.out K2.out)
   clear h2 hrr hok b2 K2
   go_wp2_with fail
   obtain ⟨w3, hw3⟩ : ∃ W, w2.alloc (.cells #[.string Rx, .string Cx, .int .i64 Tx, .bool Gx, .string Vx] 41) = W := ⟨_, rfl⟩
   rw [hw3] at X2 B2 HR2 ⊢
   clear hw3
   obtain ⟨A, hA⟩ : ∃ A, w2.heap.size = A := ⟨_, rfl⟩
   rw [hA] at X2 ⊢
   clear hA
   refine (specTableGet s R C t (by omega) xs cf k HT.out _).mono ?_
   rw [HN.out]
   intro e w4 h4
   obtain ⟨R', C', T', G', V', hrr', rfl, b4⟩ := h4.form
   rw [HRR.out] at hrr'
   cases hrr'
   rw [HOK.out]
   have Y4 := Lib.hid (one5_new w4 (.string Rx) (.string Cx) (.int .i64 Tx) (.bool Gx) (.string Vx) 41)
   have K4 := Lib.hid (b4.trans ((one_below w4 (.cells #[.string Rx, .string Cx, .int .i64 Tx, .bool Gx, .string Vx] 41)).mono b4.size))
   have X4 := Lib.hid (X2.out.below K4.out)
   have B4 := Lib.hid (B2.out.trans (K4.out.mono B2.out.size))
   have HR4 := Lib.hid (below_bytes HR2.out K4.out)
   clear h4 b4 K4
   go_wp2_with fail
   obtain ⟨w5, hw5⟩ : ∃ W, w4.alloc (.cells #[.string Rx, .string Cx, .int .i64 Tx, .bool Gx, .string Vx] 41) = W := ⟨_, rfl⟩
   rw [hw5] at X4 Y4 B4 HR4 ⊢
   clear hw5
   obtain ⟨D, hD⟩ : ∃ A, w4.heap.size = A := ⟨_, rfl⟩
   rw [hD] at Y4 ⊢
   clear hD
   refine (drawTableMay_at a0 len0 cap0 z0 _ HR4.out).mono ?_
   rintro e w6 ⟨s6, R6, C6, rfl, hs6, hR6, hC6, b6⟩
   obtain ⟨xs6, cf6, k6, hT6⟩ := tab_some s6.data.toList
   have HT6 := Lib.hid hT6
   have X6 := Lib.hid (X4.out.below b6)
   have Y6 := Lib.hid (Y4.out.below b6)
   have B6 := Lib.hid (B4.out.trans (b6.mono B4.out.size))
   obtain ⟨q, hq⟩ : ∃ q, tabMay xs6 k6 R6.data.toList C6.data.toList = q := ⟨_, rfl⟩
   have HQ := Lib.hid hq
   have nq : (q != q) = false := by simp
   have nok : (ok != ok) = false := by simp
   have X6o := X6.out
   unfold One5 at X6o
   obtain ⟨f0, f1, f2, f3, f4⟩ := X6o
   have Y6o := Y6.out
   unfold One5 at Y6o
   obtain ⟨e0, e1, e2, e3, e4⟩ := Y6o
   clear hq b6 hT6
   go_wp2_with fail
   refine (implTableMay s6 R6 C6 (by omega) (by omega) (by omega) xs6 cf6 k6 HT6.out _ (HERR.out.below B6.out hl0)).mono ?_
   rw [HQ.out]
   rintro e w7 ⟨rfl, b7⟩
   have X7 := Lib.hid (X6.out.below b7)
   have B7 := Lib.hid (B6.out.trans (b7.mono B6.out.size))
   clear b7 f0 f1 f2 f3 f4 e0 e1 e2 e3 e4
   go_wp2_with fail
   refine (specTableMay s6 R6 C6 (by omega) (by omega) (by omega) xs6 cf6 k6 HT6.out _).mono ?_
   rw [HQ.out]
   rintro e w8 ⟨rfl, b8⟩
   have X8 := Lib.hid (X7.out.below b8)
   have B8 := Lib.hid (B7.out.trans (b8.mono B7.out.size))
   clear b8
   go_wp2_with fail
   refine (specGetTable s (by omega) _).mono ?_
   rintro e w9 ⟨v9, xs', cf', k', rfl, hT', o9, b9⟩
   obtain ⟨rfl, rfl, rfl⟩ := tab_one HT.out hT'
   obtain ⟨ad9, cap9, rfl⟩ := own_slice o9
   obtain ⟨ev, sz, pk⟩ := cf
   unfold confV
   have hx60 := (tab_few HT.out).1
   have K9 := Lib.hid (b9.trans ((one_below w9 (.cells #[.int .i64 ev, .int .i64 sz, .bool pk] 26)).mono b9.size))
   have O9 := Lib.hid (o9.below (one_below w9 (.cells #[.int .i64 ev, .int .i64 sz, .bool pk] 26))).row
   have X9 := Lib.hid (X8.out.below K9.out)
   have B9 := Lib.hid (B8.out.trans (K9.out.mono B8.out.size))
   clear hT' o9 b9 K9
   obtain ⟨wa, hwa⟩ : ∃ X, w9.alloc (.cells #[.int .i64 ev, .int .i64 sz, .bool pk] 26) = X := ⟨_, rfl⟩
   rw [hwa] at O9 X9 B9
   go_wp2_with fail
   clear hwa
   refine (implNewest ad9 xs.length cap9 xs R C t (by omega) (tab_fit HT.out) _ O9.out).mono ?_
   rw [HN.out]
   intro e w10 h10
   obtain ⟨R', C', T', G', V', hrr', rfl, b10⟩ := h10.form
   rw [HRR.out] at hrr'
   cases hrr'
   rw [HOK.out]
   have Z10 := Lib.hid (one5_new w10 (.string Rx) (.string Cx) (.int .i64 Tx) (.bool Gx) (.string Vx) 41)
   have K10 := Lib.hid (b10.trans ((one_below w10 (.cells #[.string Rx, .string Cx, .int .i64 Tx, .bool Gx, .string Vx] 41)).mono b10.size))
   have X10 := Lib.hid (X9.out.below K10.out)
   have B10 := Lib.hid (B9.out.trans (K10.out.mono B9.out.size))
   clear h10 b10 K10
   obtain ⟨wc, hwc⟩ : ∃ W, w10.alloc (.cells #[.string Rx, .string Cx, .int .i64 Tx, .bool Gx, .string Vx] 41) = W := ⟨_, rfl⟩
   obtain ⟨E, hE⟩ : ∃ A, w10.heap.size = A := ⟨_, rfl⟩
   rw [hwc] at X10 Z10 B10
   rw [hE] at Z10
   have X10o := X10.out
   unfold One5 at X10o
   obtain ⟨f0, f1, f2, f3, f4⟩ := X10o
   have Z10o := Z10.out
   unfold One5 at Z10o
   obtain ⟨e0, e1, e2, e3, e4⟩ := Z10o
   cases r with
   | none =>
     obtain rfl : ok = false := HOK.out.symm
     go_wp2
     go_ret
     exact ⟨rfl, B10.out⟩
   | some x =>
     obtain rfl : ok = true := HOK.out.symm
     have HM := Lib.hid (got_yes HT.out HN.out)
     go_wp2_with fail
     refine (implTableMay s R C (by omega) (by omega) (by omega) xs _ k HT.out _ (HERR.out.below B10.out hl0)).mono ?_
     rw [HM.out]
     rintro e w11 ⟨rfl, b11⟩
     have B11 := Lib.hid (B10.out.trans (b11.mono B10.out.size))
     clear b11 hwc hE f0 f1 f2 f3 f4 e0 e1 e2 e3 e4
     go_wp2
     go_ret
     exact ⟨rfl, B11.out⟩
 · go_enter Tryz.func6, Tryz.ntmps6
   go_wp2_with fail
   refine (big_yes a0 len0 cap0 _ (by omega)).mono ?_
   rintro e w1 ⟨rfl, rfl⟩
   go_wp2
   go_ret
   exact ⟨rfl, Below.refl _ _⟩
end Go.Proofs.YtkomnnijnggbpaaGreatDoor
