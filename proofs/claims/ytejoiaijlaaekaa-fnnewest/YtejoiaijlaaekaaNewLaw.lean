/- The walk of the law FnNewest: the newest of a row and a column that is no newer than asked is told. -/
import Derived.Test.YtejoiaijlaaekaaDrawNew
import Derived.Test.YtejoiaijlaaekaaNewestLaw
import Derived.Test.YtejoiaijlaaekaaBig
namespace Go.Proofs.Ytejoiaijlaaekaa
open Go.RowKit
set_option linter.unusedVariables false

theorem small_all {ys : List Cel} (h : ∀ y ∈ ys, SmallC y) : Fit ys := fun y hy => small_fit (h y hy)

set_option maxHeartbeats 8000000 in
set_option maxRecDepth 100000 in
theorem fnNewest_walk (a0 : Option Addr) (len0 cap0 : Nat) (z0 : List Int) (w : World) (w0 : IsRow .u8 w a0 len0 cap0 z0) :
    Calls Try.prog 5 #[.slice a0 len0 cap0] w fun e w' => e = .returned (.bool true) ∧ Below w.heap.size w w' := by
  have HR := Lib.hid (bytes_of_row w0 w.heap.size (Nat.le_refl _))
  clear w0
  by_cases hbig : len0 ≤ 1048576
  · go_enter Try.func5, Try.ntmps5
    go_wp2_with fail
    refine (big_no a0 len0 cap0 _ hbig).mono ?_
    rintro e w1 ⟨rfl, rfl⟩
    go_wp2_with fail
    refine (drawNewest_at a0 len0 cap0 z0 _ HR.out).mono ?_
    rintro e w1 ⟨g, n, c, ys, R, C, t, rfl, hn, row1, sm, hR, hC, ht0, ht1, b1⟩
    have HF := Lib.hid (small_all sm)
    have R1 := Lib.hid row1
    have B1 := Lib.hid b1
    have HR1 := Lib.hid (below_bytes HR.out b1)
    have hnc : n ≤ c := row1.2.1
    have HLN := Lib.hid row1.1
    obtain ⟨r, hr⟩ : ∃ r, newest ys R.data.toList C.data.toList t = r := ⟨_, rfl⟩
    have HN := Lib.hid hr
    clear row1 sm b1 hr
    go_wp2_with fail
    refine (implNewest _ n c ys R C t (by omega) HF.out _ R1.out).mono ?_
    rw [HN.out]
    intro e w2 h2
    obtain ⟨Rx, Cx, Tx, Gx, Vx, hrr, rfl, b2⟩ := h2.form
    have HRR := Lib.hid hrr
    obtain ⟨ok, hok⟩ : ∃ b, r.isSome = b := ⟨_, rfl⟩
    rw [hok]
    have HOK := Lib.hid hok
    have X2 := Lib.hid (one5_new w2 (.string Rx) (.string Cx) (.int .i64 Tx) (.bool Gx) (.string Vx) 30)
    have K2 := Lib.hid (b2.trans ((one_below w2 (.cells #[.string Rx, .string Cx, .int .i64 Tx, .bool Gx, .string Vx] 30)).mono b2.size))
    have R2 := Lib.hid (R1.out.below K2.out)
    have B2 := Lib.hid (B1.out.trans (K2.out.mono B1.out.size))
    have HR2 := Lib.hid (below_bytes HR1.out K2.out)
    clear h2 hrr hok b2 K2
    go_wp2_with fail
    obtain ⟨w3, hw3⟩ : ∃ W, w2.alloc (.cells #[.string Rx, .string Cx, .int .i64 Tx, .bool Gx, .string Vx] 30) = W := ⟨_, rfl⟩
    rw [hw3] at X2 R2 B2 HR2 ⊢
    clear hw3
    obtain ⟨A, hA⟩ : ∃ A, w2.heap.size = A := ⟨_, rfl⟩
    rw [hA] at X2 ⊢
    clear hA
    refine (specNewest _ n c ys R C t (by omega) HF.out _ R2.out).mono ?_
    rw [HN.out]
    intro e w4 h4
    obtain ⟨R', C', T', G', V', hrr', rfl, b4⟩ := h4.form
    rw [HRR.out] at hrr'
    cases hrr'
    rw [HOK.out]
    have Y4 := Lib.hid (one5_new w4 (.string Rx) (.string Cx) (.int .i64 Tx) (.bool Gx) (.string Vx) 30)
    have K4 := Lib.hid (b4.trans ((one_below w4 (.cells #[.string Rx, .string Cx, .int .i64 Tx, .bool Gx, .string Vx] 30)).mono b4.size))
    have X4 := Lib.hid (X2.out.below K4.out)
    have R4 := Lib.hid (R2.out.below K4.out)
    have B4 := Lib.hid (B2.out.trans (K4.out.mono B2.out.size))
    have HR4 := Lib.hid (below_bytes HR2.out K4.out)
    clear h4 b4 K4
    go_wp2_with fail
    obtain ⟨w5, hw5⟩ : ∃ W, w4.alloc (.cells #[.string Rx, .string Cx, .int .i64 Tx, .bool Gx, .string Vx] 30) = W := ⟨_, rfl⟩
    rw [hw5] at X4 Y4 R4 B4 HR4 ⊢
    clear hw5
    obtain ⟨D, hD⟩ : ∃ A, w4.heap.size = A := ⟨_, rfl⟩
    rw [hD] at Y4 ⊢
    clear hD
    refine (drawCellsOk_at a0 len0 cap0 z0 _ HR4.out).mono ?_
    rintro e w6 ⟨g6, n6, c6, zs, rfl, hn6, row6, sm6, b6⟩
    have HF6 := Lib.hid (small_all sm6)
    have Z6 := Lib.hid row6
    have X6 := Lib.hid (X4.out.below b6)
    have Y6 := Lib.hid (Y4.out.below b6)
    have R6 := Lib.hid (R4.out.below b6)
    have B6 := Lib.hid (B4.out.trans (b6.mono B4.out.size))
    clear row6 sm6 b6
    obtain ⟨q, hq⟩ : ∃ q, cellsOk zs = q := ⟨_, rfl⟩
    have HQ := Lib.hid hq
    have nq : (q != q) = false := by simp
    have nok : (ok != ok) = false := by simp
    have X6o := X6.out
    unfold One5 at X6o
    obtain ⟨f0, f1, f2, f3, f4⟩ := X6o
    have Y6o := Y6.out
    unfold One5 at Y6o
    obtain ⟨e0, e1, e2, e3, e4⟩ := Y6o
    clear hq
    go_wp2_with fail
    refine (implCellsOk _ n6 c6 zs (by omega) HF6.out _ Z6.out).mono ?_
    rw [HQ.out]
    rintro e w7 ⟨rfl, b7⟩
    have Z7 := Lib.hid (Z6.out.below b7)
    have X7 := Lib.hid (X6.out.below b7)
    have R7 := Lib.hid (R6.out.below b7)
    have B7 := Lib.hid (B6.out.trans (b7.mono B6.out.size))
    clear b7 f0 f1 f2 f3 f4 e0 e1 e2 e3 e4
    go_wp2_with fail
    refine (specCellsOk _ n6 c6 zs (by omega) HF6.out _ Z7.out).mono ?_
    rw [HQ.out]
    rintro e w8 ⟨rfl, b8⟩
    have X8 := Lib.hid (X7.out.below b8)
    have R8 := Lib.hid (R7.out.below b8)
    have B8 := Lib.hid (B7.out.trans (b8.mono B7.out.size))
    clear b8
    cases r with
    | none =>
      have hz := HRR.out
      have hok' := HOK.out
      simp only [Option.getD_none, zeroC, Cel.mk.injEq] at hz
      obtain ⟨rfl, rfl, rfl, rfl, rfl⟩ := hz
      obtain rfl : ok = false := hok'.symm
      clear hok'
      obtain ⟨q1, hq1⟩ : ∃ q, cellsOk ys = q := ⟨_, rfl⟩
      have HQ1 := Lib.hid hq1
      clear hq1
      go_wp2_with fail
      refine (specCellsOk _ n c ys (by omega) HF.out _ R8.out).mono ?_
      rw [HQ1.out]
      rintro e w9 ⟨rfl, b9⟩
      have X9 := Lib.hid (X8.out.below b9)
      have R9 := Lib.hid (R8.out.below b9)
      have B9 := Lib.hid (B8.out.trans (b9.mono B8.out.size))
      clear b9
      have X9o := X9.out
      unfold One5 at X9o
      obtain ⟨f0, f1, f2, f3, f4⟩ := X9o
      cases q1
      · go_wp2_with fail
        go_ret
        exact ⟨rfl, B9.out⟩
      · go_wp2_with fail
        go_loopw [12] (fun ii wr => ∃ i : Nat, i ≤ n ∧ ii = .int .i64 i ∧ wr = w9) (fun ii _ => n - (intOf ii).toNat)
        case atStart => exact ⟨0, Nat.zero_le _, rfl, rfl⟩
        case round =>
          obtain ⟨i, hi, rfl, rfl⟩ := hrel
          by_cases hlt : i < n
          · obtain ⟨⟨Ry, Cy, Ty, Gy, Vy⟩, hy⟩ : ∃ y, ys[i]? = some y := ⟨_, List.getElem?_eq_getElem (by rw [HLN.out]; exact hlt)⟩
            have hfit := newest_none HN.out HQ1.out (List.mem_of_getElem? hy)
            obtain ⟨g', hg', k5⟩ := R9.out.2.2 i _ hy
            cases hg'
            unfold Cel5 at k5
            obtain ⟨c0, c1, c2, c3, c4⟩ := k5
            have i1 : (i : Int) < (n : Int) := by omega
            clear hy
            by_cases q1 : Ry.data.toList = R.data.toList
            · have s1 := list_same Ry R q1
              by_cases q2 : Cy.data.toList = C.data.toList
              · have s2 := list_same Cy C q2
                have q3 : ¬ Ty ≤ t := fun h => by
                  have := is_fits (G1 := Gy) (V1 := Vy) q1 q2 h
                  rw [hfit] at this
                  cases this
                clear q1 q2 hfit
                go_wp2
                go_roundw
                case rel => exact ⟨i + 1, by omega, by go_num, trivial⟩
                case measure => simp [intOf]; omega
              · have s2 := list_other Cy C q2
                clear q1 q2 hfit
                go_wp2
                go_roundw
                case rel => exact ⟨i + 1, by omega, by go_num, trivial⟩
                case measure => simp [intOf]; omega
            · have s1 := list_other Ry R q1
              clear q1 hfit
              go_wp2
              go_roundw
              case rel => exact ⟨i + 1, by omega, by go_num, trivial⟩
              case measure => simp [intOf]; omega
          · go_wp2_with fail
            go_ret
            exact ⟨rfl, B9.out⟩
    | some x =>
      have hz := HRR.out
      have hok' := HOK.out
      obtain rfl : ok = true := hok'.symm
      clear hok'
      have hz : x = ⟨Rx, Cx, Tx, Gx, Vx⟩ := hz
      subst hz
      obtain ⟨hmem, hfx⟩ := newest_fits HN.out
      obtain ⟨p1, p2, p3⟩ := fits_parts hfx
      have s1x := list_same Rx R p1
      have s2x := list_same Cx C p2
      have hTx : Tx ≤ t := p3
      clear hmem hfx p1 p2 p3
      have X8o := X8.out
      unfold One5 at X8o
      obtain ⟨f0, f1, f2, f3, f4⟩ := X8o
      go_wp2_with fail
      go_loopw [13] (fun ii wr => ∃ i : Nat, i ≤ n ∧ ii = .int .i64 i ∧ ∃ m, wr = w8.drewN m) (fun ii _ => n - (intOf ii).toNat)
      case atStart => exact ⟨0, Nat.zero_le _, rfl, 0, rfl⟩
      case round =>
        obtain ⟨i, hi, rfl, m, rfl⟩ := hrel
        by_cases hlt : i < n
        · obtain ⟨⟨Ry, Cy, Ty, Gy, Vy⟩, hy⟩ : ∃ y, ys[i]? = some y := ⟨_, List.getElem?_eq_getElem (by rw [HLN.out]; exact hlt)⟩
          have hmost : Ry.data.toList = R.data.toList → Cy.data.toList = C.data.toList → Ty ≤ t → Ty ≤ Tx := fun a1 a2 a3 => newest_most HN.out (List.mem_of_getElem? hy) (is_fits a1 a2 a3)
          obtain ⟨g', hg', k5⟩ := R8.out.2.2 i _ hy
          cases hg'
          unfold Cel5 at k5
          obtain ⟨c0, c1, c2, c3, c4⟩ := k5
          have i1 : (i : Int) < (n : Int) := by omega
          have i0 : (0 : Int) ≤ (i : Int) := by omega
          clear hy
          by_cases q1 : Ry.data.toList = R.data.toList
          · have s1 := list_same Ry R q1
            by_cases q2 : Cy.data.toList = C.data.toList
            · have s2 := list_same Cy C q2
              by_cases q3 : Ty ≤ t
              · have q4 : decide (Tx < Ty) = false := by have := hmost q1 q2 q3; simpa using this
                have q3' : decide (Ty ≤ t) = true := by simpa using q3
                clear q1 q2 hmost
                go_wp2_with fail
                go_quiet (fail)
                go_wp2
                go_roundw
                case rel => exact ⟨i + 1, by omega, by go_num, _, rfl⟩
                case measure => simp [intOf]; omega
              · have q3' : decide (Ty ≤ t) = false := by simpa using q3
                clear q1 q2 hmost
                go_wp2_with fail
                go_quiet (fail)
                go_wp2
                go_roundw
                case rel => exact ⟨i + 1, by omega, by go_num, _, rfl⟩
                case measure => simp [intOf]; omega
            · have s2 := list_other Cy C q2
              clear q1 q2 hmost
              go_wp2_with fail
              go_quiet (fail)
              go_wp2
              go_roundw
              case rel => exact ⟨i + 1, by omega, by go_num, _, rfl⟩
              case measure => simp [intOf]; omega
          · have s1 := list_other Ry R q1
            clear q1 hmost
            go_wp2_with fail
            go_quiet (fail)
            go_wp2
            go_roundw
            case rel => exact ⟨i + 1, by omega, by go_num, _, rfl⟩
            case measure => simp [intOf]; omega
        · go_wp2_with fail
          go_ret
          exact ⟨ret_bool (by simp), B8.out.trans (below_draws _)⟩
  · go_enter Try.func5, Try.ntmps5
    go_wp2_with fail
    refine (big_yes a0 len0 cap0 _ hbig).mono ?_
    rintro e w1 ⟨rfl, rfl⟩
    go_wp2
    go_ret
    exact ⟨rfl, Below.refl _ _⟩
end Go.Proofs.Ytejoiaijlaaekaa
