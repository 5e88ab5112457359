/- The walk of the law FnFifty: a block has fifty cells at most, and each is found in it. -/
import Derived.Test.YtgonnibakkabjaaSeekA
import Derived.Test.YtgonnibakkabjaaACell
import Derived.Test.YtgonnibakkabjaaPutBlockS
import Derived.Test.YtgonnibakkabjaaGetA
import Derived.Test.YtgonnibakkabjaaDrawBlk
import Derived.Test.YtgonnibakkabjaaLawA
namespace Go.Proofs.Ytgonnibakkabjaa
open Go.RowKit
set_option linter.unusedVariables false

def fif (i : Nat) : Cel := ⟨⟨#[114, 111, 119]⟩, ⟨#[99]⟩, 1000 - 7 * (i : Int), false, ⟨(Lib.itoa i).toArray⟩⟩
def fifty (n : Nat) : List Cel := (List.range n).map fif
theorem fifty_succ (n : Nat) : fifty (n + 1) = fifty n ++ [fif n] := by unfold fifty; rw [List.range_succ, List.map_append]; rfl
theorem fifty_len (n : Nat) : (fifty n).length = n := by unfold fifty; simp
theorem fifty_at {n k : Nat} (h : k < n) : (fifty n)[k]? = some (fif k) := by unfold fifty; simp [h]
theorem fif_ok {i : Nat} (h : i ≤ 100) : cellOk (fif i) = true := cellOk_good (by decide) (by decide) (by omega) (by omega) (Nat.le_trans (itoa_few i (by omega) (by omega)) (by omega)) rfl
theorem fif_before (i : Nat) : celBefore (fif i) (fif (i + 1)) = true := by
  unfold celBefore fif
  rw [if_pos rfl, if_pos rfl]
  simp
  omega
theorem fifty_ok {n : Nat} (h : n ≤ 100) : cellsOk (fifty n) = true := cellsOk_yes (fun j hj => by
  rw [fifty_len] at hj
  cases j with
  | zero => rw [okAt_zero (fifty_at hj)]; exact fif_ok (by omega)
  | succ j => rw [okAt_succ (fifty_at hj) (fifty_at (by omega)), fif_ok (by omega), fif_before]; rfl)
theorem fifty_seek {n k : Nat} {t : Int} (hn : n ≤ 100) (hk : k < n) (h1 : 1000 - 7 * (k : Int) ≤ t) (h2 : t ≤ 1000 - 7 * (k : Int) + 6) : newest (fifty n) [114, 111, 119] [99] t = some (fif k) := by
  unfold newest
  rw [if_pos (fifty_ok hn)]
  refine find_at (fifty_at hk) ?_ (fun j y hj hy => ?_)
  · unfold fits fif; simp; omega
  · rw [fifty_at (by omega)] at hy
    cases hy
    unfold fits fif
    simp
    omega
theorem fifty_none {n : Nat} {t : Int} (hn : n ≤ 100) (h : ∀ k : Nat, k < n → t < 1000 - 7 * (k : Int)) : newest (fifty n) [114, 111, 119] [99] t = none := by
  unfold newest
  rw [if_pos (fifty_ok hn)]
  refine find_no (fun j y hy => ?_)
  have hj : j < n := by have := (List.getElem?_eq_some_iff.1 hy).1; rwa [fifty_len] at this
  rw [fifty_at hj] at hy
  cases hy
  have := h j hj
  unfold fits fif
  simp
  omega
theorem fifty_fit {n : Nat} (h : n ≤ 100) : Fit (fifty n) := fit_ok (fifty_ok h)

set_option maxHeartbeats 4000000 in
set_option maxRecDepth 100000 in
theorem fnFifty_walk (a0 : Option Addr) (len0 cap0 : Nat) (z0 : List Int) (w : World) (w0 : IsRow .u8 w a0 len0 cap0 z0) :
    Calls Try.prog 8 #[.slice a0 len0 cap0] w fun e w' => e = .returned (.bool true) ∧ Below w.heap.size w w' := by
  have HR := Lib.hid (bytes_of_row w0 w.heap.size (Nat.le_refl _))
  clear w0
  by_cases hbig : len0 ≤ 1048576
  · have O0 := Lib.hid (show OwnC w.heap.size (w.alloc (.cells #[] 38)) (.slice (some ⟨w.heap.size, 0, none⟩) 0 0) (fifty 0) from World.ownsRow_made w #[] 0 (Nat.le_refl _) (by unfold maxLen; omega) (by simp))
    have B0 := Lib.hid (one_below w (.cells #[] 38))
    go_enter Try.func8, Try.ntmps8
    go_wp2_with fail
    refine (big_no a0 len0 cap0 _ hbig).mono ?_
    rintro e w1 ⟨rfl, rfl⟩
    go_wp2_with fail
    refine (at_some a0 len0 cap0 z0 0 _ _ HR.out hbig (by omega)).mono ?_
    rintro e w2 ⟨x0, hx0, rfl, rfl⟩
    obtain ⟨N, hN⟩ : ∃ N : Nat, 45 + x0 % 10 = N := ⟨_, rfl⟩
    have hN0 : 45 ≤ N := by omega
    have hN1 : N ≤ 54 := by omega
    have hNi : (45 : Int) + (x0 : Int) % 10 = (N : Int) := by omega
    clear hN
    go_wp2_with fail
    go_loopw [4, 5] (fun vv ii wr => ∃ j : Nat, j ≤ N ∧ ii = .int .i64 j ∧ Hid (OwnC w.heap.size wr vv (fifty j) ∧ Below w.heap.size w wr)) (fun _ ii _ => N - (intOf ii).toNat)
    case atStart => exact ⟨0, by omega, rfl, ⟨O0.out, B0.out⟩⟩
    case round =>
      obtain ⟨j, hj, rfl, HX⟩ := hrel
      obtain ⟨ad, cp, hv⟩ := own_slice HX.out.1
      rw [fifty_len] at hv
      rename_i v0 _
      subst hv
      by_cases hlt : j < N
      · have i1 : (j : Int) < (N : Int) := by omega
        go_wp2_with fail
        refine (specDecText (j : Int) _ (by omega) (by omega)).mono ?_
        rintro e w4 ⟨rfl, rfl⟩
        obtain ⟨V, hV⟩ : ∃ V : ByteArray, (⟨(Lib.itoa (j : Int)).toArray⟩ : ByteArray) = V := ⟨_, rfl⟩
        rw [hV]
        have HS := Lib.hid (show fifty j ++ [⟨⟨#[114, 111, 119]⟩, ⟨#[99]⟩, 1000 - 7 * (j : Int), false, V⟩] = fifty (j + 1) by rw [fifty_succ, ← hV]; rfl)
        have HL := Lib.hid (fifty_len j)
        clear hV
        have N6 := Lib.hid (new5 wr ⟨#[114, 111, 119]⟩ ⟨#[99]⟩ (1000 - 7 * (j : Int)) false V)
        have O6 := Lib.hid (HX.out.1.new (.cells #[.string ⟨#[114, 111, 119]⟩, .string ⟨#[99]⟩, .int .i64 (1000 - 7 * (j : Int)), .bool false, .string V] 38))
        have B6 := Lib.hid (HX.out.2.trans ((one_below wr (.cells #[.string ⟨#[114, 111, 119]⟩, .string ⟨#[99]⟩, .int .i64 (1000 - 7 * (j : Int)), .bool false, .string V] 38)).mono HX.out.2.size))
        clear HX
        go_wp2_with (at_builtin; refine wpList_plain rfl (fun K hK => ?_); refine op_pushC [⟨⟨#[114, 111, 119]⟩, ⟨#[99]⟩, 1000 - 7 * (j : Int), false, V⟩] _ _ rfl rfl rfl rfl N6.out O6.out B6.out.size (by rw [HL.out]; simp; omega) ?_; intro v7 w7 o7 gr7; refine hK _ _ ?_; clear hK K; rw [HS.out] at o7; have L7 := Lib.hid (B6.out.grown gr7 B6.out.size (fun q e => (O6.out.lt e).1)); have O7 := Lib.hid o7; clear o7 gr7)
        go_roundw
        case rel => exact ⟨j + 1, by omega, by go_num, ⟨O7.out, L7.out⟩⟩
        case measure => simp [intOf]; omega
      · obtain rfl : j = N := by omega
        have hlt2 : ¬ (j : Int) < (j : Int) := by omega
        have R1 := Lib.hid (show CelRow wr ad j cp (fifty j) from HX.out.1.row)
        have B1 := Lib.hid HX.out.2
        have HR1 := Lib.hid (below_bytes HR.out B1.out)
        have HF := Lib.hid (fifty_fit (n := j) (by omega))
        have hjc := R1.out.2.1
        clear HX hlt hNi
        go_wp2_with fail
        refine (at_some a0 len0 cap0 z0 1 _ _ HR1.out hbig (by omega)).mono ?_
        rintro e w2 ⟨x1, hx1, rfl, rfl⟩
        obtain ⟨ev, hev⟩ : ∃ ev : Nat, 1 + x1 % 16 = ev := ⟨_, rfl⟩
        have hev0 : 1 ≤ ev := by omega
        have hev1 : ev ≤ 16 := by omega
        have hevi : (1 : Int) + (x1 : Int) % 16 = (ev : Int) := by omega
        clear hev
        obtain ⟨A, hA, hAl⟩ := text_of (putBlock (fifty j) ev)
        have HAT := Lib.hid (as_text hA)
        have hA20 : A.size ≤ 1048576 := by have := put_len (fifty j) ev; rw [fifty_len] at this; omega
        have HA := Lib.hid hA
        have hsame := same_beq A
        clear hA hAl
        go_wp2_with fail
        refine (implPutBlock ad j cp (fifty j) ev (by omega) HF.out _ R1.out).mono ?_
        rintro e w2 ⟨rfl, b2⟩
        rw [HAT.out]
        have R2 := Lib.hid (R1.out.below b2)
        have B2 := Lib.hid (B1.out.trans (b2.mono B1.out.size))
        clear b2
        go_wp2_with fail
        refine (specPutBlock ad j cp (fifty j) ev (by omega) HF.out _ R2.out).mono ?_
        rintro e w3 ⟨rfl, b3⟩
        rw [HAT.out]
        have R3 := Lib.hid (R2.out.below b3)
        have B3 := Lib.hid (B2.out.trans (b3.mono B2.out.size))
        have HR3 := Lib.hid (below_bytes HR.out B3.out)
        clear b3
        by_cases h50 : j ≤ 50
        · have hne : A.data.toList ≠ [] := by rw [HA.out, putBlock_yes (by rw [fifty_len]; exact h50) (fifty_ok (by omega)) hev0 hev1]; exact block_ne _ _
          have HG := Lib.hid (show Got A.data.toList ev (fifty j) true from .inl ⟨rfl, HA.out.symm, hne⟩)
          have h50i : (j : Int) ≤ 50 := by omega
          clear hne
          go_wp2_with fail
          refine (at_some a0 len0 cap0 z0 2 _ _ HR3.out hbig (by omega)).mono ?_
          rintro e w2 ⟨x2, hx2, rfl, rfl⟩
          obtain ⟨k, hk⟩ : ∃ k : Nat, x2 % j = k := ⟨_, rfl⟩
          have hkj : k < j := by rw [← hk]; exact Nat.mod_lt _ (by omega)
          have hki : (x2 : Int).tmod (j : Int) = (k : Int) := by rw [← hk, Int.natCast_emod, Int.tmod_eq_emod_of_nonneg (by omega)]
          have hkj0 : ¬ j = 0 := by omega
          have hkw : IntKind.i64.wrap (k : Int) = (k : Int) := IntWalk.i64_in _ (by omega)
          have k0 : (0 : Int) ≤ (k : Int) := by omega
          have k1 : (k : Int) < (j : Int) := by omega
          clear hk
          obtain ⟨⟨R, C, T, G, V⟩, hx⟩ : ∃ x, fif k = x := ⟨_, rfl⟩
          have hT : T = 1000 - 7 * (k : Int) := by have := congrArg Cel.time hx; exact this.symm
          obtain ⟨g, rfl, c5⟩ := R3.out.2.2 k ⟨R, C, T, G, V⟩ (by rw [fifty_at hkj, hx])
          have C5 := Lib.hid c5
          unfold Cel5 at c5
          obtain ⟨c0, c1, c2, c3, c4⟩ := c5
          have HT := Lib.hid hT
          have hT0 : 0 ≤ T := by omega
          have hT1 : T ≤ 1000 := by omega
          have HN := Lib.hid (show newest (fifty j) (⟨#[114, 111, 119]⟩ : ByteArray).data.toList (⟨#[99]⟩ : ByteArray).data.toList T = some ⟨R, C, T, G, V⟩ by rw [← hx]; exact fifty_seek (by omega) hkj (by rw [HT.out]; omega) (by rw [HT.out]; omega))
          have HN6 := Lib.hid (show newest (fifty j) (⟨#[114, 111, 119]⟩ : ByteArray).data.toList (⟨#[99]⟩ : ByteArray).data.toList (T + 6) = some ⟨R, C, T, G, V⟩ by rw [← hx]; exact fifty_seek (by omega) hkj (by rw [HT.out]; omega) (by rw [HT.out]; omega))
          obtain ⟨m, hm⟩ : ∃ m, j = m + 1 := ⟨j - 1, by omega⟩
          have hmi : (j : Int) - 1 = (m : Int) := by omega
          have hmj : m < j := by omega
          have m0 : (0 : Int) ≤ (m : Int) := by omega
          have m1 : (m : Int) < (j : Int) := by omega
          obtain ⟨⟨R2, C2, T2, G2, V2⟩, hx2⟩ : ∃ x, fif m = x := ⟨_, rfl⟩
          have hT2 : T2 = 1000 - 7 * (m : Int) := by have := congrArg Cel.time hx2; exact this.symm
          obtain ⟨g2, e2, d5⟩ := R3.out.2.2 m ⟨R2, C2, T2, G2, V2⟩ (by rw [fifty_at hmj, hx2])
          cases e2
          have D5 := Lib.hid d5
          have hT20 : 0 ≤ T2 := by omega
          have hT21 : T2 ≤ 1000 := by omega
          have HNN := Lib.hid (show newest (fifty j) (⟨#[114, 111, 119]⟩ : ByteArray).data.toList (⟨#[99]⟩ : ByteArray).data.toList (T2 - 1) = none from fifty_none (by omega) (fun i hi => by rw [hT2]; omega))
          clear hT hx hT2 hx2 d5 hm
          go_wp2_with fail
          refine (implSeek A ev _ _ T hA20 (fifty j) true HG.out _).mono ?_
          rw [HN.out]
          intro e w4 h4
          obtain ⟨R', C', T', G', V', hrr, rfl, b4⟩ := h4.form
          cases hrr
          have X4 := Lib.hid (one5_new w4 (.string R) (.string C) (.int .i64 T) (.bool G) (.string V) 38)
          have K4 := Lib.hid (b4.trans ((one_below w4 (.cells #[.string R, .string C, .int .i64 T, .bool G, .string V] 38)).mono b4.size))
          have C4 := Lib.hid (C5.out.below K4.out)
          have D4 := Lib.hid (D5.out.below K4.out)
          have B4 := Lib.hid (B3.out.trans (K4.out.mono B3.out.size))
          clear h4 b4 K4 c0 c1 c2 c3 c4
          have c5 := C4.out
          unfold Cel5 at c5
          obtain ⟨c0, c1, c2, c3, c4⟩ := c5
          go_wp2_with fail
          obtain ⟨w5, hw5⟩ : ∃ W, w4.alloc (.cells #[.string R, .string C, .int .i64 T, .bool G, .string V] 38) = W := ⟨_, rfl⟩
          rw [hw5] at X4 C4 D4 B4 c0 c1 c2 c3 c4 ⊢
          clear hw5
          obtain ⟨Q, hQ⟩ : ∃ A, w4.heap.size = A := ⟨_, rfl⟩
          rw [hQ] at X4 ⊢
          clear hQ
          refine (implSeek A ev _ _ (T + 6) hA20 (fifty j) true HG.out _).mono ?_
          rw [HN6.out]
          intro e w6 h6
          obtain ⟨R', C', T', G', V', hrr, rfl, b6⟩ := h6.form
          cases hrr
          have Y6 := Lib.hid (one5_new w6 (.string R) (.string C) (.int .i64 T) (.bool G) (.string V) 38)
          have K6 := Lib.hid (b6.trans ((one_below w6 (.cells #[.string R, .string C, .int .i64 T, .bool G, .string V] 38)).mono b6.size))
          have X6 := Lib.hid (X4.out.below K6.out)
          have C6 := Lib.hid (C4.out.below K6.out)
          have D6 := Lib.hid (D4.out.below K6.out)
          have B6 := Lib.hid (B4.out.trans (K6.out.mono B4.out.size))
          clear h6 b6 K6 c0 c1 c2 c3 c4
          have d5 := D6.out
          unfold Cel5 at d5
          obtain ⟨d0, d1, d2, d3, d4⟩ := d5
          go_wp2_with fail
          obtain ⟨w7, hw7⟩ : ∃ W, w6.alloc (.cells #[.string R, .string C, .int .i64 T, .bool G, .string V] 38) = W := ⟨_, rfl⟩
          rw [hw7] at Y6 X6 C6 D6 B6 d0 d1 d2 d3 d4 ⊢
          clear hw7
          obtain ⟨Z, hZ⟩ : ∃ A, w6.heap.size = A := ⟨_, rfl⟩
          rw [hZ] at Y6 ⊢
          clear hZ
          refine (implSeek A ev _ _ (T2 - 1) hA20 (fifty j) true HG.out _).mono ?_
          rw [HNN.out]
          intro e w8 h8
          obtain ⟨R', C', T', G', V', hrr, rfl, b8⟩ := h8.form
          have K8 := Lib.hid (b8.trans ((one_below w8 (.cells #[.string R', .string C', .int .i64 T', .bool G', .string V'] 38)).mono b8.size))
          have X8 := Lib.hid (X6.out.below K8.out)
          have Y8 := Lib.hid (Y6.out.below K8.out)
          have C8 := Lib.hid (C6.out.below K8.out)
          have B8 := Lib.hid (B6.out.trans (K8.out.mono B6.out.size))
          clear h8 b8 K8 d0 d1 d2 d3 d4 hrr
          have c5 := C8.out
          unfold Cel5 at c5
          obtain ⟨c0, c1, c2, c3, c4⟩ := c5
          have X8o := X8.out
          unfold One5 at X8o
          obtain ⟨e0, e1, e2, e3, e4⟩ := X8o
          have Y8o := Y8.out
          unfold One5 at Y8o
          obtain ⟨f0, f1, f2, f3, f4⟩ := Y8o
          go_wp2_with fail
          go_quiet (fail)
          go_wp2
          go_ret
          exact ⟨ret_bool (by simp), B8.out.trans (below_draws _)⟩
        · have hem : putBlock (fifty j) ev = [] := putBlock_no (block_no1 (by rw [fifty_len]; omega))
          have hAe : A = ⟨#[]⟩ := bytes_ext (by rw [HA.out, hem])
          have h50i : ¬ (j : Int) ≤ 50 := by omega
          have h50j : (50 : Int) < (j : Int) := by omega
          subst hAe
          clear hem hsame
          go_wp2
          go_ret
          exact ⟨rfl, B3.out⟩
  · go_enter Try.func8, Try.ntmps8
    go_wp2_with fail
    refine (big_yes a0 len0 cap0 _ hbig).mono ?_
    rintro e w1 ⟨rfl, rfl⟩
    go_wp2
    go_ret
    exact ⟨rfl, Below.refl _ _⟩
end Go.Proofs.Ytgonnibakkabjaa
