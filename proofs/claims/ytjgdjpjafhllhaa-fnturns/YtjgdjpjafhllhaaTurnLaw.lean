/- The walk of the law FnTurns. -/
import Derived.Test.YtjgdjpjafhllhaaPackLaw
import Derived.Test.YtjgdjpjafhllhaaAt
import Derived.Test.YtjgdjpjafhllhaaPerPure
import Derived.Test.YtjgdjpjafhllhaaTokLaw0
namespace Go.Proofs.Ytjgdjpjafhllhaa
open Go.RowKit
set_option linter.unusedVariables false

/-- The bytes 1, 2, .. -/
def turn (k : Nat) : List UInt8 := (List.range k).map fun i => UInt8.ofNat (i + 1)
theorem turn_len (k : Nat) : (turn k).length = k := by simp [turn]
theorem turn_succ (k : Nat) : turn (k + 1) = turn k ++ [UInt8.ofNat (k + 1)] := by simp [turn, List.range_succ]
theorem turn_get (k x : Nat) (h : x < k) : (turn k).getD x 0 = UInt8.ofNat (x + 1) := by
  simp [turn, List.getD_eq_getElem?_getD, List.getElem?_range h]
theorem turn_inj (k : Nat) (hk : k ≤ 127) : ∀ x y, x < (turn k).length → y < (turn k).length → (turn k).getD x 0 = (turn k).getD y 0 → x = y := by
  intro x y hx hy h
  rw [turn_len] at hx hy
  rw [turn_get k x hx, turn_get k y hy] at h
  have h2 := congrArg UInt8.toNat h
  rw [ofNat_small (by omega), ofNat_small (by omega)] at h2
  omega
theorem turn_toks (k : Nat) (h4 : 4 ≤ k) (hk : k ≤ 64) : ∃ ys, tokens (turn k ++ turn k ++ turn k) = ⟨turn k, 0, 0⟩ :: ys ∧ 1 ≤ ys.length ∧ ∀ y ∈ ys, 0 < y.len → y.far = k := by
  have hp := (per_times (turn k) (turn_inj k (by omega)) (by rw [turn_len]; omega) (by rw [turn_len]; omega)).2
  have hl : (turn k ++ turn k ++ turn k).length = 3 * k := by simp only [List.length_append, turn_len]; omega
  have h1 := hp.tokens (by rw [hl]; omega) (by rw [hl, turn_len]; omega)
  have h2 := hp.far (by rw [hl]; omega) (by rw [hl, turn_len]; omega)
  rw [h1] at h2
  have h3 : (turn k ++ turn k ++ turn k).take (turn k).length = turn k := by rw [List.append_assoc, List.take_left]
  rw [h3] at h1
  refine ⟨_, h1, by simp, fun y hy h => ?_⟩
  rw [h2 y (List.mem_cons_of_mem _ hy) h, turn_len]
theorem num_one (k : Nat) (h : k ≤ 100) : (k : Int) + 1 = ((UInt8.ofNat (k + 1)).toNat : Int) := by
  rw [ofNat_small (by omega)]; omega

set_option maxHeartbeats 1000000 in
set_option maxRecDepth 100000 in
theorem fnTurns_walk (a0 : Option Addr) (len0 cap0 : Nat) (z0 : List Int) (w : World) (w0 : IsRow .u8 w a0 len0 cap0 z0) :
    Calls Try.prog 9 #[.slice a0 len0 cap0] w fun e w' => e = .returned (.bool true) ∧ Below w.heap.size w w' := by
  have HR := Lib.hid (bytes_of_row w0 w.heap.size (Nat.le_refl _))
  clear w0
  by_cases hbig : len0 ≤ 1048576
  · go_enter Try.func9, Try.ntmps9
    go_wp2_with fail
    refine (big_no a0 len0 cap0 _ hbig).mono ?_
    rintro e w1 ⟨rfl, rfl⟩
    go_wp2_with fail
    refine (at_some a0 len0 cap0 z0 0 _ _ HR.out hbig (by omega)).mono ?_
    rintro e w1 ⟨x, hx, rfl, rfl⟩
    obtain ⟨p, hp⟩ : ∃ p : Nat, 4 + x % 60 = p := ⟨_, rfl⟩
    have hp1 : 4 ≤ p := by omega
    have hp2 : p ≤ 63 := by omega
    have hpi : (4 : Int) + (x : Int) % 60 = (p : Int) := by omega
    clear hp HR
    go_wp2_with fail
    clear hpi
    go_loopw [4, 5] (fun v ii wr => ∃ k : Nat, k ≤ p ∧ ii = .int .i64 k ∧ BRow w wr v (turn k)) (fun _ ii _ => p - (intOf ii).toNat)
    case atStart => exact ⟨0, Nat.zero_le _, rfl, brow_made w⟩
    case round =>
      obtain ⟨k, hk, rfl, t⟩ := hrel
      have TT := Lib.hid t
      have HL := Lib.hid (turn_len k)
      obtain ⟨aa, cc, rfl, hcell0⟩ := t.form
      clear t hcell0
      by_cases hlt : k < p
      · have hlt' : (k : Int) < (p : Int) := by omega
        go_wp2_with (at_builtin; refine wpList_plain rfl (fun K hK => ?_); refine op_pushL [UInt8.ofNat (k + 1)] _ _ rfl rfl rfl (one_byte_at _ _ (by first | rfl | simp) (num_one k (by omega))) (TT.out.alloc _) (by rw [HL.out]; simp only [List.length_singleton]; omega) ?_; intro v4 w4 t4 hg4; refine hK _ _ ?_; clear hK K; have T4 := Lib.hid t4; clear t4 hg4)
        go_roundw
        case rel => exact ⟨k + 1, by omega, by go_num, by rw [turn_succ]; exact T4.out⟩
        case measure => simp [intOf]; omega
      · obtain rfl : k = p := by omega
        obtain ⟨P, hP, hPs⟩ := a_text (turn k)
        rw [turn_len] at hPs
        have HP := Lib.hid hP
        have hcv : (convert 22 9 (.slice aa (turn k).length cc)).run Try.prog wr = .ok (.string P) wr := by
          rw [← of_list hP]; exact TT.out.str2
        rw [HL.out] at hcv ⊢
        obtain ⟨S, hS⟩ : ∃ S, P ++ P ++ P = S := ⟨_, rfl⟩
        have hS2 : S.size = 3 * k := by rw [← hS, ByteArray.size_append, ByteArray.size_append]; omega
        have HSL := Lib.hid (show S.data.toList = turn k ++ turn k ++ turn k by rw [← hS]; simp only [ByteArray.data_append, Array.toList_append, HP.out])
        have hPP : (P ++ P).size = 2 * k := by rw [ByteArray.size_append]; omega
        obtain ⟨ys, h1, h2, h3⟩ := turn_toks k (by omega) (by omega)
        obtain ⟨xs, hxs⟩ : ∃ xs, (⟨turn k, 0, 0⟩ : Tok) :: ys = xs := ⟨_, rfl⟩
        have HX := Lib.hid (show tokens S.data.toList = xs by rw [HSL.out, h1, hxs])
        have HF := Lib.hid (show ∀ i y, 1 ≤ i → xs[i]? = some y → 0 < y.len → y.far = k from fun i y hi hy => by
          obtain ⟨j, rfl⟩ : ∃ j, i = j + 1 := ⟨i - 1, by omega⟩
          rw [← hxs, List.getElem?_cons_succ] at hy
          exact h3 y (List.mem_of_getElem? hy))
        have H0 := Lib.hid (show xs[0]? = some ⟨turn k, 0, 0⟩ by rw [← hxs]; rfl)
        have hlen := tokens_few S.data.toList
        rw [HX.out] at hlen
        obtain ⟨n, hn⟩ : ∃ n, xs.length = n := ⟨_, rfl⟩
        rw [hn] at hlen
        have hn2 : 2 ≤ n := by rw [← hn, ← hxs, List.length_cons]; omega
        have HN := Lib.hid hn
        clear hxs
        clear hP h1 h2 h3 hn
        go_wp2_with fail
        refine (implTokens S _).mono ?_
        rw [HX.out]
        rintro e w1 ⟨v0, rfl, t0⟩
        have A1 := Lib.hid t0.any
        have T1 := Lib.hid (TT.out.later t0.below)
        clear t0 hcv TT
        have hform := A1.out.form
        rw [HN.out] at hform
        obtain ⟨av, cv, rfl, hcells⟩ := hform
        clear hcells
        go_wp2_with fail
        refine (specTokens S _).mono ?_
        rw [HX.out]
        rintro e w2 ⟨v1, rfl, t1⟩
        have A2 := Lib.hid (A1.out.later t1.below)
        have A3 := Lib.hid t1.any
        have T2 := Lib.hid (T1.out.later t1.below)
        clear t1 A1 T1
        go_wp2_with fail
        refine (sameTokens_same _ v1 _ (by rw [HN.out]; omega) _ A2.out A3.out).mono ?_
        rintro e w3 ⟨rfl, n3, rfl⟩
        have T3 := Lib.hid (T2.out.drewN n3)
        have A4 := Lib.hid (A2.out.later (below_draws n3))
        generalize w2.drewN n3 = w3 at *
        clear A2 A3 T2
        have hform := A4.out.form
        rw [HN.out] at hform
        obtain ⟨av', cv', hv, hcells⟩ := hform
        cases hv
        have HC := Lib.hid hcells
        clear hcells
        have n2 : ¬ (n : Int) < 2 := by omega
        go_wp2_with fail
        go_loopw [8] (fun ii wr => ∃ i : Nat, 1 ≤ i ∧ i ≤ n ∧ ii = .int .i64 i ∧ wr = w3) (fun ii _ => n - (intOf ii).toNat)
        case atStart => exact ⟨1, by omega, by omega, rfl, rfl⟩
        case round =>
          obtain ⟨i, hi1, hi, rfl, rfl⟩ := hrel
          by_cases hin : i < n
          · obtain ⟨y, hy⟩ : ∃ y, xs[i]? = some y := ⟨_, List.getElem?_eq_getElem (by rw [HN.out]; exact hin)⟩
            obtain ⟨g, rfl, hg, hnc, c0, c1, c2⟩ := HC.out i y hy
            have hfar := HF.out i y hi1 hy
            clear hy c0
            have i1 : (i : Int) < (n : Int) := by omega
            by_cases hyl : 0 < y.len
            · have hyl' : decide ((0 : Int) < (y.len : Int)) = true := by simpa using hyl
              rw [hfar hyl] at c2
              clear hfar
              go_wp2
              go_roundw
              case rel => exact ⟨i + 1, by omega, by omega, by go_num, trivial⟩
              case measure => simp [intOf]; omega
            · have hyl' : decide ((0 : Int) < (y.len : Int)) = false := by simpa using hyl
              clear hfar
              go_wp2
              go_roundw
              case rel => exact ⟨i + 1, by omega, by omega, by go_num, trivial⟩
              case measure => simp [intOf]; omega
          · obtain rfl : i = n := by omega
            obtain ⟨g, rfl, hg, hnc, c0, c1, c2⟩ := HC.out 0 _ H0.out
            rw [of_list HP.out] at c0
            have hcv : ∀ m, (convert 22 9 (.slice aa k cc)).run Try.prog (wr.drewN m) = .ok (.string P) (wr.drewN m) := by
              intro m
              have := (T3.out.drewN m).str2
              rw [HL.out, of_list HP.out] at this
              exact this
            clear c1 c2
            go_wp2_with fail
            go_quiet (fail)
            go_wp2
            go_ret
            exact ⟨rfl, T3.out.below.trans (below_draws _)⟩
  · go_enter Try.func9, Try.ntmps9
    go_wp2_with fail
    refine (big_yes a0 len0 cap0 _ hbig).mono ?_
    rintro e w1 ⟨rfl, rfl⟩
    go_wp2
    go_ret
    exact ⟨rfl, Below.refl _ _⟩
end Go.Proofs.Ytjgdjpjafhllhaa
