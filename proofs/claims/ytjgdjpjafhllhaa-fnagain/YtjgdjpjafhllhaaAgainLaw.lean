/- The walk of the law FnAgain. -/
import Derived.Test.YtjgdjpjafhllhaaPackLaw
import Derived.Test.YtjgdjpjafhllhaaAt
import Derived.Test.YtjgdjpjafhllhaaZeros
import Derived.Test.YtjgdjpjafhllhaaPerPure
import Derived.Test.YtjgdjpjafhllhaaTokLaw0
namespace Go.Proofs.Ytjgdjpjafhllhaa
open Go.RowKit
set_option linter.unusedVariables false

/-- The bytes 100, 0, 101, 3, 102, 6, .. -/
def pairs : Nat → List UInt8
  | 0 => []
  | k + 1 => pairs k ++ [UInt8.ofNat (k + 100), UInt8.ofNat (k * 3)]
theorem pairs_len (k : Nat) : (pairs k).length = 2 * k := by
  induction k with
  | zero => rfl
  | succ k ih => rw [pairs, List.length_append, ih]; simp; omega
theorem pairs_get (k : Nat) : ∀ x, x < 2 * k → (pairs k).getD x 0 = UInt8.ofNat (if x % 2 = 0 then x / 2 + 100 else x / 2 * 3) := by
  induction k with
  | zero => intro x h; omega
  | succ k ih =>
    intro x h
    have hl := pairs_len k
    rw [pairs, List.getD_eq_getElem?_getD]
    by_cases hx : x < 2 * k
    · rw [List.getElem?_append_left (by omega), ← List.getD_eq_getElem?_getD, ih x hx]
    · rw [List.getElem?_append_right (by omega), hl]
      by_cases e : x = 2 * k
      · subst e
        rw [Nat.sub_self, if_pos (by omega), show 2 * k / 2 = k by omega]; rfl
      · obtain rfl : x = 2 * k + 1 := by omega
        rw [show 2 * k + 1 - 2 * k = 1 by omega, if_neg (by omega), show (2 * k + 1) / 2 = k by omega]; rfl
theorem take_getD (l : List UInt8) (k j : Nat) (h : j < k) : (l.take k).getD j 0 = l.getD j 0 := by
  simp only [List.getD_eq_getElem?_getD, List.getElem?_take, if_pos h]
theorem again_toks (n : Nat) (h4 : 4 ≤ n) (hn : n ≤ 64) (s : List UInt8) (hs : s = (pairs n).take n) : tokens (s ++ s) = [⟨s, 0, 0⟩, ⟨[], n, n⟩] := by
  have hl : s.length = n := by rw [hs, List.length_take, pairs_len]; omega
  have hg : ∀ x, x < n → s.getD x 0 = UInt8.ofNat (if x % 2 = 0 then x / 2 + 100 else x / 2 * 3) := fun x hx => by
    rw [hs, take_getD _ _ _ hx, pairs_get n x (by omega)]
  have hp := (per_times s (fun x y hx hy h => by
    rw [hl] at hx hy
    rw [hg x hx, hg y hy] at h
    have h2 := congrArg UInt8.toNat h
    rw [ofNat_small (by split <;> omega), ofNat_small (by split <;> omega)] at h2
    split at h2 <;> split at h2 <;> omega) (by omega) (by omega)).1
  have h1 := hp.two (by rw [List.length_append]; omega) (by rw [List.length_append]; omega)
  rw [h1, List.length_append, List.take_left, Nat.add_sub_cancel, hl]
theorem zeros_toks (n : Nat) (h4 : 4 ≤ n) (hn : n ≤ 64) : tokens (List.replicate (1 + n) 0) = [⟨[0], 0, 0⟩, ⟨[], n, 1⟩] := by
  have h1 := (per_zeros (1 + n) (by omega)).two (by rw [List.length_replicate]; omega) (by rw [List.length_replicate]; omega)
  rw [h1, List.length_replicate, show 1 + n - 1 = n by omega, List.take_replicate, show min 1 (1 + n) = 1 by omega]
  rfl
theorem num_100 (k : Nat) (h : k ≤ 100) : (k : Int) + 100 = ((UInt8.ofNat (k + 100)).toNat : Int) := by
  rw [ofNat_small (by omega)]; omega
theorem num_3 (k : Nat) (h : k ≤ 80) : (k : Int) * 3 = ((UInt8.ofNat (k * 3)).toNat : Int) := by
  rw [ofNat_small (by omega)]; omega

set_option maxHeartbeats 1000000 in
set_option maxRecDepth 100000 in
theorem fnAgain_walk (a0 : Option Addr) (len0 cap0 : Nat) (z0 : List Int) (w : World) (w0 : IsRow .u8 w a0 len0 cap0 z0) :
    Calls Try.prog 6 #[.slice a0 len0 cap0] w fun e w' => e = .returned (.bool true) ∧ Below w.heap.size w w' := by
  have HR := Lib.hid (bytes_of_row w0 w.heap.size (Nat.le_refl _))
  clear w0
  by_cases hbig : len0 ≤ 1048576
  · go_enter Try.func6, Try.ntmps6
    go_wp2_with fail
    refine (big_no a0 len0 cap0 _ hbig).mono ?_
    rintro e w1 ⟨rfl, rfl⟩
    go_wp2_with fail
    refine (at_some a0 len0 cap0 z0 0 _ _ HR.out hbig (by omega)).mono ?_
    rintro e w1 ⟨x, hx, rfl, rfl⟩
    obtain ⟨n, hn⟩ : ∃ n : Nat, 4 + x % 60 = n := ⟨_, rfl⟩
    have hn1 : 4 ≤ n := by omega
    have hn2 : n ≤ 63 := by omega
    have hni : (4 : Int) + (x : Int) % 60 = (n : Int) := by omega
    clear hn HR
    go_wp2_with fail
    clear hni
    go_loopw [4, 5] (fun v ii wr => ∃ k : Nat, k ≤ n ∧ ii = .int .i64 k ∧ BRow w wr v (pairs k)) (fun _ ii _ => n - (intOf ii).toNat)
    case atStart => exact ⟨0, Nat.zero_le _, rfl, brow_made w⟩
    case round =>
      obtain ⟨k, hk, rfl, t⟩ := hrel
      have TT := Lib.hid t
      have HL := Lib.hid (pairs_len k)
      obtain ⟨aa, cc, rfl, hcell0⟩ := t.form
      have HC0 := Lib.hid hcell0
      clear t hcell0
      by_cases hlt : k < n
      · have hlt' : (k : Int) < (n : Int) := by omega
        go_wp2_with (at_builtin; refine wpList_plain rfl (fun K hK => ?_); refine op_pushL [UInt8.ofNat (k + 100), UInt8.ofNat (k * 3)] _ _ rfl rfl rfl (two_bytes_at _ _ _ (by first | rfl | simp) (num_100 k (by omega)) (num_3 k (by omega))) (TT.out.alloc _) (by rw [HL.out]; simp only [List.length_cons, List.length_nil]; omega) ?_; intro v4 w4 t4 hg4; refine hK _ _ ?_; clear hK K; have T4 := Lib.hid t4; clear t4 hg4)
        go_roundw
        case rel => exact ⟨k + 1, by omega, by go_num, by rw [pairs]; exact T4.out⟩
        case measure => simp [intOf]; omega
      · obtain rfl : k = n := by omega
        have hcc := HC0.out 0 (by rw [HL.out]; omega)
        obtain ⟨g, rfl, hcc, _⟩ := hcc
        rw [HL.out] at hcc ⊢
        obtain ⟨P, hP, hPs⟩ := a_text ((pairs k).take k)
        have hPk : P.size = k := by rw [hPs, List.length_take, HL.out]; omega
        have HP := Lib.hid hP
        have hcv : (convert 22 9 (.slice (some ⟨g, 0, none⟩) k cc)).run Try.prog wr = .ok (.string P) wr := by
          rw [← of_list hP]
          refine str_of_cells ((pairs k).take k) (by rw [List.length_take, HL.out]; omega) (fun j hj => ?_)
          rw [List.length_take, HL.out] at hj
          obtain ⟨g', hg, _, h⟩ := HC0.out j (by rw [HL.out]; omega)
          cases hg
          rw [h, take_getD _ _ _ (by omega)]
        clear hP hPs
        obtain ⟨S, hS⟩ : ∃ S, P ++ P = S := ⟨_, rfl⟩
        have hS2 : S.size = 2 * k := by rw [← hS, ByteArray.size_append]; omega
        have HX := Lib.hid (show tokens S.data.toList = [⟨P.data.toList, 0, 0⟩, ⟨[], k, k⟩] by
          rw [← hS]; simp only [ByteArray.data_append, Array.toList_append]; exact again_toks k (by omega) (by omega) _ HP.out)
        have kk : (k : Int) ≤ ((2 * k : Nat) : Int) := by omega
        have kc : (k : Int) ≤ (cc : Int) := by omega
        go_wp2_with fail
        refine (implTokens S _).mono ?_
        rw [HX.out]
        rintro e w1 ⟨v0, rfl, t0⟩
        have A1 := Lib.hid t0.any
        have B1 := Lib.hid (TT.out.below.trans (t0.below.mono TT.out.below.size))
        clear t0 hcv TT HC0 kk kc
        obtain ⟨av, cv, rfl, hcells⟩ := A1.out.form
        clear hcells
        obtain ⟨m, hm1⟩ : ∃ m : Nat, 1 + k = m := ⟨_, rfl⟩
        have hmi : (1 : Int) + (k : Int) = (m : Int) := by omega
        have hm := zeros_made m w1 (by omega)
        have hz := zeros_text m w1
        obtain ⟨Z, hZ⟩ : ∃ Z : ByteArray, (⟨(List.replicate m 0).toArray⟩ : ByteArray) = Z := ⟨_, rfl⟩
        have HZ := Lib.hid (show tokens Z.data.toList = [⟨[0], 0, 0⟩, ⟨[], k, 1⟩] by rw [← hZ, ← hm1]; exact zeros_toks k (by omega) (by omega))
        rw [hZ] at hz
        have B2 := Lib.hid (B1.out.alloc B1.out.size (zerosObj m))
        have A2 := Lib.hid (A1.out.later ((Below.refl _ w1).alloc (Nat.le_refl _) (zerosObj m)))
        clear hZ hm1 A1 B1
        go_wp2_with fail
        refine (implTokens Z _).mono ?_
        rw [HZ.out]
        rintro e w2 ⟨v1, rfl, t1⟩
        have A3 := Lib.hid (A2.out.later t1.below)
        have Z3 := Lib.hid t1.any
        have B3 := Lib.hid (B2.out.trans (t1.below.mono B2.out.size))
        clear t1 hm hz A2 B2
        obtain ⟨az, cz, rfl, hcells⟩ := Z3.out.form
        clear hcells
        go_wp2_with fail
        refine (specTokens S _).mono ?_
        rw [HX.out]
        rintro e w3 ⟨v2, rfl, t2⟩
        have A4 := Lib.hid (A3.out.later t2.below)
        have Z4 := Lib.hid (Z3.out.later t2.below)
        have S4 := Lib.hid t2.any
        have B4 := Lib.hid (B3.out.trans (t2.below.mono B3.out.size))
        clear t2 A3 Z3 B3
        go_wp2_with fail
        refine (sameTokens_same _ v2 _ (by simp) _ A4.out S4.out).mono ?_
        rintro e w4 ⟨rfl, n4, rfl⟩
        have A5 := Lib.hid (A4.out.later (below_draws n4))
        have Z5 := Lib.hid (Z4.out.later (below_draws n4))
        have B5 := Lib.hid (B4.out.trans (below_draws n4))
        generalize w3.drewN n4 = w4 at *
        clear A4 Z4 B4 S4
        obtain ⟨av', cv', hv, hca⟩ := A5.out.form
        cases hv
        obtain ⟨az', cz', hv, hcz⟩ := Z5.out.form
        cases hv
        obtain ⟨g1, rfl, hg1, hnc1, c0, _, _⟩ := hca 0 _ rfl
        obtain ⟨g1', hge, _, _, d0, d1, d2⟩ := hca 1 _ rfl
        cases hge
        obtain ⟨g2, rfl, hg2, hnc2, e0, _, _⟩ := hcz 0 _ rfl
        obtain ⟨g2', hge, _, _, f0, f1, f2⟩ := hcz 1 _ rfl
        cases hge
        rw [of_list rfl] at c0
        clear hca hcz
        go_wp2_with fail
        go_ret
        exact ⟨rfl, B5.out⟩
  · go_enter Try.func6, Try.ntmps6
    go_wp2_with fail
    refine (big_yes a0 len0 cap0 _ hbig).mono ?_
    rintro e w1 ⟨rfl, rfl⟩
    go_wp2
    go_ret
    exact ⟨rfl, Below.refl _ _⟩
end Go.Proofs.Ytjgdjpjafhllhaa
