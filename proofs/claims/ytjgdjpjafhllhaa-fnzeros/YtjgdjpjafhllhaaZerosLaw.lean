/- The walk of the law FnZeros. -/
import Derived.Test.YtjgdjpjafhllhaaPackLaw
import Derived.Test.YtjgdjpjafhllhaaAt
import Derived.Test.YtjgdjpjafhllhaaZeros
import Derived.Test.YtjgdjpjafhllhaaPerPure
import Derived.Test.YtjgdjpjafhllhaaTokLaw0
namespace Go.Proofs.Ytjgdjpjafhllhaa
open Go.RowKit
set_option linter.unusedVariables false

theorem zeros_count (n : Nat) (h1 : 5 ≤ n) (h2 : n ≤ 2000) : (tokens (List.replicate n 0)).length = 1 + cnt (n - 1) := by
  have h := (per_zeros n (by omega)).count (by simp; omega) (by simp; omega)
  simpa using h

set_option maxHeartbeats 1000000 in
set_option maxRecDepth 100000 in
theorem fnZeros_walk (a0 : Option Addr) (len0 cap0 : Nat) (z0 : List Int) (w : World) (w0 : IsRow .u8 w a0 len0 cap0 z0) :
    Calls Try.prog 8 #[.slice a0 len0 cap0] w fun e w' => e = .returned (.bool true) ∧ Below w.heap.size w w' := by
  have HR := Lib.hid (bytes_of_row w0 w.heap.size (Nat.le_refl _))
  clear w0
  by_cases hbig : len0 ≤ 1048576
  · go_enter Try.func8, Try.ntmps8
    go_wp2_with fail
    refine (big_no a0 len0 cap0 _ hbig).mono ?_
    rintro e w1 ⟨rfl, rfl⟩
    go_wp2_with fail
    refine (at_some a0 len0 cap0 z0 0 _ _ HR.out hbig (by omega)).mono ?_
    rintro e w1 ⟨x, hx, rfl, rfl⟩
    go_wp2_with fail
    refine (at_some a0 len0 cap0 z0 1 _ _ HR.out hbig (by omega)).mono ?_
    rintro e w1 ⟨y, hy, rfl, rfl⟩
    obtain ⟨n, hn⟩ : ∃ n : Nat, 1 + (x * 256 + y) % 2000 = n := ⟨_, rfl⟩
    have hn1 : 1 ≤ n := by omega
    have hn2 : n ≤ 2000 := by omega
    have hni : (1 : Int) + ((x : Int) * 256 + (y : Int)) % 2000 = (n : Int) := by omega
    have hm := zeros_made n w (by omega)
    have hz := zeros_text n w
    obtain ⟨Z, hZ⟩ : ∃ Z : ByteArray, (⟨(List.replicate n 0).toArray⟩ : ByteArray) = Z := ⟨_, rfl⟩
    have HZ := Lib.hid (show Z.data.toList = List.replicate n 0 by rw [← hZ])
    have hZs : Z.size = n := by rw [← hZ]; simp [ByteArray.size]
    rw [hZ] at hz
    clear hZ hn HR
    have hlen := tokens_few Z.data.toList
    obtain ⟨xs, hxs⟩ : ∃ xs, tokens Z.data.toList = xs := ⟨_, rfl⟩
    have HX := Lib.hid hxs
    rw [hxs] at hlen
    have hcnt : 5 ≤ n → xs.length = 1 + ((n - 1) / 67 + if 0 < (n - 1) % 67 then 1 else 0) := fun h5 => by
      have h := zeros_count n h5 hn2
      rw [← HZ.out, hxs] at h
      exact h
    have HCNT := Lib.hid hcnt
    obtain ⟨A, hA, hAs⟩ := a_text (compress Z.data.toList)
    have HA := Lib.hid hA
    have HE := Lib.hid (expand_compress Z.data.toList (by simp; omega))
    have ha9 : A.size ≤ 4001 := by rw [hAs]; exact compress_len _
    have B0 := Lib.hid ((Below.refl w.heap.size w).alloc (Nat.le_refl _) (zerosObj n))
    clear hxs hcnt hA hAs
    go_wp2_with fail
    refine (implTokens Z _).mono ?_
    rw [HX.out]
    rintro e w1 ⟨v0, rfl, t0⟩
    have A1 := Lib.hid t0.any
    have B1 := Lib.hid (B0.out.trans (t0.below.mono B0.out.size))
    clear t0 hm hz
    obtain ⟨av, cv, rfl, _⟩ := A1.out.form
    go_wp2_with fail
    refine (specTokens Z _).mono ?_
    rw [HX.out]
    rintro e w2 ⟨v1, rfl, t1⟩
    have A2 := Lib.hid (A1.out.later t1.below)
    have A3 := Lib.hid t1.any
    have B2 := Lib.hid (B1.out.trans (t1.below.mono B1.out.size))
    clear t1
    go_wp2_with fail
    refine (sameTokens_same _ v1 xs (by omega) _ A2.out A3.out).mono ?_
    rintro e w3 ⟨rfl, n3, rfl⟩
    have B3 := Lib.hid (B2.out.trans (below_draws n3))
    generalize w2.drewN n3 = w3 at *
    obtain ⟨r, hr⟩ : ∃ r : Nat, (n - 1) % 67 = r := ⟨_, rfl⟩
    obtain ⟨q, hq⟩ : ∃ q : Nat, (n - 1) / 67 = q := ⟨_, rfl⟩
    have er : ((n : Int) - 1) % 67 = (r : Int) := by omega
    have eq : ((n : Int) - 1) / 67 = (q : Int) := by omega
    have hq9 : q ≤ 30 := by omega
    have hr9 : r < 67 := by omega
    rw [hr, hq] at HCNT
    clear hr hq
    by_cases hr0 : 0 < r
    · have dr : decide (0 < (r : Int)) = true := by simp; omega
      rw [if_pos hr0] at HCNT
      go_wp2_with fail
      refine (implCompress_as Z A HA.out _).mono ?_
      rintro e w4 ⟨rfl, b4⟩
      have B4 := Lib.hid (B3.out.trans (b4.mono B3.out.size))
      clear b4
      go_wp2_with fail
      refine (implExpand_as A Z true (by omega) (by rw [HA.out]; exact HE.out.1.symm) (by rw [HA.out]; exact HE.out.2.symm) _).mono ?_
      rintro e w5 ⟨rfl, b5⟩
      have B5 := Lib.hid (B4.out.trans (b5.mono B4.out.size))
      clear b5
      have hor : 5 ≤ n ∨ n < 5 := by omega
      go_wp2
      all_goals (go_ret; refine ⟨ret_bool ?_, B5.out⟩; rcases hor with h5 | h5)
      all_goals first | (have := HCNT.out h5; simp; omega) | (simp; omega) | simp
    · have dr : decide (0 < (r : Int)) = false := by simp; omega
      rw [if_neg hr0] at HCNT
      go_wp2_with fail
      refine (implCompress_as Z A HA.out _).mono ?_
      rintro e w4 ⟨rfl, b4⟩
      have B4 := Lib.hid (B3.out.trans (b4.mono B3.out.size))
      clear b4
      go_wp2_with fail
      refine (implExpand_as A Z true (by omega) (by rw [HA.out]; exact HE.out.1.symm) (by rw [HA.out]; exact HE.out.2.symm) _).mono ?_
      rintro e w5 ⟨rfl, b5⟩
      have B5 := Lib.hid (B4.out.trans (b5.mono B4.out.size))
      clear b5
      have hor : 5 ≤ n ∨ n < 5 := by omega
      go_wp2
      all_goals (go_ret; refine ⟨ret_bool ?_, B5.out⟩; rcases hor with h5 | h5)
      all_goals first | (have := HCNT.out h5; simp; omega) | (simp; omega) | simp
  · go_enter Try.func8, Try.ntmps8
    go_wp2_with fail
    refine (big_yes a0 len0 cap0 _ hbig).mono ?_
    rintro e w1 ⟨rfl, rfl⟩
    go_wp2
    go_ret
    exact ⟨rfl, Below.refl _ _⟩
end Go.Proofs.Ytjgdjpjafhllhaa
