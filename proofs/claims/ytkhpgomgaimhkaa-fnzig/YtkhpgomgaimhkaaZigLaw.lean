/- The walk of the law FnZig. -/
import Derived.Test.YtkhpgomgaimhkaaAt
import Derived.Test.YtkhpgomgaimhkaaBig
import Derived.Test.YtkhpgomgaimhkaaZig
import Derived.Test.YtkhpgomgaimhkaaDrawZig
namespace Go.Proofs.Ytkhpgomgaimhkaa
open Go.RowKit
set_option linter.unusedVariables false

theorem zag_zig (n : Int) (h1 : -1000000000 ≤ n) (h2 : n ≤ 1000000000) : zag (zig n) = n := by unfold zag zig; split <;> (try split) <;> (try split) <;> (try split) <;> omega
theorem zig_zag (n : Int) (h1 : 0 ≤ n) (h2 : n ≤ 2000000000) : zig (zag n) = n := by unfold zag zig; split <;> (try split) <;> (try split) <;> (try split) <;> omega
theorem zig_up (k : Int) (h1 : 0 ≤ k) (h2 : k ≤ 1000000) : zig k = 2 * k := by unfold zig; rw [if_neg (by omega), if_neg (by omega)]
theorem zig_down (k : Int) (h1 : 0 ≤ k) (h2 : k ≤ 1000000) : zig (-k - 1) = 2 * k + 1 := by unfold zig; rw [if_neg (by omega), if_pos (by omega)]; omega
theorem zag_up (k : Int) (h1 : 0 ≤ k) (h2 : k ≤ 1000000) : zag (2 * k) = k := by unfold zag; rw [if_neg (by omega), if_neg (by omega)]; omega

set_option maxHeartbeats 1000000 in
set_option maxRecDepth 100000 in
theorem fnZig_walk (a0 : Option Addr) (len0 cap0 : Nat) (z0 : List Int) (w : World) (w0 : IsRow .u8 w a0 len0 cap0 z0) :
    Calls Try.prog 5 #[.slice a0 len0 cap0] w fun e w' => e = .returned (.bool true) ∧ Below w.heap.size w w' := by
  have hr := bytes_of_row w0 w.heap.size (Nat.le_refl _)
  have HR := Lib.hid hr
  clear hr w0
  by_cases hbig : len0 ≤ 1048576
  · go_enter Try.func5, Try.ntmps5
    go_wp2_with fail
    refine (big_no a0 len0 cap0 _ hbig).mono ?_
    rintro e w1 ⟨rfl, rfl⟩
    go_wp2_with fail
    refine (drawZig_at a0 len0 cap0 z0 _ HR.out).mono ?_
    rintro e w1 ⟨n, hn, rfl, hb⟩
    have R1 := Lib.hid (below_bytes HR.out hb)
    have B1 := Lib.hid hb
    clear hb hn HR
    go_wp2_with fail
    refine (drawZag_at a0 len0 cap0 z0 _ R1.out).mono ?_
    rintro e w2 ⟨m, hm, rfl, hb⟩
    have R2 := Lib.hid (below_bytes R1.out hb)
    have B2 := Lib.hid (B1.out.trans (hb.mono B1.out.size))
    clear hb hm R1 B1
    go_wp2_with fail
    refine (implZig n _).mono ?_
    rintro e w3 ⟨rfl, rfl⟩
    go_wp2_with fail
    refine (implZag m _).mono ?_
    rintro e w3 ⟨rfl, rfl⟩
    go_wp2_with fail
    refine (specZig n _).mono ?_
    rintro e w3 ⟨rfl, rfl⟩
    have HZ1 := Lib.hid (zag_zig n)
    have HZ2 := Lib.hid (zig_zag m)
    go_wp2_with fail
    refine (specZag m _).mono ?_
    rintro e w3 ⟨rfl, rfl⟩
    go_wp2_with fail
    refine (at_some a0 len0 cap0 z0 0 _ _ R2.out hbig (by omega)).mono ?_
    rintro e w3 ⟨x0, h0, rfl, rfl⟩
    go_wp2_with fail
    refine (at_some a0 len0 cap0 z0 1 _ _ R2.out hbig (by omega)).mono ?_
    rintro e w3 ⟨x1, h1, rfl, rfl⟩
    obtain ⟨k, hk⟩ : ∃ k : Int, (x0 : Int) * 1000 + x1 = k := ⟨_, rfl⟩
    have k0 : 0 ≤ k := by omega
    have k1 : k ≤ 1000000 := by omega
    obtain ⟨Z, hZ⟩ : ∃ Z, zig n = Z := ⟨_, rfl⟩
    obtain ⟨G, hG⟩ : ∃ G, zag m = G := ⟨_, rfl⟩
    rw [hZ] at HZ1 ⊢
    rw [hG] at HZ2 ⊢
    have HK1 := Lib.hid (zig_up k k0 k1)
    have HK2 := Lib.hid (zig_down k k0 k1)
    have HK3 := Lib.hid (zag_up k k0 k1)
    clear hZ hG h0 h1 R2
    by_cases n1 : -1000000000 ≤ n
    · by_cases n2 : n ≤ 1000000000
      · by_cases m1 : 0 ≤ m
        · by_cases m2 : m ≤ 2000000000
          · go_wp2_with fail
            refine (implZag Z _).mono ?_
            rw [HZ1.out n1 n2]
            rintro e w3 ⟨rfl, rfl⟩
            go_wp2_with fail
            refine (implZig G _).mono ?_
            rw [HZ2.out m1 m2]
            rintro e w3 ⟨rfl, rfl⟩
            go_wp2_with fail
            refine (implZig k _).mono ?_
            rw [HK1.out]
            rintro e w3 ⟨rfl, rfl⟩
            go_wp2_with fail
            refine (implZig (-k - 1) _).mono ?_
            rw [HK2.out]
            rintro e w3 ⟨rfl, rfl⟩
            go_wp2_with fail
            refine (implZag (2 * k) _).mono ?_
            rw [HK3.out]
            rintro e w3 ⟨rfl, rfl⟩
            go_wp2
            go_ret
            exact ⟨rfl, B2.out⟩
          · go_wp2_with fail
            refine (implZag Z _).mono ?_
            rw [HZ1.out n1 n2]
            rintro e w3 ⟨rfl, rfl⟩
            go_wp2_with fail
            refine (implZig k _).mono ?_
            rw [HK1.out]
            rintro e w3 ⟨rfl, rfl⟩
            go_wp2_with fail
            refine (implZig (-k - 1) _).mono ?_
            rw [HK2.out]
            rintro e w3 ⟨rfl, rfl⟩
            go_wp2_with fail
            refine (implZag (2 * k) _).mono ?_
            rw [HK3.out]
            rintro e w3 ⟨rfl, rfl⟩
            go_wp2
            go_ret
            exact ⟨rfl, B2.out⟩
        · go_wp2_with fail
          refine (implZag Z _).mono ?_
          rw [HZ1.out n1 n2]
          rintro e w3 ⟨rfl, rfl⟩
          go_wp2_with fail
          refine (implZig k _).mono ?_
          rw [HK1.out]
          rintro e w3 ⟨rfl, rfl⟩
          go_wp2_with fail
          refine (implZig (-k - 1) _).mono ?_
          rw [HK2.out]
          rintro e w3 ⟨rfl, rfl⟩
          go_wp2_with fail
          refine (implZag (2 * k) _).mono ?_
          rw [HK3.out]
          rintro e w3 ⟨rfl, rfl⟩
          go_wp2
          go_ret
          exact ⟨rfl, B2.out⟩
      · by_cases m1 : 0 ≤ m
        · by_cases m2 : m ≤ 2000000000
          · go_wp2_with fail
            refine (implZig G _).mono ?_
            rw [HZ2.out m1 m2]
            rintro e w3 ⟨rfl, rfl⟩
            go_wp2_with fail
            refine (implZig k _).mono ?_
            rw [HK1.out]
            rintro e w3 ⟨rfl, rfl⟩
            go_wp2_with fail
            refine (implZig (-k - 1) _).mono ?_
            rw [HK2.out]
            rintro e w3 ⟨rfl, rfl⟩
            go_wp2_with fail
            refine (implZag (2 * k) _).mono ?_
            rw [HK3.out]
            rintro e w3 ⟨rfl, rfl⟩
            go_wp2
            go_ret
            exact ⟨rfl, B2.out⟩
          · go_wp2_with fail
            refine (implZig k _).mono ?_
            rw [HK1.out]
            rintro e w3 ⟨rfl, rfl⟩
            go_wp2_with fail
            refine (implZig (-k - 1) _).mono ?_
            rw [HK2.out]
            rintro e w3 ⟨rfl, rfl⟩
            go_wp2_with fail
            refine (implZag (2 * k) _).mono ?_
            rw [HK3.out]
            rintro e w3 ⟨rfl, rfl⟩
            go_wp2
            go_ret
            exact ⟨rfl, B2.out⟩
        · go_wp2_with fail
          refine (implZig k _).mono ?_
          rw [HK1.out]
          rintro e w3 ⟨rfl, rfl⟩
          go_wp2_with fail
          refine (implZig (-k - 1) _).mono ?_
          rw [HK2.out]
          rintro e w3 ⟨rfl, rfl⟩
          go_wp2_with fail
          refine (implZag (2 * k) _).mono ?_
          rw [HK3.out]
          rintro e w3 ⟨rfl, rfl⟩
          go_wp2
          go_ret
          exact ⟨rfl, B2.out⟩
    · by_cases m1 : 0 ≤ m
      · by_cases m2 : m ≤ 2000000000
        · go_wp2_with fail
          refine (implZig G _).mono ?_
          rw [HZ2.out m1 m2]
          rintro e w3 ⟨rfl, rfl⟩
          go_wp2_with fail
          refine (implZig k _).mono ?_
          rw [HK1.out]
          rintro e w3 ⟨rfl, rfl⟩
          go_wp2_with fail
          refine (implZig (-k - 1) _).mono ?_
          rw [HK2.out]
          rintro e w3 ⟨rfl, rfl⟩
          go_wp2_with fail
          refine (implZag (2 * k) _).mono ?_
          rw [HK3.out]
          rintro e w3 ⟨rfl, rfl⟩
          go_wp2
          go_ret
          exact ⟨rfl, B2.out⟩
        · go_wp2_with fail
          refine (implZig k _).mono ?_
          rw [HK1.out]
          rintro e w3 ⟨rfl, rfl⟩
          go_wp2_with fail
          refine (implZig (-k - 1) _).mono ?_
          rw [HK2.out]
          rintro e w3 ⟨rfl, rfl⟩
          go_wp2_with fail
          refine (implZag (2 * k) _).mono ?_
          rw [HK3.out]
          rintro e w3 ⟨rfl, rfl⟩
          go_wp2
          go_ret
          exact ⟨rfl, B2.out⟩
      · go_wp2_with fail
        refine (implZig k _).mono ?_
        rw [HK1.out]
        rintro e w3 ⟨rfl, rfl⟩
        go_wp2_with fail
        refine (implZig (-k - 1) _).mono ?_
        rw [HK2.out]
        rintro e w3 ⟨rfl, rfl⟩
        go_wp2_with fail
        refine (implZag (2 * k) _).mono ?_
        rw [HK3.out]
        rintro e w3 ⟨rfl, rfl⟩
        go_wp2
        go_ret
        exact ⟨rfl, B2.out⟩
  · go_enter Try.func5, Try.ntmps5
    go_wp2_with fail
    refine (big_yes a0 len0 cap0 _ hbig).mono ?_
    rintro e w1 ⟨rfl, rfl⟩
    go_wp2
    go_ret
    exact ⟨rfl, Below.refl _ _⟩
end Go.Proofs.Ytkhpgomgaimhkaa
