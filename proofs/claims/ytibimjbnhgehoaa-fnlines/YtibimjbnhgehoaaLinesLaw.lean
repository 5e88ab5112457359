/- The walk of the law FnLines. -/
import Derived.Test.YtibimjbnhgehoaaJoinPure
import Derived.Test.YtibimjbnhgehoaaDrawLW
import Derived.Test.YtibimjbnhgehoaaMarks
import Derived.Test.YtibimjbnhgehoaaBig
namespace Go.Proofs.Ytibimjbnhgehoaa
open Go.RowKit
set_option linter.unusedVariables false

set_option maxHeartbeats 1000000 in
theorem sameTexts_same (v v' : Value) (b b' : Nat) (xs : List ByteArray) (hl : xs.length ≤ 1000000000) (w : World) (h : w.ownsRow b 9 1 v xs.length (xs.map Value.string)) (h' : w.ownsRow b' 9 1 v' xs.length (xs.map Value.string)) :
    Calls Try.prog 15 #[v, v'] w fun e w' => e = .returned (.bool true) ∧ ∃ n, w' = w.drewN n := by
  obtain ⟨n, hn⟩ : ∃ n, xs.length = n := ⟨_, rfl⟩
  rw [hn] at h h' hl
  have HN := Lib.hid hn
  clear hn
  have hs : ∃ a c, v = .slice a n c := by
    rcases row_shape h with ⟨rfl, rfl⟩ | ⟨g, c, rfl, _⟩
    · exact ⟨none, 0, rfl⟩
    · exact ⟨_, _, rfl⟩
  have hs' : ∃ a c, v' = .slice a n c := by
    rcases row_shape h' with ⟨rfl, rfl⟩ | ⟨g, c, rfl, _⟩
    · exact ⟨none, 0, rfl⟩
    · exact ⟨_, _, rfl⟩
  obtain ⟨a, c, rfl⟩ := hs
  obtain ⟨a', c', rfl⟩ := hs'
  have HH := Lib.hid (And.intro h h')
  clear h h'
  go_enter Try.func15, Try.ntmps15
  go_wp2
  go_loopw [5] (fun ii wr => ∃ i : Nat, i ≤ n ∧ ii = .int .i64 i ∧ ∃ m, wr = w.drewN m) (fun ii _ => n - (intOf ii).toNat)
  case atStart => exact ⟨0, Nat.zero_le _, rfl, 0, rfl⟩
  case round =>
    obtain ⟨i, hi, rfl, m, rfl⟩ := hrel
    by_cases hlt : i < n
    · obtain ⟨h1, h2⟩ := HH.out
      rcases row_shape h1 with ⟨_, h0⟩ | ⟨g, cap, e1, _⟩
      · omega
      · rcases row_shape h2 with ⟨_, h0⟩ | ⟨g', cap', e2, _⟩
        · omega
        · cases e1; cases e2
          have c1 := (row_cell h1 i hlt).1
          have c2 := (row_cell h2 i hlt).1
          have hx : (xs.map Value.string)[i]? = some (.string (xs[i]'(by rw [HN.out]; exact hlt))) := by
            rw [List.getElem?_map, List.getElem?_eq_getElem (by rw [HN.out]; exact hlt)]; rfl
          rw [hx] at c1 c2
          generalize (xs[i]'(by rw [HN.out]; exact hlt)) = x at c1 c2
          have i1 : (i : Int) < (n : Int) := by omega
          clear h1 h2 hx
          go_wp2
          go_quiet (fail)
          go_wp2
          go_roundw
          case rel => exact ⟨i + 1, by omega, by go_num, _, rfl⟩
          case measure => simp [intOf]; omega
    · go_wp2
      go_ret
      exact ⟨rfl, m, rfl⟩


theorem Bytes.later {w w' : World} {a : Option Addr} {len : Nat} {zs : List Int} (h : Bytes w w.heap.size a len zs) (hb : Below w.heap.size w w') : Bytes w' w'.heap.size a len zs := by
  refine ⟨h.1, fun k hk => ?_⟩
  obtain ⟨b, off, ha, hlt, hne, hc, hr⟩ := h.2 k hk
  have := hb.size
  exact ⟨b, off, ha, by omega, by omega, (World.cell?_of_block (w := w) (hb.block b hlt)).trans hc, hr⟩

theorem row_later {W W' : World} {b e size n : Nat} {v : Value} {xs : List Value} (h : W.ownsRow b e size v n xs) (hb : Below W.heap.size W W') : W'.ownsRow b e size v n xs := row_below h hb (fun k hk => (h.lt k hk).2)
theorem below_later {w W W' : World} (h : Below w.heap.size w W) (k : Below W.heap.size W W') : Below w.heap.size w W' := h.trans (k.mono h.size)

/-- A place of a list of texts. -/
theorem told_cell {W : World} {b n : Nat} {v : Value} {xs : List ByteArray} (h : W.ownsRow b 9 1 v n (xs.map Value.string)) (hn : xs.length = n) (i : Nat) (hi : i < n) : ∃ g c, v = .slice (some ⟨g, 0, none⟩) n c ∧ W.cell? ⟨g, i, none⟩ = some (.string (xs.getD i ⟨#[]⟩)) := by
  rcases row_shape h with ⟨_, h0⟩ | ⟨g, c, rfl, _⟩
  · omega
  · refine ⟨g, c, rfl, ?_⟩
    rw [(row_cell h i hi).1, List.getElem?_map, List.getElem?_eq_getElem (by omega), List.getD_eq_getElem?_getD, List.getElem?_eq_getElem (by omega)]
    rfl

theorem told_slice {W : World} {b n : Nat} {v : Value} {xs : List Value} (h : W.ownsRow b 9 1 v n xs) : ∃ a c, v = .slice a n c := by
  rcases row_shape h with ⟨rfl, rfl⟩ | ⟨g, c, rfl, _⟩
  · exact ⟨none, 0, rfl⟩
  · exact ⟨_, _, rfl⟩

set_option maxHeartbeats 4000000 in
theorem fnLines_walk (a0 : Option Addr) (len0 cap0 : Nat) (z0 : List Int) (w : World) (w0 : IsRow .u8 w a0 len0 cap0 z0) :
    Calls Try.prog 3 #[.slice a0 len0 cap0] w fun e w' => e = .returned (.bool true) ∧ Below w.heap.size w w' := by
  have hr := bytes_of_row w0 w.heap.size (Nat.le_refl _)
  have HR := Lib.hid hr
  clear hr
  by_cases hbig : len0 ≤ 1048576
  · obtain ⟨s, hs, drawL⟩ := drawLines_fix len0 z0 hbig
    obtain ⟨t, ht, drawW⟩ := drawWords_fix len0 z0 hbig
    have hll := lines_len s
    have hwl := words_len t
    have hjoin := lines_join s
    have hback := words_back t
    have hlm : ∀ x ∈ linesOf s, x.size ≤ 12 := fun x hx => Nat.le_trans (linesOf_mem hx) hs
    have hwm : ∀ x ∈ wordsIn t, x.size ≤ 12 := fun x hx => Nat.le_trans (wordsIn_mem hx).2.2 ht
    obtain ⟨xs, hxs⟩ : ∃ xs, linesOf s = xs := ⟨_, rfl⟩
    obtain ⟨ws, hws⟩ : ∃ ws, wordsIn t = ws := ⟨_, rfl⟩
    rw [hxs] at hll hjoin hlm
    rw [hws] at hwl hback hwm
    have HSP := Lib.hid (And.intro (And.intro (joined_len xs 12 hlm) (getD_len xs 12 hlm)) (And.intro (spaced_len ws 12 hwm) (getD_len ws 12 hwm)))
    have HX := Lib.hid hxs
    have HW := Lib.hid hws
    have HJ := Lib.hid hjoin
    have HK := Lib.hid hback
    have HD := Lib.hid (And.intro drawL drawW)
    clear hxs hws hjoin hback hwm hlm drawL drawW
    go_enter Try.func3, Try.ntmps3
    go_wp2_with fail
    refine (big_no a0 len0 cap0 _ hbig).mono ?_
    rintro e w1 ⟨rfl, rfl⟩
    go_wp2_with fail
    refine (HD.out.1 a0 cap0 _ HR.out).mono ?_
    rintro e w1 ⟨rfl, b1⟩
    have B1 := Lib.hid (And.intro b1 b1.size)
    clear b1
    go_wp2_with fail
    refine (implLines s (by omega) _).mono ?_
    rw [HX.out]
    rintro e w2 ⟨v1, rfl, r1, b2⟩
    obtain ⟨n, hn⟩ : ∃ n, xs.length = n := ⟨_, rfl⟩
    rw [hn] at r1 hll
    have HN := Lib.hid hn
    clear hn
    obtain ⟨a1, c1, rfl⟩ := told_slice r1
    have Y2 := Lib.hid (And.intro r1 (below_later B1.out.1 b2))
    clear r1 b2 B1
    go_wp2_with fail
    go_loopw [5, 6] (fun jj ii wr => ∃ (i : Nat) (j : ByteArray), i ≤ n ∧ ii = .int .i64 i ∧ jj = .string j ∧ Hid (joined xs i = j) ∧ wr = w2) (fun _ ii _ => n - (intOf ii).toNat)
    case atStart => exact ⟨0, _, Nat.zero_le _, rfl, rfl, rfl, rfl⟩
    case round =>
      obtain ⟨i, j, hi, rfl, rfl, HJI, rfl⟩ := hrel
      by_cases hlt : i < n
      · have i1 : (i : Int) < (n : Int) := by omega
        obtain ⟨g, c, hv, hcell⟩ := told_cell Y2.out.1 HN.out i hlt
        cases hv
        have hj := HSP.out.1.1 i
        have hx := HSP.out.1.2 i
        rw [HJI.out] at hj
        by_cases h0 : i = 0
        · subst h0
          have HS : joined xs 1 = j ++ xs.getD 0 ⟨#[]⟩ := by rw [joined, HJI.out]; rfl
          have HS := Lib.hid HS
          generalize xs.getD 0 ⟨#[]⟩ = x at hcell HS hx
          go_wp2_with fail
          go_roundw
          case rel => exact ⟨1, _, by omega, rfl, rfl, HS.out, trivial⟩
          case measure => simp [intOf]; omega
        · have i2 : (0 : Int) < (i : Int) := by omega
          have HS : joined xs (i + 1) = (j ++ ⟨#[10]⟩) ++ xs.getD i ⟨#[]⟩ := by rw [joined, if_neg h0, HJI.out]
          have HS := Lib.hid HS
          generalize xs.getD i ⟨#[]⟩ = x at hcell HS hx
          go_wp2_with fail
          go_roundw
          case rel => exact ⟨i + 1, _, by omega, by go_num, rfl, HS.out, trivial⟩
          case measure => simp [intOf]; omega
      · obtain rfl : i = n := by omega
        obtain rfl : j = s := by rw [← HJI.out, ← HN.out]; exact HJ.out
        clear HJI HJ
        go_wp2_with fail
        refine (HD.out.2 a0 cap0 _ (HR.out.later Y2.out.2)).mono ?_
        rintro e w3 ⟨rfl, b3⟩
        have Y3 := Lib.hid (And.intro (row_later Y2.out.1 b3) (below_later Y2.out.2 b3))
        clear b3
        go_wp2_with fail
        refine (implWords t (by omega) _).mono ?_
        rw [HW.out]
        rintro e w4 ⟨v2, rfl, r2, b4⟩
        obtain ⟨q, hq⟩ : ∃ q, ws.length = q := ⟨_, rfl⟩
        rw [hq] at r2 hwl
        have HQ := Lib.hid hq
        clear hq
        obtain ⟨a2, c2, rfl⟩ := told_slice r2
        have Y4 := Lib.hid (And.intro (row_later Y3.out.1 b4) (And.intro r2 (below_later Y3.out.2 b4)))
        clear r2 b4 Y3
        go_wp2_with fail
        go_loopw [8, 9] (fun jj ii wx => ∃ (i : Nat) (j : ByteArray), i ≤ q ∧ ii = .int .i64 i ∧ jj = .string j ∧ Hid (spaced ws i = j) ∧ wx = w4) (fun _ ii _ => q - (intOf ii).toNat)
        case atStart => exact ⟨0, _, Nat.zero_le _, rfl, rfl, rfl, rfl⟩
        case round =>
          obtain ⟨i', l, hi', rfl, rfl, HLI, rfl⟩ := hrel
          have hj := HSP.out.2.1 i'
          rw [HLI.out] at hj
          by_cases hlt' : i' < q
          · have i1 : (i' : Int) < (q : Int) := by omega
            obtain ⟨g, c, hv, hcell⟩ := told_cell Y4.out.2.1 HQ.out i' hlt'
            cases hv
            have hx := HSP.out.2.2 i'
            have HS : spaced ws (i' + 1) = (l ++ ws.getD i' ⟨#[]⟩) ++ ⟨#[32]⟩ := by rw [spaced, HLI.out]
            have HS := Lib.hid HS
            generalize ws.getD i' ⟨#[]⟩ = x at hcell HS hx
            have hz := ByteArray.size_append (a := l) (b := x)
            go_wp2_with fail
            go_roundw
            case rel => exact ⟨i' + 1, _, by omega, by go_num, rfl, HS.out, trivial⟩
            case measure => simp [intOf]; omega
          · obtain rfl : i' = q := by omega
            have HB : wordsIn l = ws := by rw [← HLI.out, ← HQ.out]; exact HK.out
            have HB := Lib.hid HB
            clear HLI HK
            have hje : (j.toList == j.toList) = true := by simp
            go_wp2_with fail
            refine (specLines j (by omega) _).mono ?_
            rw [HX.out]
            rintro e w5 ⟨v3, rfl, r3, b5⟩
            have Y5 := Lib.hid (And.intro (row_later Y4.out.1 b5) (And.intro (row_later Y4.out.2.1 b5) (And.intro r3 (below_later Y4.out.2.2 b5))))
            clear r3 b5 Y4
            go_wp2_with fail
            refine (sameTexts_same _ v3 _ _ xs (by have := HN.out; omega) _ (by rw [HN.out]; exact Y5.out.1) Y5.out.2.2.1).mono ?_
            rintro e w6 ⟨rfl, d6⟩
            have b6 := draws_below d6 w5.heap.size
            have Y6 := Lib.hid (And.intro (row_later Y5.out.2.1 b6) (below_later Y5.out.2.2.2 b6))
            clear d6 b6 Y5
            go_wp2_with fail
            refine (implWords l (by omega) _).mono ?_
            rw [HB.out]
            rintro e w7 ⟨v4, rfl, r4, b7⟩
            have Y7 := Lib.hid (And.intro (row_later Y6.out.1 b7) (And.intro r4 (below_later Y6.out.2 b7)))
            clear r4 b7 Y6
            go_wp2_with fail
            refine (sameTexts_same v4 _ _ _ ws (by have := HQ.out; omega) _ Y7.out.2.1 (by rw [HQ.out]; exact Y7.out.1)).mono ?_
            rintro e w8 ⟨rfl, d8⟩
            have b8 := draws_below d8 w7.heap.size
            have Y8 := Lib.hid (And.intro (row_later Y7.out.1 b8) (below_later Y7.out.2.2 b8))
            clear d8 b8 Y7
            go_wp2_with fail
            refine (HD.out.2 a0 cap0 _ (HR.out.later Y8.out.2)).mono ?_
            rintro e w9 ⟨rfl, b9⟩
            have Y9 := Lib.hid (And.intro (row_later Y8.out.1 b9) (below_later Y8.out.2 b9))
            clear b9 Y8
            go_wp2_with fail
            refine (specWords t (by omega) _).mono ?_
            rw [HW.out]
            rintro e w10 ⟨v5, rfl, r5, b10⟩
            have Y10 := Lib.hid (And.intro (row_later Y9.out.1 b10) (And.intro r5 (below_later Y9.out.2 b10)))
            clear r5 b10 Y9
            go_wp2_with fail
            refine (sameTexts_same _ v5 _ _ ws (by have := HQ.out; omega) _ (by rw [HQ.out]; exact Y10.out.1) Y10.out.2.1).mono ?_
            rintro e w11 ⟨rfl, d11⟩
            have b11 := draws_below d11 w10.heap.size
            have Y11 := Lib.hid (below_later Y10.out.2.2 b11)
            clear d11 b11 Y10
            go_wp2_with fail
            go_ret
            exact ⟨rfl, Y11.out⟩
  · go_enter Try.func3, Try.ntmps3
    go_wp2_with fail
    refine (big_yes a0 len0 cap0 _ hbig).mono ?_
    rintro e w1 ⟨rfl, rfl⟩
    go_wp2_with fail
    go_ret
    exact ⟨rfl, Below.refl _ _⟩
end Go.Proofs.Ytibimjbnhgehoaa
