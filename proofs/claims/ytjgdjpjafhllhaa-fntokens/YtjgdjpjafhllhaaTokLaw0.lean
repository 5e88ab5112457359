/- The walk of the law FnExactTokens. -/
import Derived.Test.YtjgdjpjafhllhaaImplTokens
import Derived.Test.YtjgdjpjafhllhaaTokEq
import Derived.Test.YtjgdjpjafhllhaaTokMarks
namespace Go.Proofs.Ytjgdjpjafhllhaa
open Go.RowKit
set_option linter.unusedVariables false

theorem tokens_few (l : List UInt8) : (tokens l).length ≤ 4001 := by
  have h1 := compress_len l
  have h2 : ∀ xs : List Tok, xs.length ≤ (xs.flatMap encTok).length := by
    intro xs
    induction xs with
    | nil => simp
    | cons y ys ih => have := encTok_len y; rw [List.flatMap_cons, List.length_append, List.length_cons]; omega
  have := h2 (tokens l)
  unfold compress at h1
  omega
theorem own_below {w w' : World} {b e n : Nat} {v : Value} {cs : List Value} (h : w.ownsRow b e 3 v n cs) (hb : Below w.heap.size w w') : w'.ownsRow b e 3 v n cs := by
  refine ⟨h.1, ?_⟩
  rcases h.2 with h2 | ⟨g, cap, cur, h1, h2, h3, r⟩
  · exact .inl h2
  · exact .inr ⟨g, cap, cur, h1, h2, (hb.block g ((Array.getElem?_eq_some_iff.1 h3).1)).trans h3, r⟩

set_option maxHeartbeats 2000000 in
theorem fnExactTokens_walk (w : World) (a0 : ByteArray) (w0 : a0.size ≤ maxLen) :
    Calls Try.prog 10 #[.string a0] w fun e w' => e = .returned (.bool true) ∧ Below w.heap.size w w' := by
  by_cases h0 : a0.size ≤ 1048576
  · have hlen := tokens_few a0.data.toList
    obtain ⟨xs, hxs⟩ : ∃ xs, tokens a0.data.toList = xs := ⟨_, rfl⟩
    have HX := Lib.hid hxs
    rw [hxs] at hlen
    clear hxs
    go_enter Try.func10, Try.ntmps10
    go_wp2_with fail
    refine (specTokens a0 _).mono ?_
    rw [HX.out]
    rintro e w1 ⟨v0, rfl, t0⟩
    have Y1 := Lib.hid t0
    clear t0
    go_wp2_with fail
    refine (implTokens a0 _).mono ?_
    rw [HX.out]
    rintro e w2 ⟨v1, rfl, t1⟩
    have A0 := Lib.hid (Y1.out.any.later t1.below)
    have Y2 := Lib.hid t1
    clear t1
    go_wp2_with fail
    refine (eqTokenS_same v1 v0 xs (by omega) _ Y2.out.any A0.out).mono ?_
    rintro e w3 ⟨rfl, b3⟩
    have A3 := Lib.hid (A0.out.later b3)
    have T3 := Lib.hid (Y2.out.later b3)
    clear b3
    go_wp2_with fail
    refine (markTokenS_at v1 1 w1.heap.size xs _ T3.out.row (by omega) (by omega) T3.out.below.size).mono ?_
    rintro e w4 ⟨rfl, r4, b4⟩
    have Y4 := Lib.hid (And.intro r4 (T3.out.below.trans b4))
    clear r4 b4
    go_wp2_with fail
    refine (heldTokenS_at v1 1 _ xs.length _ Y4.out.1 (by omega) (by omega)).mono ?_
    rintro e w5 ⟨rfl, b5⟩
    have Y5 := Lib.hid (And.intro (own_below Y4.out.1 b5) (Y4.out.2.trans (b5.mono Y4.out.2.size)))
    clear b5
    go_wp2_with fail
    refine (implTokens a0 _).mono ?_
    rw [HX.out]
    rintro e w6 ⟨v2, rfl, t6⟩
    have Y6 := Lib.hid (And.intro (own_below Y5.out.1 t6.below) (Y5.out.2.trans (t6.below.mono Y5.out.2.size)))
    have A6 := Lib.hid (Y1.out.any.later Y6.out.2)
    have T6 := Lib.hid t6
    clear t6
    go_wp2_with fail
    refine (eqTokenS_same v2 v0 xs (by omega) _ T6.out.any A6.out).mono ?_
    rintro e w7 ⟨rfl, b7⟩
    have Y7 := Lib.hid (And.intro (own_below Y6.out.1 b7) (Y6.out.2.trans (b7.mono Y6.out.2.size)))
    clear b7
    go_wp2_with fail
    refine (heldTokenS_at v1 1 _ xs.length _ Y7.out.1 (by omega) (by omega)).mono ?_
    rintro e w8 ⟨rfl, b8⟩
    have Y8 := Lib.hid (Y7.out.2.trans (b8.mono Y7.out.2.size))
    clear b8
    go_wp2_with fail
    go_ret
    exact ⟨rfl, Y1.out.below.trans (Y8.out.mono Y1.out.below.size)⟩
  · have h0' : (1048576 : Int) < (a0.size : Int) := by omega
    go_enter Try.func10, Try.ntmps10
    go_wp2
    go_ret
    exact ⟨rfl, Below.refl _ _⟩
end Go.Proofs.Ytjgdjpjafhllhaa
