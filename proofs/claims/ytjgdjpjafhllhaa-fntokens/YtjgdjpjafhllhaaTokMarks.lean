/- The laws' marks on lists of tokens. -/
import Derived.Test.YtjgdjpjafhllhaaTokEq
import Derived.Test.YtjgdjpjafhllhaaMarkText
namespace Go.Proofs.Ytjgdjpjafhllhaa
open Go.RowKit
set_option linter.unusedVariables false

/-- A token that is marked from a number on. -/
def mTok (m : Nat) : Tok := ⟨109 :: Lib.decDigits m, m + 1, m + 2⟩
theorem mTok_cells (m : Nat) : tokCells (mTok m) = [.string (mk m), .int .i64 ((m : Int) + 1), .int .i64 ((m : Int) + 1 + 1)] := by
  unfold tokCells mTok mk
  simp
  omega
/-- The marked tokens from a number on. -/
def mToks (k n : Nat) : List Tok := (List.range n).map fun j => mTok (k + 3 * j)
theorem mToks_at (k n j : Nat) (h : j < n) : (mToks k n)[j]? = some (mTok (k + 3 * j)) := by simp [mToks, h]
theorem mToks_len (k n : Nat) : (mToks k n).length = n := by simp [mToks]
theorem set_tok (y : Tok) (a b c : Value) (hy : tokCells y = [a, b, c]) : ∀ (ys : List Tok) (i : Nat), i < ys.length → (((ys.flatMap tokCells).set (i * 3) a).set (i * 3 + 1) b).set (i * 3 + 2) c = (ys.set i y).flatMap tokCells
  | [], i, h => by simp at h
  | t :: ts, 0, _ => by
    rw [List.set_cons_zero, List.flatMap_cons, List.flatMap_cons, hy]
    rfl
  | t :: ts, i + 1, h => by
    have ih := set_tok y a b c hy ts i (by simpa using h)
    rw [List.set_cons_succ, List.flatMap_cons, List.flatMap_cons, ← ih]
    rw [show (i + 1) * 3 = i * 3 + 1 + 1 + 1 by omega]
    rfl
theorem mToks_step (k i : Nat) (xs : List Tok) (h : i < xs.length) : (mToks k i ++ xs.drop i).set i (mTok (k + 3 * i)) = mToks k (i + 1) ++ xs.drop (i + 1) := by
  apply List.ext_getElem?
  intro j
  rw [List.getElem?_set]
  by_cases hij : i = j
  · subst hij
    rw [if_pos rfl, if_pos (by simp [mToks_len]; omega)]
    rw [List.getElem?_append, if_pos (by rw [mToks_len]; omega), mToks_at _ _ _ (by omega)]
  · rw [if_neg hij]
    simp only [List.getElem?_append, mToks_len, List.getElem?_drop]
    by_cases h1 : j < i
    · rw [if_pos h1, if_pos (by omega), mToks_at _ _ _ h1, mToks_at _ _ _ (by omega)]
    · rw [if_neg h1, if_neg (by omega)]
      congr 1
      omega
section
variable {w : World} {b e n g cap : Nat} {xs : List Value}
theorem row3_cell (h : w.ownsRow b e 3 (.slice (some ⟨g, 0, none⟩) n cap) n xs) (j : Nat) (hj : j < n * 3) : w.cell? ⟨g, j, none⟩ = xs[j]? ∧ w.frozen? ⟨g, j, none⟩ = false := by
  rcases h.2 with ⟨h0, _⟩ | ⟨g', cap', cur, h1, _, hc, hn, _, hs, ht⟩
  · cases h0
  · cases h1
    refine ⟨?_, by simp [World.frozen?, hc]⟩
    have : w.cell? ⟨g, j, none⟩ = cur[j]? := by simp [World.cell?, hc]
    rw [this, ← ht, List.getElem?_take, if_pos (by omega)]
    simp
theorem row3_set (h : w.ownsRow b e 3 (.slice (some ⟨g, 0, none⟩) n cap) n xs) (j : Nat) (u : Value) : (w.setCell ⟨g, j, none⟩ u).ownsRow b e 3 (.slice (some ⟨g, 0, none⟩) n cap) n (xs.set j u) := by
  refine ⟨by rw [List.length_set]; exact h.1, ?_⟩
  rcases h.2 with ⟨h0, _⟩ | ⟨g', cap', cur, h1, hb, hc, hn, hm, hs, ht⟩
  · cases h0
  · cases h1
    refine .inr ⟨g, cap, cur.setIfInBounds j u, rfl, hb, set_block u hc, hn, hm, by simpa using hs, ?_⟩
    rw [Array.toList_setIfInBounds, List.take_set, ht]
theorem row3_some (h : w.ownsRow b e 3 (.slice (some ⟨g, 0, none⟩) n cap) n xs) (j : Nat) (hj : j < n * 3) : ∃ u, w.cell? ⟨g, j, none⟩ = some u := by
  rw [(row3_cell h j hj).1]
  have := h.1
  exact ⟨_, List.getElem?_eq_getElem (by omega)⟩
theorem row3_shape {v : Value} (h : w.ownsRow b e 3 v n xs) : (v = .slice none 0 0 ∧ n = 0) ∨ ∃ g cap, v = .slice (some ⟨g, 0, none⟩) n cap ∧ n ≤ cap := by
  rcases h.2 with h2 | ⟨g, cap, cur, h1, _, _, h4, _⟩
  · exact .inl h2
  · exact .inr ⟨g, cap, h1, h4⟩
end

set_option maxHeartbeats 2000000 in
theorem markTokenS_at (v : Value) (k b : Nat) (xs : List Tok) (w : World) (h : w.ownsRow b 29 3 v xs.length (xs.flatMap tokCells)) (hk : 1 ≤ k) (hl : k + 3 * xs.length ≤ 1000000000) (hb : b ≤ w.heap.size) :
    Calls Try.prog 27 #[v, .int .i64 k] w fun e w' => e = .returned (.int .i64 (k + 3 * xs.length : Nat)) ∧ w'.ownsRow b 29 3 v xs.length ((mToks k xs.length).flatMap tokCells) ∧ Below b w w' := by
  rcases row3_shape h with ⟨rfl, h0⟩ | ⟨g, cap, rfl, hcap⟩
  · have hx : xs = [] := List.eq_nil_of_length_eq_zero h0
    subst hx
    go_enter Try.func27, Try.ntmps27
    go_wp2
    go_loop [1, 5] (fun kk i => kk = .int .i64 k ∧ i = .int .i64 0) (fun _ _ => 0)
    case atStart => exact ⟨rfl, rfl⟩
    case round =>
      obtain ⟨rfl, rfl⟩ := hrel
      go_wp2
      go_ret
      exact ⟨by simp, by simpa [mToks] using h, Below.refl _ _⟩
  · have HH := Lib.hid h
    clear h
    obtain ⟨n, hn⟩ : ∃ n, xs.length = n := ⟨_, rfl⟩
    go_enter Try.func27, Try.ntmps27
    rw [hn]
    have HN := Lib.hid hn
    rw [hn] at hl hcap
    clear hn
    go_wp2
    go_loopw [1, 5] (fun kk ii wr => ∃ i m : Nat, i ≤ n ∧ 1 ≤ m ∧ m + 3 * (n - i) ≤ 1000000000 ∧ Hid (m = k + 3 * i) ∧ ii = .int .i64 i ∧ kk = .int .i64 m ∧ wr.ownsRow b 29 3 (.slice (some ⟨g, 0, none⟩) n cap) n ((mToks k i ++ xs.drop i).flatMap tokCells) ∧ Below b w wr) (fun _ ii _ => n - (intOf ii).toNat)
    case atStart => exact ⟨0, k, Nat.zero_le _, hk, by omega, rfl, rfl, rfl, by have := HH.out; rw [HN.out] at this; simpa [mToks] using this, Below.refl _ _⟩
    case round =>
      obtain ⟨i, m, hi, hm1, hm2, HM, rfl, rfl, hrow, hbel⟩ := hrel
      have RR := Lib.hid (And.intro hrow hbel)
      have hgo := hrow.lt g rfl
      clear hrow hbel
      by_cases hlt : i < n
      · have i1 : (i : Int) < (n : Int) := by omega
        go_wp2_with fail
        refine (markText_at m _ (by omega) (by omega)).mono ?_
        rintro e w1 ⟨rfl, hb1⟩
        have r1 := RR.out.1.kept (w' := w1) (row := none) ⟨hb1.os, hb1.tape, hb1.output, hb1.size, fun j hj _ => hb1.block j hj⟩ (Or.inr (by simp [Value.ownBlock]))
        have r2 := row3_set r1 (i * 3) (.string (mk m))
        have r3 := row3_set r2 (i * 3 + 1) (.int .i64 ((m : Int) + 1))
        have r4 := row3_set r3 (i * 3 + 2) (.int .i64 ((m : Int) + 1 + 1))
        rw [set_tok (mTok m) _ _ _ (mTok_cells m) _ i (by rw [List.length_append, mToks_len, List.length_drop, HN.out]; omega)] at r4
        obtain ⟨u1, hu1⟩ := row3_some r1 (i * 3) (by omega)
        have hf1 := (row3_cell r1 (i * 3) (by omega)).2
        obtain ⟨u2, hu2⟩ := row3_some r2 (i * 3 + 1) (by omega)
        have hf2 := (row3_cell r2 (i * 3 + 1) (by omega)).2
        obtain ⟨u3, hu3⟩ := row3_some r3 (i * 3 + 2) (by omega)
        have hf3 := (row3_cell r3 (i * 3 + 2) (by omega)).2
        have HX := Lib.hid (And.intro r4 hb1)
        clear r1 r2 r3 r4 hb1
        go_wp2
        go_roundw
        case rel =>
          have hs := HX.out.1
          rw [HM.out, mToks_step k i xs (by rw [HN.out]; exact hlt)] at hs
          exact ⟨i + 1, m + 3, by omega, by omega, by omega, by have := HM.out; show m + 3 = k + 3 * (i + 1); omega, by go_num, by go_num, by rw [HM.out]; exact hs, (((RR.out.2.trans (HX.out.2.mono (by have := RR.out.2.size; omega))).setCell (p := ⟨g, i * 3, none⟩) hgo.1 _).setCell (p := ⟨g, i * 3 + 1, none⟩) hgo.1 _).setCell (p := ⟨g, i * 3 + 2, none⟩) hgo.1 _⟩
        case measure => simp [intOf]; omega
      · obtain rfl : i = n := by omega
        go_wp2
        go_ret
        refine ⟨ret_int (by rw [HM.out]), ?_, RR.out.2⟩
        have := RR.out.1
        rw [List.drop_of_length_le (by rw [HN.out]; omega), List.append_nil] at this
        exact this

set_option maxHeartbeats 2000000 in
theorem heldTokenS_at (v : Value) (k b n : Nat) (w : World) (h : w.ownsRow b 29 3 v n ((mToks k n).flatMap tokCells)) (hk : 1 ≤ k) (hl : k + 3 * n ≤ 1000000000) :
    Calls Try.prog 28 #[v, .int .i64 k] w fun e w' => e = .returned (.int .i64 (k + 3 * n : Nat)) ∧ Below w.heap.size w w' := by
  rcases row3_shape h with ⟨rfl, rfl⟩ | ⟨g, cap, rfl, hcap⟩
  · go_enter Try.func28, Try.ntmps28
    go_wp2
    go_loop [1, 5] (fun kk i => kk = .int .i64 k ∧ i = .int .i64 0) (fun _ _ => 0)
    case atStart => exact ⟨rfl, rfl⟩
    case round =>
      obtain ⟨rfl, rfl⟩ := hrel
      go_wp2
      go_ret
      exact ⟨by simp, Below.refl _ _⟩
  · have HH := Lib.hid h
    have hgo := h.lt g rfl
    clear h
    go_enter Try.func28, Try.ntmps28
    go_wp2
    go_loopw [1, 5] (fun kk ii wr => ∃ i m : Nat, i ≤ n ∧ 1 ≤ m ∧ m + 3 * (n - i) ≤ 1000000000 ∧ Hid (m = k + 3 * i) ∧ ii = .int .i64 i ∧ kk = .int .i64 m ∧ Below w.heap.size w wr) (fun _ ii _ => n - (intOf ii).toNat)
    case atStart => exact ⟨0, k, Nat.zero_le _, hk, by omega, rfl, rfl, rfl, Below.refl _ _⟩
    case round =>
      obtain ⟨i, m, hi, hm1, hm2, HM, rfl, rfl, hbel⟩ := hrel
      have RR := Lib.hid hbel
      by_cases hlt : i < n
      · have i1 : (i : Int) < (n : Int) := by omega
        have hall : ∀ j, j < 3 → w.cell? ⟨g, i * 3 + j, none⟩ = (tokCells (mTok m))[j]? := fun j hj => by
          rw [(row3_cell HH.out (i * 3 + j) (by omega)).1, HM.out]
          exact tok_cell _ i j _ (mToks_at k n i hlt) hj
        rw [mTok_cells] at hall
        have c0 : wr.cell? ⟨g, i * 3, none⟩ = some (.string (mk m)) := (hbel.cell (p := ⟨g, i * 3, none⟩) hgo.2).trans (hall 0 (by omega))
        have c1 : wr.cell? ⟨g, i * 3 + 1, none⟩ = some (.int .i64 ((m : Int) + 1)) := (hbel.cell (p := ⟨g, i * 3 + 1, none⟩) hgo.2).trans (hall 1 (by omega))
        have c2 : wr.cell? ⟨g, i * 3 + 2, none⟩ = some (.int .i64 ((m : Int) + 1 + 1)) := (hbel.cell (p := ⟨g, i * 3 + 2, none⟩) hgo.2).trans (hall 2 (by omega))
        have hgw : g < wr.heap.size := Nat.lt_of_lt_of_le hgo.2 hbel.size
        clear hall hbel
        go_wp2
        go_region_held3 (fun w' => w'.cell? ⟨g, i * 3, none⟩ = some (.string (mk m))) (first | exact c0 | exact (hb1.cell (p := ⟨g, i * 3, none⟩) hgw).trans c0)
          (first | (go_at_call 41; refine (markText_at m _ (by omega) (by omega)).mono ?_; rintro e w1 ⟨rfl, hb1⟩))
        have HB1 := Lib.hid (RR.out.drew.trans (hb1.mono (by have := RR.out.size; simpa using this)))
        have d1 : w1.cell? ⟨g, i * 3 + 1, none⟩ = some (.int .i64 ((m : Int) + 1)) := (hb1.cell (p := ⟨g, i * 3 + 1, none⟩) hgw).trans c1
        have d2 : w1.cell? ⟨g, i * 3 + 2, none⟩ = some (.int .i64 ((m : Int) + 1 + 1)) := (hb1.cell (p := ⟨g, i * 3 + 2, none⟩) hgw).trans c2
        clear hb1 c0 c1 c2
        go_wp2
        go_roundw
        case rel => exact ⟨i + 1, m + 3, by omega, by omega, by omega, by have := HM.out; show m + 3 = k + 3 * (i + 1); omega, by go_num, by go_num, HB1.out⟩
        case measure => simp [intOf]; omega
      · obtain rfl : i = n := by omega
        go_wp2
        go_ret
        exact ⟨ret_int (by rw [HM.out]), RR.out⟩
end Go.Proofs.Ytjgdjpjafhllhaa
