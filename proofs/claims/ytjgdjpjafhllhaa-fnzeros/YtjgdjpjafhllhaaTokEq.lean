/- The laws' comparisons of lists of tokens. -/
import Derived.Test.YtjgdjpjafhllhaaRowsT
import Derived.BigQuiet
import Derived.Deep.RegionHeld3
namespace Go.Proofs.Ytjgdjpjafhllhaa
open Go.RowKit
set_option linter.unusedVariables false

/-- Tokens that lie in a row, whoever made it. -/
def TokRow (w : World) (v : Value) (xs : List Tok) : Prop := ∃ b, w.ownsRow b 29 3 v xs.length (xs.flatMap tokCells)
theorem TRow.any {w0 w : World} {v : Value} {xs : List Tok} (t : TRow w0 w v xs) : TokRow w v xs := ⟨_, t.row⟩
theorem TokRow.later {w w' : World} {v : Value} {xs : List Tok} (t : TokRow w v xs) (hb : Below w.heap.size w w') : TokRow w' v xs := by
  obtain ⟨b, t⟩ := t
  refine ⟨b, t.1, ?_⟩
  rcases t.2 with h2 | ⟨g, cap, cur, h1, h2, h3, r⟩
  · exact .inl h2
  · exact .inr ⟨g, cap, cur, h1, h2, (hb.block g ((Array.getElem?_eq_some_iff.1 h3).1)).trans h3, r⟩
/-- Its shape, and the cells of each token. -/
theorem TokRow.form {w : World} {v : Value} {xs : List Tok} (t : TokRow w v xs) : ∃ (a : Option Addr) (c : Nat), v = .slice a xs.length c ∧ ∀ k y, xs[k]? = some y → ∃ g, a = some ⟨g, 0, none⟩ ∧ g < w.heap.size ∧ xs.length ≤ c ∧
    w.cell? ⟨g, k * 3, none⟩ = some (.string ⟨y.text.toArray⟩) ∧ w.cell? ⟨g, k * 3 + 1, none⟩ = some (.int .i64 y.len) ∧ w.cell? ⟨g, k * 3 + 2, none⟩ = some (.int .i64 y.far) := by
  obtain ⟨b, t⟩ := t
  rcases t.2 with ⟨h0, hn⟩ | ⟨g, cap, cur, h1, _, h3, hc, _, hs, ht⟩
  · refine ⟨none, 0, by rw [hn]; exact h0, fun k y hk => ?_⟩
    have := (List.getElem?_eq_some_iff.1 hk).1
    omega
  · exact ⟨_, cap, h1, fun k y hk => ⟨g, rfl, (Array.getElem?_eq_some_iff.1 h3).1, hc, list_cells h3 ht k y hk⟩⟩

set_option maxHeartbeats 1000000 in
theorem sameTokens_same (v v' : Value) (xs : List Tok) (hl : xs.length ≤ 1000000) (w : World) (h : TokRow w v xs) (h' : TokRow w v' xs) :
    Calls Try.prog 16 #[v, v'] w fun e w' => e = .returned (.bool true) ∧ ∃ n, w' = w.drewN n := by
  obtain ⟨a, c, rfl, hc⟩ := h.form
  obtain ⟨a', c', rfl, hc'⟩ := h'.form
  obtain ⟨n, hn⟩ : ∃ n, xs.length = n := ⟨_, rfl⟩
  have HC := Lib.hid (And.intro hc hc')
  clear hc hc' h h'
  rw [hn] at HC ⊢
  rw [hn] at hl
  have HN := Lib.hid hn
  clear hn
  go_enter Try.func16, Try.ntmps16
  go_wp2_with fail
  go_loopw [5] (fun ii wr => ∃ i : Nat, i ≤ n ∧ ii = .int .i64 i ∧ ∃ m, wr = w.drewN m) (fun ii _ => n - (intOf ii).toNat)
  case atStart => exact ⟨0, Nat.zero_le _, rfl, 0, rfl⟩
  case round =>
    obtain ⟨i, hi, rfl, m, rfl⟩ := hrel
    by_cases hlt : i < n
    · have hx : ∃ y, xs[i]? = some y := ⟨_, List.getElem?_eq_getElem (by rw [HN.out]; exact hlt)⟩
      obtain ⟨y, hy⟩ := hx
      obtain ⟨g, rfl, hg, hnc, c0, c1, c2⟩ := HC.out.1 i y hy
      obtain ⟨g', rfl, hg', hnc', d0, d1, d2⟩ := HC.out.2 i y hy
      clear hy
      obtain ⟨S, hS⟩ : ∃ S : ByteArray, (⟨y.text.toArray⟩ : ByteArray) = S := ⟨_, rfl⟩
      rw [hS] at c0 d0
      clear hS
      have i1 : (i : Int) < (n : Int) := by omega
      go_wp2_with fail
      go_quiet (fail)
      go_wp2
      go_roundw
      case rel => exact ⟨i + 1, by omega, by go_num, _, rfl⟩
      case measure => simp [intOf]; omega
    · go_wp2
      go_ret
      exact ⟨rfl, m, rfl⟩

set_option maxHeartbeats 1000000 in
theorem eqToken_same (S : ByteArray) (n f : Int) (w : World) :
    Calls Try.prog 40 #[.agg #[.string S, .int .i64 n, .int .i64 f], .agg #[.string S, .int .i64 n, .int .i64 f]] w fun e w' => e = .returned (.bool true) ∧ Below w.heap.size w w' := by
  have hsame : (!S.toList == S.toList) = false := by simp
  go_enter Try.func40, Try.ntmps40
  go_wp2_with fail
  go_ret
  exact ⟨rfl, ((Below.refl _ w).alloc (Nat.le_refl _) _).alloc (by simp) _⟩

set_option maxHeartbeats 1000000 in
theorem eqTokenS_same (v v' : Value) (xs : List Tok) (hl : xs.length ≤ 1000000) (w : World) (h : TokRow w v xs) (h' : TokRow w v' xs) :
    Calls Try.prog 26 #[v, v'] w fun e w' => e = .returned (.bool true) ∧ Below w.heap.size w w' := by
  obtain ⟨a, c, rfl, hc⟩ := h.form
  obtain ⟨a', c', rfl, hc'⟩ := h'.form
  obtain ⟨n, hn⟩ : ∃ n, xs.length = n := ⟨_, rfl⟩
  have HC := Lib.hid (And.intro hc hc')
  clear hc hc' h h'
  rw [hn] at HC ⊢
  rw [hn] at hl
  have HN := Lib.hid hn
  clear hn
  go_enter Try.func26, Try.ntmps26
  go_wp2_with fail
  go_loopw [5] (fun ii wr => ∃ i : Nat, i ≤ n ∧ ii = .int .i64 i ∧ Below w.heap.size w wr) (fun ii _ => n - (intOf ii).toNat)
  case atStart => exact ⟨0, Nat.zero_le _, rfl, Below.refl _ _⟩
  case round =>
    obtain ⟨i, hi, rfl, hbel⟩ := hrel
    have RR := Lib.hid hbel
    by_cases hlt : i < n
    · have hx : ∃ y, xs[i]? = some y := ⟨_, List.getElem?_eq_getElem (by rw [HN.out]; exact hlt)⟩
      obtain ⟨y, hy⟩ := hx
      obtain ⟨g, rfl, hg, hnc, c0, c1, c2⟩ := HC.out.1 i y hy
      obtain ⟨g', rfl, hg', hnc', d0, d1, d2⟩ := HC.out.2 i y hy
      clear hy
      obtain ⟨S, hS⟩ : ∃ S : ByteArray, (⟨y.text.toArray⟩ : ByteArray) = S := ⟨_, rfl⟩
      rw [hS] at c0 d0
      clear hS
      have e0 := (hbel.cell (p := ⟨g, i * 3, none⟩) hg).trans c0
      have e1 := (hbel.cell (p := ⟨g, i * 3 + 1, none⟩) hg).trans c1
      have e2 := (hbel.cell (p := ⟨g, i * 3 + 2, none⟩) hg).trans c2
      have f0 := (hbel.cell (p := ⟨g', i * 3, none⟩) hg').trans d0
      have f1 := (hbel.cell (p := ⟨g', i * 3 + 1, none⟩) hg').trans d1
      have f2 := (hbel.cell (p := ⟨g', i * 3 + 2, none⟩) hg').trans d2
      have i1 : (i : Int) < (n : Int) := by omega
      have hgw : g < wr.heap.size := Nat.lt_of_lt_of_le hg hbel.size
      have hgw' : g' < wr.heap.size := Nat.lt_of_lt_of_le hg' hbel.size
      clear c0 c1 c2 d0 d1 d2 hbel
      go_wp2_with fail
      go_region_held3 (fun w' => w'.cell? ⟨g, i * 3, none⟩ = some (.string S) ∧ w'.cell? ⟨g, i * 3 + 1, none⟩ = some (.int .i64 y.len) ∧ w'.cell? ⟨g, i * 3 + 2, none⟩ = some (.int .i64 y.far) ∧ w'.cell? ⟨g', i * 3, none⟩ = some (.string S) ∧ w'.cell? ⟨g', i * 3 + 1, none⟩ = some (.int .i64 y.len) ∧ w'.cell? ⟨g', i * 3 + 2, none⟩ = some (.int .i64 y.far)) (first | exact ⟨e0, e1, e2, f0, f1, f2⟩ | exact ⟨(hb1.cell (p := ⟨g, i * 3, none⟩) hgw).trans e0, (hb1.cell (p := ⟨g, i * 3 + 1, none⟩) hgw).trans e1, (hb1.cell (p := ⟨g, i * 3 + 2, none⟩) hgw).trans e2, (hb1.cell (p := ⟨g', i * 3, none⟩) hgw').trans f0, (hb1.cell (p := ⟨g', i * 3 + 1, none⟩) hgw').trans f1, (hb1.cell (p := ⟨g', i * 3 + 2, none⟩) hgw').trans f2⟩)
        (first | (go_at_call 40; refine (eqToken_same S y.len y.far _).mono ?_; rintro e w1 ⟨rfl, hb1⟩))
      have HB1 := Lib.hid (RR.out.drew.trans (hb1.mono (by have := RR.out.size; simpa using this)))
      clear hb1
      go_wp2
      go_roundw
      case rel => exact ⟨i + 1, by omega, by go_num, HB1.out⟩
      case measure => simp [intOf]; omega
    · go_wp2
      go_ret
      exact ⟨rfl, RR.out⟩
end Go.Proofs.Ytjgdjpjafhllhaa
