/- The walk of the law FnTokens. -/
import Derived.Test.YtjgdjpjafhllhaaPackLaw
import Derived.Test.YtjgdjpjafhllhaaTokLaw0
namespace Go.Proofs.Ytjgdjpjafhllhaa
open Go.RowKit
set_option linter.unusedVariables false

/-- Some tokens are laid; the others lead to the text. -/
def Making (xs : List Tok) (L : List UInt8) (i : Nat) (out : List UInt8) : Prop := Fits out (xs.drop i) ∧ mkAll out (xs.drop i) = L
theorem making_next {xs : List Tok} {L out : List UInt8} {i : Nat} {y : Tok} (h : Making xs L i out) (hy : xs[i]? = some y) : TokOk y ∧ (y.len = 0 ∨ y.far ≤ out.length) ∧ out.length ≤ 2000 ∧ Making xs L (i + 1) (grow out y) := by
  obtain ⟨hi, hxy⟩ := List.getElem?_eq_some_iff.1 hy
  obtain ⟨h1, h2⟩ := h
  rw [List.drop_eq_getElem_cons hi, hxy] at h1 h2
  exact ⟨h1.1, h1.2.1, h1.2.2.1, h1.2.2.2, h2⟩
theorem making_end {xs : List Tok} {L out : List UInt8} {i : Nat} (h : Making xs L i out) (hi : xs.length ≤ i) : out = L := by
  have h2 := h.2
  rw [List.drop_eq_nil_of_le hi] at h2
  exact h2

/-- The token in its variable, while bytes are put behind. -/
def KeptT (wi : World) (r : Nat) (Y : ByteArray) (y : Tok) : Prop := wi.heap[r]? = some (.cells #[.string Y, .int .i64 y.len, .int .i64 y.far] 29 (0, 0))
theorem kept_t {w w2 w3 : World} {v : Value} {out : List UInt8} {Y : ByteArray} {y : Tok} (t : BRow w w2 v out) (hg : (w2.alloc (.cells #[.string Y, .int .i64 y.len, .int .i64 y.far] 29)).grownBy w3 v.ownBlock) : KeptT w3 w2.heap.size Y y := by
  have h0 := heap_alloc_new w2 (.cells #[.string Y, .int .i64 y.len, .int .i64 y.far] 29)
  exact (hg.block _ (lt_of_block h0) ((t.alloc _).apart h0 (by decide))).trans h0
theorem KeptT.more {w wi w4 : World} {r : Nat} {v : Value} {X : List UInt8} {Y : ByteArray} {y : Tok} {o : Obj} (h : KeptT wi r Y y) (t : BRow w wi v X) (hg : (wi.alloc o).grownBy w4 v.ownBlock) : KeptT w4 r Y y := by
  have h0 := keep_block h o
  exact (hg.block _ (lt_of_block h0) ((t.alloc _).apart h0 (by decide))).trans h0

set_option maxHeartbeats 4000000 in
set_option maxRecDepth 100000 in
theorem fnTokens_walk (a0 : Option Addr) (len0 cap0 : Nat) (z0 : List Int) (w : World) (w0 : IsRow .u8 w a0 len0 cap0 z0) :
    Calls Try.prog 3 #[.slice a0 len0 cap0] w fun e w' => e = .returned (.bool true) ∧ Below w.heap.size w w' := by
  have HR := Lib.hid (bytes_of_row w0 w.heap.size (Nat.le_refl _))
  clear w0
  by_cases hbig : len0 ≤ 1048576
  · go_enter Try.func3, Try.ntmps3
    go_wp2_with fail
    refine (big_no a0 len0 cap0 _ hbig).mono ?_
    rintro e w1 ⟨rfl, rfl⟩
    go_wp2_with fail
    refine (drawTokens_at a0 len0 cap0 z0 _ HR.out).mono ?_
    rintro e w1 ⟨S, hs, rfl, b1⟩
    have B1 := Lib.hid b1
    clear b1 HR
    have hlen := tokens_few S.data.toList
    obtain ⟨xs, hxs⟩ : ∃ xs, tokens S.data.toList = xs := ⟨_, rfl⟩
    have HX := Lib.hid hxs
    rw [hxs] at hlen
    obtain ⟨n, hn⟩ : ∃ n, xs.length = n := ⟨_, rfl⟩
    rw [hn] at hlen
    have HN := Lib.hid hn
    clear hxs hn
    go_wp2_with fail
    refine (implTokens S _).mono ?_
    rw [HX.out]
    rintro e w2 ⟨v0, rfl, t0⟩
    have A2 := Lib.hid t0.any
    have B2 := Lib.hid (B1.out.trans (t0.below.mono B1.out.size))
    clear t0 B1
    have hform := A2.out.form
    rw [HN.out] at hform
    obtain ⟨av, cv, rfl, hcells⟩ := hform
    clear hcells
    go_wp2_with fail
    refine (specTokens S _).mono ?_
    rw [HX.out]
    rintro e w3 ⟨v1, rfl, t1⟩
    have A3 := Lib.hid (A2.out.later t1.below)
    have S3 := Lib.hid t1.any
    have B3 := Lib.hid (B2.out.trans (t1.below.mono B2.out.size))
    clear t1 A2 B2
    go_wp2_with fail
    refine (sameTokens_same _ v1 _ (by rw [HN.out]; omega) _ A3.out S3.out).mono ?_
    rintro e w4 ⟨rfl, n4, rfl⟩
    have A4 := Lib.hid (A3.out.later (below_draws n4))
    have B4 := Lib.hid (B3.out.trans (below_draws n4))
    generalize w3.drewN n4 = w4 at *
    clear A3 B3 S3
    have hform := A4.out.form
    rw [HN.out] at hform
    obtain ⟨av', cv', hv, hcells⟩ := hform
    cases hv
    have HC := Lib.hid hcells
    clear hcells A4
    have hll : S.data.toList.length = S.size := by simp
    by_cases h2 : 2000 < S.size
    · have h2' : (2000 : Int) < (S.size : Int) := by omega
      have hn0 : n = 0 := by
        have h := HX.out
        unfold tokens at h
        rw [if_pos (by omega)] at h
        rw [← HN.out, ← h]; rfl
      subst hn0
      clear hll
      go_wp2
      go_ret
      exact ⟨rfl, B4.out⟩
    · have h2' : ¬ (2000 : Int) < (S.size : Int) := by omega
      have HM := Lib.hid (show Making xs S.data.toList 0 [] by
        have h := tokens_make S.data.toList (by omega)
        rw [HX.out] at h
        exact h)
      clear hll
      go_wp2_with fail
      go_loopw [5, 6] (fun v ii wr => ∃ (i : Nat) (out : List UInt8), i ≤ n ∧ ii = .int .i64 i ∧ out.length ≤ 2300 ∧ BRow w4 wr v out ∧ Making xs S.data.toList i out) (fun _ ii _ => n - (intOf ii).toNat)
      case atStart => exact ⟨0, [], Nat.zero_le _, rfl, by simp, brow_made w4, HM.out⟩
      case round =>
        obtain ⟨i, out, hi, rfl, hol, t, hmk⟩ := hrel
        have TT := Lib.hid t
        have HMK := Lib.hid hmk
        obtain ⟨aa, cc, rfl, hcell0⟩ := t.form
        clear t hcell0 HM
        by_cases hin : i < n
        · obtain ⟨y, hy⟩ : ∃ y, xs[i]? = some y := ⟨_, List.getElem?_eq_getElem (by rw [HN.out]; exact hin)⟩
          obtain ⟨g, rfl, hg, hnc, d0, d1, d2⟩ := HC.out i y hy
          have hb := TT.out.below
          have c0 := (hb.cell (p := ⟨g, i * 3, none⟩) hg).trans d0
          have c1 := (hb.cell (p := ⟨g, i * 3 + 1, none⟩) hg).trans d1
          have c2 := (hb.cell (p := ⟨g, i * 3 + 2, none⟩) hg).trans d2
          obtain ⟨hok, hfo, ho2, hnx⟩ := making_next hmk hy
          have HNX := Lib.hid hnx
          have i1 : (i : Int) < (n : Int) := by omega
          clear hb d0 d1 d2 hy hmk hnx HMK
          obtain ⟨Y, hY⟩ : ∃ Y : ByteArray, (⟨y.text.toArray⟩ : ByteArray) = Y := ⟨_, rfl⟩
          rw [hY] at c0
          have HYL := Lib.hid (show Y.data.toList = y.text by rw [← hY])
          have hYl : y.text.length = Y.size := by rw [← hY]; simp [ByteArray.size]
          clear hY
          have hlen67 : y.len ≤ 67 := by rcases hok with h | h <;> omega
          have hY127 : Y.size ≤ 127 := by
            rcases hok with h | h
            · omega
            · rw [h.1] at hYl; simp at hYl; omega
          have HFP := Lib.hid (show 0 < y.len → 1 ≤ y.far ∧ y.far ≤ out.length by rcases hok with h | h <;> omega)
          rcases hok with ⟨k1, k2, k3, k4⟩ | ⟨k1, k2, k3, k4, k5⟩
          · have q1 : (!Y.toList == []) = true := by
              rw [ByteArray.toList_eq, HYL.out]
              cases hyt : y.text with
              | nil => rw [hyt] at k3; simp at k3
              | cons => rfl
            have q2 : (Y.toList == []) = false := by simpa using q1
            have q3 : decide ((127 : Int) < (Y.size : Int)) = false := by simp; omega
            have l0 : (.int .i64 (y.len : Int) : Value) = .int .i64 0 := by rw [k1]; rfl
            have f0 : (.int .i64 (y.far : Int) : Value) = .int .i64 0 := by rw [k2]; rfl
            rw [l0] at c1
            rw [f0] at c2
            clear hfo k4
            go_wp2_with (at_builtin; refine wpList_plain rfl (fun K hK => ?_); refine op_pushS Y _ _ rfl rfl rfl (TT.out.alloc _) (by first | omega | (simp; omega)) ?_; intro v3 w3 t3 hg3; refine hK _ _ ?_; clear hK K; have K3 := Lib.hid (kept_t (y := y) TT.out (by rw [l0, f0]; exact hg3)); have e1 := (tok_block K3.out).2.1; have T3 := Lib.hid t3; clear t3 hg3)
            clear e1 l0 f0 k1 k2 k3 q1 q2 q3 c0 c1 c2
            go_loopw [5, 8] (fun v kk wi => ∃ k : Nat, k ≤ y.len ∧ kk = .int .i64 k ∧ BRow w4 wi v (copyOut (out ++ y.text) y.far k) ∧ KeptT wi wr.heap.size Y y) (fun _ kk _ => y.len - (intOf kk).toNat)
            case atStart => exact ⟨0, by omega, rfl, by have h := T3.out; rw [HYL.out] at h; exact h, K3.out⟩
            case round =>
              obtain ⟨k, hk, rfl, tk, kk⟩ := hrel
              have KK := Lib.hid kk
              have e1 := (tok_block kk).2.1
              have e2 := (tok_block kk).2.2
              have hxl := copyOut_len (out ++ y.text) y.far k
              rw [List.length_append] at hxl
              obtain ⟨X, hX⟩ : ∃ X, copyOut (out ++ y.text) y.far k = X := ⟨_, rfl⟩
              have hX1 : copyOut (out ++ y.text) y.far (k + 1) = X ++ [X.getD (X.length - y.far) 0] := by rw [copyOut, hX]
              rw [hX] at tk hxl
              have HX0 := Lib.hid hX
              have HX1 := Lib.hid hX1
              have TX := Lib.hid tk
              obtain ⟨a', c', rfl, hcell⟩ := tk.form
              have x2 : X.length ≤ 2000 + 194 := by omega
              clear hX hX1 tk kk
              by_cases hkl : k < y.len
              · have k1' : (k : Int) < (y.len : Int) := by omega
                obtain ⟨hf1, hf2⟩ := HFP.out (by omega)
                have x1 : y.far ≤ X.length := by omega
                obtain ⟨g', rfl, hc, hcell⟩ := hcell (X.length - y.far) (by omega)
                obtain ⟨z, hz⟩ : ∃ z, X.getD (X.length - y.far) 0 = z := ⟨_, rfl⟩
                rw [hz] at hcell HX1
                clear hz hxl
                unfold u8v at hcell
                have x3 : ((X.length : Int) - (y.far : Int)).toNat = X.length - y.far := by omega
                have x4 : (X.length : Int) - (y.far : Int) < (X.length : Int) := by omega
                have x5 : (y.far : Int) ≤ (X.length : Int) := by omega
                have x6 : IntKind.i64.wrap ((X.length : Int) - (y.far : Int)) = (X.length : Int) - (y.far : Int) := IntWalk.i64_in _ (by omega)
                go_wp2_with (at_builtin; refine wpList_plain rfl (fun K hK => ?_); refine op_pushL [z] _ _ rfl rfl rfl (one_byte_at _ _ (by first | rfl | simp) rfl) (TX.out.alloc _) (by simp only [List.length_singleton]; omega) ?_; intro v4 w5 t4 hg4; refine hK _ _ ?_; clear hK K; have K4 := Lib.hid (KK.out.more TX.out hg4); have T4 := Lib.hid t4; clear t4 hg4)
                go_roundw
                case rel => exact ⟨k + 1, by omega, by go_num, by rw [HX1.out]; exact T4.out, K4.out⟩
                case measure => simp [intOf]; omega
              · obtain rfl : k = y.len := by omega
                clear hcell e2
                go_wp2_with fail
                go_roundw
                case rel => exact ⟨i + 1, X, by omega, by go_num, by omega, TX.out, by rw [← HX0.out]; exact HNX.out⟩
                case measure => simp [intOf]; omega
          · have hY0 : Y = ⟨#[]⟩ := bytes_ext (by rw [HYL.out, k1])
            subst hY0
            have q4 : decide ((y.len : Int) < 4) = false := by simp; omega
            have q5 : decide ((67 : Int) < (y.len : Int)) = false := by simp; omega
            have q6 : decide ((y.far : Int) < 1) = false := by simp; omega
            have q7 : decide ((out.length : Int) < (y.far : Int)) = false := by simp; omega
            have q8 : decide ((255 : Int) < (y.far : Int)) = false := by simp; omega
            go_wp2_with (at_builtin; refine wpList_plain rfl (fun K hK => ?_); refine op_pushS ⟨#[]⟩ _ _ rfl rfl rfl (TT.out.alloc _) (by first | omega | (simp; omega)) ?_; intro v3 w3 t3 hg3; refine hK _ _ ?_; clear hK K; have K3 := Lib.hid (kept_t (y := y) TT.out hg3); have e1 := (tok_block K3.out).2.1; have T3 := Lib.hid t3; clear t3 hg3)
            clear e1 k1 k2 k3 k4 k5 q4 q5 q6 q7 q8 c0 c1 c2
            go_loopw [5, 8] (fun v kk wi => ∃ k : Nat, k ≤ y.len ∧ kk = .int .i64 k ∧ BRow w4 wi v (copyOut (out ++ y.text) y.far k) ∧ KeptT wi wr.heap.size ⟨#[]⟩ y) (fun _ kk _ => y.len - (intOf kk).toNat)
            case atStart => exact ⟨0, by omega, rfl, by have h := T3.out; rw [HYL.out] at h; exact h, K3.out⟩
            case round =>
              obtain ⟨k, hk, rfl, tk, kk⟩ := hrel
              have KK := Lib.hid kk
              have e1 := (tok_block kk).2.1
              have e2 := (tok_block kk).2.2
              have hxl := copyOut_len (out ++ y.text) y.far k
              rw [List.length_append] at hxl
              obtain ⟨X, hX⟩ : ∃ X, copyOut (out ++ y.text) y.far k = X := ⟨_, rfl⟩
              have hX1 : copyOut (out ++ y.text) y.far (k + 1) = X ++ [X.getD (X.length - y.far) 0] := by rw [copyOut, hX]
              rw [hX] at tk hxl
              have HX0 := Lib.hid hX
              have HX1 := Lib.hid hX1
              have TX := Lib.hid tk
              obtain ⟨a', c', rfl, hcell⟩ := tk.form
              have x2 : X.length ≤ 2000 + 194 := by omega
              clear hX hX1 tk kk
              by_cases hkl : k < y.len
              · have k1' : (k : Int) < (y.len : Int) := by omega
                obtain ⟨hf1, hf2⟩ := HFP.out (by omega)
                have x1 : y.far ≤ X.length := by omega
                obtain ⟨g', rfl, hc, hcell⟩ := hcell (X.length - y.far) (by omega)
                obtain ⟨z, hz⟩ : ∃ z, X.getD (X.length - y.far) 0 = z := ⟨_, rfl⟩
                rw [hz] at hcell HX1
                clear hz hxl
                unfold u8v at hcell
                have x3 : ((X.length : Int) - (y.far : Int)).toNat = X.length - y.far := by omega
                have x4 : (X.length : Int) - (y.far : Int) < (X.length : Int) := by omega
                have x5 : (y.far : Int) ≤ (X.length : Int) := by omega
                have x6 : IntKind.i64.wrap ((X.length : Int) - (y.far : Int)) = (X.length : Int) - (y.far : Int) := IntWalk.i64_in _ (by omega)
                go_wp2_with (at_builtin; refine wpList_plain rfl (fun K hK => ?_); refine op_pushL [z] _ _ rfl rfl rfl (one_byte_at _ _ (by first | rfl | simp) rfl) (TX.out.alloc _) (by simp only [List.length_singleton]; omega) ?_; intro v4 w5 t4 hg4; refine hK _ _ ?_; clear hK K; have K4 := Lib.hid (KK.out.more TX.out hg4); have T4 := Lib.hid t4; clear t4 hg4)
                go_roundw
                case rel => exact ⟨k + 1, by omega, by go_num, by rw [HX1.out]; exact T4.out, K4.out⟩
                case measure => simp [intOf]; omega
              · obtain rfl : k = y.len := by omega
                clear hcell e2
                go_wp2_with fail
                go_roundw
                case rel => exact ⟨i + 1, X, by omega, by go_num, by omega, TX.out, by rw [← HX0.out]; exact HNX.out⟩
                case measure => simp [intOf]; omega
        · obtain rfl : i = n := by omega
          have HO := Lib.hid (show (⟨out.toArray⟩ : ByteArray) = S from of_list (making_end HMK.out (by rw [HN.out]; exact Nat.le_refl _)).symm)
          have hcv := TT.out.str2
          rw [HO.out] at hcv
          clear hmk
          go_wp2
          go_ret
          exact ⟨ret_bool (by simp), B4.out.trans (TT.out.below.mono B4.out.size)⟩
  · go_enter Try.func3, Try.ntmps3
    go_wp2_with fail
    refine (big_yes a0 len0 cap0 _ hbig).mono ?_
    rintro e w1 ⟨rfl, rfl⟩
    go_wp2
    go_ret
    exact ⟨rfl, Below.refl _ _⟩
end Go.Proofs.Ytjgdjpjafhllhaa
