/- Tokens put behind tokens, and where they lie; contract of the program's appendTold. -/
import Derived.Test.YtkomnnijnggbpaaRowsT
import Derived.Test.YtkomnnijnggbpaaPureA
namespace Go.Proofs.Ytkomnnijnggbpaa
open Go.RowKit
set_option linter.unusedVariables false

/-- From one world to a later one no block turned but the row's own; the new row lies there or in a new block. -/
structure Hop (w w' : World) (v v' : Value) : Prop where
  grow : w.grownBy w' v.ownBlock
  loc : v'.ownBlock = v.ownBlock ∨ ∃ k, v'.ownBlock = some k ∧ w.heap.size ≤ k
theorem Hop.refl (w : World) (v : Value) : Hop w w v v := ⟨grown_refl _ _, .inl rfl⟩
theorem Hop.trans {w w1 w2 : World} {v v1 v2 : Value} (h : Hop w w1 v v1) (h1 : Hop w1 w2 v1 v2) : Hop w w2 v v2 := by
  refine ⟨⟨h1.grow.os.trans h.grow.os, h1.grow.tape.trans h.grow.tape, h1.grow.output.trans h.grow.output, Nat.le_trans h.grow.size h1.grow.size, fun k hk hne => ?_⟩, ?_⟩
  · refine (h1.grow.block k (by have := h.grow.size; omega) ?_).trans (h.grow.block k hk hne)
    rcases h.loc with e | ⟨j, e, hj⟩
    · rw [e]; exact hne
    · rw [e]; intro e2; cases e2; omega
  · rcases h1.loc with e | ⟨j, e, hj⟩
    · rw [e]; exact h.loc
    · exact .inr ⟨j, e, Nat.le_trans h.grow.size hj⟩
/-- A block that isn't the row's is neither turned nor the new row's. -/
theorem Hop.other {w w' : World} {v v' : Value} (h : Hop w w' v v') {b : Nat} (hb : b < w.heap.size) (hne : some b ≠ v.ownBlock) : w'.heap[b]? = w.heap[b]? ∧ some b ≠ v'.ownBlock := by
  refine ⟨h.grow.block b hb hne, ?_⟩
  rcases h.loc with e | ⟨j, e, hj⟩
  · rw [e]; exact hne
  · rw [e]; intro e2; cases e2; omega

theorem tok_new (w : World) (y : Tok) {S : ByteArray} {A B : Int} (hS : S.data.toList = y.text) (hA : A = y.len) (hB : B = y.far) : ∀ j u, (tokCells y)[j]? = some u → (w.alloc (.cells #[.string S, .int .i64 A, .int .i64 B] 103)).cell? ((⟨w.heap.size, 0, none⟩ : Addr).add j) = some u := by
  subst hA hB
  have hS' : S = ⟨y.text.toArray⟩ := bytes_ext (by rw [hS])
  subst hS'
  intro j u hj
  have hadd : (⟨w.heap.size, 0, none⟩ : Addr).add j = ⟨w.heap.size, j, none⟩ := by unfold Addr.add; split <;> simp_all
  rw [hadd]
  have hb : (w.alloc (.cells #[.string ⟨y.text.toArray⟩, .int .i64 y.len, .int .i64 y.far] 103)).heap[w.heap.size]? = some (.cells #[.string ⟨y.text.toArray⟩, .int .i64 y.len, .int .i64 y.far] 103 (0, 0)) := by
    show (w.heap.push _)[w.heap.size]? = _
    simp
  simp only [World.cell?, hb]
  simpa [tokCells] using hj

/-- One token more; the token's own cells may lie in any block that reads so. -/
theorem op_pushT {w0 w : World} {v : Value} {xs : List Tok} (y : Tok) {o : Oper} {act : Act} {K : Act → World → Prop} {Q : Exit → Act → World → Prop} (s x : Operand)
    (hop : o.op = .call { callee := .builtin .append, args := #[s, x], argTypes := #[100, 100] })
    (hs : act.eval s = v) {ad : Nat} (hx : act.eval x = .slice (some ⟨ad, 0, none⟩) 1 1) (hb : ∀ j u, (tokCells y)[j]? = some u → w.cell? ((⟨ad, 0, none⟩ : Addr).add j) = some u) (t : TRow w0 w v xs) (hl : xs.length < 1000000)
    (hk : ∀ v' w', TRow w0 w' v' (xs ++ [y]) → Hop w w' v v' → K (act.put o.dst v') w') : o.wp Try.prog act w K Q := by
  obtain ⟨ti, hti, hz0, hz1, hz2⟩ := info_parts infoTok
  obtain ⟨v', w', hr, hown, hg, _, hloc⟩ := run_append_own_at (P := Try.prog) w w0.heap.size 100 o.type 103 ti (.agg #[.string ⟨#[]⟩, .int .i64 0, .int .i64 0]) 3 32 Try.underlying100 hti hz0 hz1 hz2 rfl (by decide) v xs.length (xs.flatMap tokCells) t.row
    ⟨ad, 0, none⟩ 1 1 (tokCells y) rfl hb (fun u hu => by simp [tokCells] at hu; rcases hu with rfl | rfl | rfl <;> rfl) (by unfold maxLen; omega) (by omega) t.below.size
  unfold Oper.wp execOp
  simp only [hop, resolve, invoke, builtin, Sem.run_bind, Sem.run_pure, Result.andThen_ok, List.map_toArray, List.map_cons, List.map_nil, hs, hx, hr]
  refine hk _ _ ⟨by simpa using hown, t.below.grown hg t.below.size (fun k hk => (t.row.lt k hk).1)⟩ ⟨hg, ?_⟩
  rcases hloc with e | e
  · exact .inl e
  · exact .inr ⟨_, e, Nat.le_refl _⟩

theorem TRow.alloc {w0 w : World} {v : Value} {xs : List Tok} (t : TRow w0 w v xs) (o : Obj) : TRow w0 (w.alloc o) v xs := ⟨t.row.alloc o, t.below.alloc t.below.size o⟩
theorem TRow.drewN {w0 w : World} {v : Value} {xs : List Tok} (t : TRow w0 w v xs) (n : Nat) : TRow w0 (w.drewN n) v xs := ⟨t.row, t.below.trans (below_draws n)⟩
theorem hop_alloc (w : World) (v : Value) (o : Obj) : Hop w (w.alloc o) v v := ⟨⟨rfl, rfl, rfl, by simp, fun k hk _ => heap_alloc_old w o hk⟩, .inl rfl⟩
theorem hop_draws (w : World) (v : Value) (n : Nat) : Hop w (w.drewN n) v v := ⟨grown_drewN _ _ _, .inl rfl⟩

theorem chunks_cons {T : ByteArray} (h : ¬ T.size ≤ 127) : chunks T.data.toList = ⟨(T.extract 0 127).data.toList, 0, 0⟩ :: chunks (T.extract 127 T.size).data.toList := by
  rw [chunks_more (by simpa using h)]
  simp only [ByteArray.data_extract, Array.toList_extract, List.extract_eq_take_drop]
  rw [List.drop_zero, show 127 - 0 = 127 from rfl, List.take_of_length_le (l := List.drop 127 T.data.toList) (by simp)]
theorem chunks_last {T : ByteArray} (h : T.size ≤ 127) (h0 : ¬ T.size = 0) : chunks T.data.toList = [⟨T.data.toList, 0, 0⟩] := by
  rw [chunks_few (by simpa using h)]
  unfold flush
  rw [if_neg (fun e => h0 (by have := congrArg List.length e; simpa using this))]
theorem chunks_none : chunks (⟨#[]⟩ : ByteArray).data.toList = [] := by rw [chunks_few (by decide)]; rfl
theorem text_empty {T : ByteArray} (h : T.size = 0) : T = ⟨#[]⟩ := by
  apply bytes_ext
  have : T.data.toList.length = 0 := by simpa using h
  exact List.eq_nil_of_length_eq_zero this

/-- Told bytes put behind tokens. -/
def ToldOut (w0 w : World) (v : Value) (xs : List Tok) (e : Ending) (w' : World) : Prop := ∃ v', e = .returned v' ∧ TRow w0 w' v' xs ∧ Hop w w' v v'

set_option maxHeartbeats 1000000 in
set_option maxRecDepth 100000 in
theorem appendTold (w0 w : World) (v : Value) (xs : List Tok) (T : ByteArray) (t : TRow w0 w v xs) (hT : T.size ≤ 2000) (hx : xs.length ≤ 2000) :
    Calls Try.prog 90 #[v, .string T] w (ToldOut w0 w v (xs ++ chunks T.data.toList)) := by
  have T0 := Lib.hid t
  clear t
  go_enter Try.func90, Try.ntmps90
  go_wp2_with fail
  go_loopw [0, 1] (fun v1 tt wr => ∃ (X : ByteArray) (ys : List Tok), tt = .string X ∧ X.size ≤ 2000 ∧ ys.length + X.size ≤ 4000 ∧ Hid (ys ++ chunks X.data.toList = xs ++ chunks T.data.toList) ∧ TRow w0 wr v1 ys ∧ Hop w wr v v1) (fun _ tt _ => match tt with | .string X => X.size | _ => 0)
  case atStart => exact ⟨T, xs, rfl, hT, by omega, rfl, T0.out, Hop.refl _ _⟩
  case round =>
    obtain ⟨X, ys, rfl, hX, hys, HC, t, hop⟩ := hrel
    have TT := Lib.hid t
    have HH := Lib.hid hop
    clear t hop T0
    by_cases h127 : X.size ≤ 127
    · have h1 : ¬ (127 : Int) < (X.size : Int) := by omega
      by_cases h0 : X.size = 0
      · obtain rfl := text_empty h0
        have HE := Lib.hid (show ys = xs ++ chunks T.data.toList by rw [← HC.out, chunks_none, List.append_nil])
        go_wp2
        go_ret
        exact ⟨_, rfl, by rw [← HE.out]; exact TT.out, HH.out⟩
      · have hne : X.toList.isEmpty = false := by rw [ByteArray.toList_eq, List.isEmpty_eq_false_iff]; exact fun e => h0 (by have := congrArg List.length e; simpa using this)
        have hne2 : ¬ X.toList = [] := by rw [ByteArray.toList_eq]; exact fun e => h0 (by have := congrArg List.length e; simpa using this)
        have HE := Lib.hid (show ys ++ [⟨X.data.toList, 0, 0⟩] = xs ++ chunks T.data.toList by rw [← HC.out, chunks_last h127 h0])
        go_wp2_with (at_builtin; refine wpList_plain rfl (fun K hK => ?_); refine op_pushT ⟨X.data.toList, 0, 0⟩ _ _ rfl rfl rfl (tok_new _ _ rfl rfl rfl) (TT.out.alloc _) (by omega) ?_; intro v2 w2 t2 hp2; refine hK _ _ ?_; clear hK K; have T2 := Lib.hid t2; have H2 := Lib.hid (HH.out.trans ((hop_alloc _ _ _).trans hp2)); clear t2 hp2)
        go_ret
        exact ⟨_, rfl, by rw [← HE.out]; exact T2.out, H2.out⟩
    · have h1 : (127 : Int) < (X.size : Int) := by omega
      have HE := Lib.hid (show (ys ++ [⟨(X.extract 0 127).data.toList, 0, 0⟩]) ++ chunks (X.extract 127 X.size).data.toList = xs ++ chunks T.data.toList by rw [← HC.out, chunks_cons h127]; simp)
      have HZ := Lib.hid (show (X.extract 127 X.size).size = X.size - 127 by rw [ByteArray.size_extract]; omega)
      have h2 : (127 : Int) ≤ (X.size : Int) := by omega
      go_wp2_with (at_builtin; refine wpList_plain rfl (fun K hK => ?_); refine op_pushT ⟨(X.extract 0 127).data.toList, 0, 0⟩ _ _ rfl rfl rfl (tok_new _ _ rfl rfl rfl) (TT.out.alloc _) (by omega) ?_; intro v2 w2 t2 hp2; refine hK _ _ ?_; clear hK K; have T2 := Lib.hid t2; have H2 := Lib.hid (HH.out.trans ((hop_alloc _ _ _).trans hp2)); clear t2 hp2)
      go_roundw
      case rel => exact ⟨_, _, rfl, by rw [HZ.out]; omega, by rw [HZ.out, List.length_append, List.length_singleton]; omega, HE.out, T2.out, H2.out⟩
      case measure => show (X.extract 127 X.size).size < X.size; rw [HZ.out]; omega
end Go.Proofs.Ytkomnnijnggbpaa
