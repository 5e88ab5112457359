/- What is read from entries that stand one behind the other. -/
import Derived.Test.YtkomnnijnggbpaaBlockMore
namespace Go.Proofs.Ytkomnnijnggbpaa
open Go.RowKit
set_option linter.unusedVariables false

/-- An entry's counts (the share, how much is told of the key, the size) and the place behind them, where it is whole. -/
def rdRaw (l : List UInt8) (a : Nat) : Option (Nat × Nat × Nat × Nat) :=
  match getVarAt l (a : Int) with
  | none => none
  | some g1 => match getVarAt l ((a + g1.length : Nat) : Int) with
    | none => none
    | some g2 => match getVarAt l ((a + g1.length + g2.length : Nat) : Int) with
      | none => none
      | some g3 => if a + g1.length + g2.length + g3.length + varVal g2 + varVal g3 / 2 ≤ l.length then some (varVal g1, varVal g2, varVal g3, a + g1.length + g2.length + g3.length) else none
theorem rd_no1 {l : List UInt8} {a : Nat} (h : getVarAt l (a : Int) = none) : rdRaw l a = none := by unfold rdRaw; rw [h]
theorem rd_no2 {l g1 : List UInt8} {a : Nat} (h : getVarAt l (a : Int) = some g1) (h2 : getVarAt l ((a + g1.length : Nat) : Int) = none) : rdRaw l a = none := by unfold rdRaw; simp only [h, h2]
theorem rd_no3 {l g1 g2 : List UInt8} {a : Nat} (h : getVarAt l (a : Int) = some g1) (h2 : getVarAt l ((a + g1.length : Nat) : Int) = some g2) (h3 : getVarAt l ((a + g1.length + g2.length : Nat) : Int) = none) : rdRaw l a = none := by unfold rdRaw; simp only [h, h2, h3]
theorem rd_is {l g1 g2 g3 : List UInt8} {a : Nat} (h : getVarAt l (a : Int) = some g1) (h2 : getVarAt l ((a + g1.length : Nat) : Int) = some g2) (h3 : getVarAt l ((a + g1.length + g2.length : Nat) : Int) = some g3) :
    rdRaw l a = if a + g1.length + g2.length + g3.length + varVal g2 + varVal g3 / 2 ≤ l.length then some (varVal g1, varVal g2, varVal g3, a + g1.length + g2.length + g3.length) else none := by unfold rdRaw; simp only [h, h2, h3]
theorem get_pos {l g : List UInt8} {a : Nat} (h : getVarAt l (a : Int) = some g) : 1 ≤ g.length ∧ a + g.length ≤ l.length ∧ varVal g ≤ 4611686018427387903 := by
  obtain ⟨n, e, h1, h2, h3, h4, h5, h6⟩ := getVar_some h
  have e' : a = n := by omega
  subst e'
  refine ⟨?_, h6, h3⟩
  have : g ≠ [] := by
    rw [← h2]
    unfold putVar
    rw [if_pos (by omega)]
    exact var_ne _
  exact List.length_pos_iff.2 this
theorem rd_some {l : List UInt8} {a s m z a3 : Nat} (h : rdRaw l a = some (s, m, z, a3)) : a + 3 ≤ a3 ∧ a3 + m + z / 2 ≤ l.length ∧ s ≤ 4611686018427387903 ∧ m ≤ 4611686018427387903 ∧ z ≤ 4611686018427387903 := by
  cases h1 : getVarAt l (a : Int) with
  | none => rw [rd_no1 h1] at h; cases h
  | some g1 =>
    cases h2 : getVarAt l ((a + g1.length : Nat) : Int) with
    | none => rw [rd_no2 h1 h2] at h; cases h
    | some g2 =>
      cases h3 : getVarAt l ((a + g1.length + g2.length : Nat) : Int) with
      | none => rw [rd_no3 h1 h2 h3] at h; cases h
      | some g3 =>
        rw [rd_is h1 h2 h3] at h
        have p1 := get_pos h1
        have p2 := get_pos h2
        have p3 := get_pos h3
        split at h
        · simp only [Option.some.injEq, Prod.mk.injEq] at h
          omega
        · cases h
/-- A cell that is read at a place behind a key, its own key, and the place behind. -/
def Step (l : List UInt8) (a : Nat) (key : List UInt8) (x : Cel) (key' : List UInt8) (a' : Nat) : Prop :=
  ∃ s m z a3, rdRaw l a = some (s, m, z, a3) ∧ s ≤ key.length ∧ key' = key.take s ++ (l.drop a3).take m ∧ ReadIs key' x.row.data.toList x.col.data.toList x.time ∧ x.gone = decide (z % 2 = 1) ∧ x.value.data.toList = (l.drop (a3 + m)).take (z / 2) ∧ a' = a3 + m + z / 2
theorem cel_ext {x y : Cel} (h1 : x.row.data.toList = y.row.data.toList) (h2 : x.col.data.toList = y.col.data.toList) (h3 : x.time = y.time) (h4 : x.gone = y.gone) (h5 : x.value.data.toList = y.value.data.toList) : x = y := by
  obtain ⟨R, C, t, G, V⟩ := x
  obtain ⟨R', C', t', G', V'⟩ := y
  have ext : ∀ {a b : ByteArray}, a.data.toList = b.data.toList → a = b := fun {a b} h => by cases a; cases b; simp only at h; rw [Array.toList_inj.1 h]
  simp only at h1 h2 h3 h4 h5
  rw [ext h1, ext h2, h3, h4, ext h5]
theorem step_det {l key k1 k2 : List UInt8} {a a1 a2 : Nat} {x y : Cel} (h : Step l a key x k1 a1) (h' : Step l a key y k2 a2) : x = y ∧ k1 = k2 ∧ a1 = a2 := by
  obtain ⟨s, m, z, a3, r1, r2, r3, r4, r5, r6, r7⟩ := h
  obtain ⟨s', m', z', a3', q1, q2, q3, q4, q5, q6, q7⟩ := h'
  rw [r1] at q1
  simp only [Option.some.injEq, Prod.mk.injEq] at q1
  obtain ⟨rfl, rfl, rfl, rfl⟩ := q1
  have hk : k1 = k2 := by rw [r3, q3]
  subst hk
  obtain ⟨e1, e2, e3⟩ := read_one r4 q4
  exact ⟨cel_ext e1 e2 e3 (by rw [r5, q5]) (by rw [r6, q6]), rfl, by rw [r7, q7]⟩
theorem step_len {l key k1 : List UInt8} {a a1 : Nat} {x : Cel} (h : Step l a key x k1 a1) (hk : key.length ≤ a) : a + 3 ≤ a1 ∧ a1 ≤ l.length ∧ k1.length ≤ a1 := by
  obtain ⟨s, m, z, a3, r1, r2, r3, r4, r5, r6, r7⟩ := h
  have := rd_some r1
  refine ⟨by omega, by omega, ?_⟩
  rw [r3, List.length_append, List.length_take, List.length_take]
  omega
/-- Cells read one behind the other: the last one's key and the place behind it. -/
inductive Rd (l : List UInt8) : List Cel → List UInt8 → Nat → Prop
  | nil : Rd l [] [] 0
  | snoc {ys : List Cel} {key : List UInt8} {a : Nat} {x : Cel} {key' : List UInt8} {a' : Nat} : Rd l ys key a → Step l a key x key' a' → Rd l (ys ++ [x]) key' a'
theorem rd_len {l : List UInt8} {ys : List Cel} {key : List UInt8} {a : Nat} (h : Rd l ys key a) : key.length ≤ a ∧ a ≤ l.length ∧ 3 * ys.length ≤ a := by
  induction h with
  | nil => simp
  | snoc h s ih =>
    have := step_len s ih.1
    rw [List.length_append]
    simp only [List.length_cons, List.length_nil]
    omega
theorem read_small {l r c : List UInt8} {t : Int} (h : ReadIs l r c t) : r.length ≤ 16 ∧ c.length ≤ 16 := by
  rcases h with ⟨h1, _⟩ | ⟨rfl, rfl, _⟩
  · obtain ⟨a1, a2, _⟩ := keyOk_parts h1
    exact ⟨(name_parts a1).2.2, (name_parts a2).2.2⟩
  · simp
theorem step_fit {l key k1 : List UInt8} {a a1 : Nat} {x : Cel} (h : Step l a key x k1 a1) (hl : l.length ≤ 1048576) : x.row.size ≤ maxLen ∧ x.col.size ≤ maxLen ∧ x.value.size ≤ maxLen := by
  obtain ⟨s, m, z, a3, r1, r2, r3, r4, r5, r6, r7⟩ := h
  have h1 := read_small r4
  have h2 := congrArg List.length r6
  rw [List.length_take, List.length_drop] at h2
  have e1 : x.row.data.toList.length = x.row.size := by simp
  have e2 : x.col.data.toList.length = x.col.size := by simp
  have e3 : x.value.data.toList.length = x.value.size := by simp
  unfold maxLen
  omega
theorem rd_fit {l : List UInt8} {ys : List Cel} {key : List UInt8} {a : Nat} (h : Rd l ys key a) (hl : l.length ≤ 1048576) : Fit ys := by
  induction h with
  | nil => intro y hy; simp at hy
  | snoc h s ih =>
    intro y hy
    rcases List.mem_append.1 hy with hm | hm
    · exact ih y hm
    · rw [List.mem_singleton.1 hm]; exact step_fit s hl
/-- A cell of a block is read where it stands. -/
theorem step_true {e : Nat} {xs : List Cel} {k : Nat} {x : Cel} (h : xs[k]? = some x) (hx : cellOk x = true) :
    Step (entries e 0 [] xs) (entries e 0 [] (xs.take k)).length (lastOf [] (xs.take k)) x (celKey x) (entries e 0 [] (xs.take (k + 1))).length := by
  obtain ⟨pre, post, last, h1, h2, h3, h4⟩ := entries_at e xs 0 [] k x h
  rw [Nat.zero_add] at h1
  have hlast : last = lastOf [] (xs.take k) := by
    cases k with
    | zero => rw [h3 rfl]; simp [lastOf]
    | succ k =>
      have hk : k < xs.length := by have := (List.getElem?_eq_some_iff.1 h).1; omega
      have hy : xs[k]? = some xs[k] := List.getElem?_eq_getElem hk
      rw [h4 _ (by omega) hy, last_step hy]
  obtain ⟨q1, q2, q3, q4, q5, q6, q7, q8⟩ := entry_parts e k last pre post hx rfl rfl rfl rfl rfl
  have hE : (entries e 0 [] (xs.take (k + 1))).length = pre.length + (entry e k last x).length := by rw [entries_step e h, List.length_append, ← h2, hlast]
  obtain ⟨z1, z2⟩ := size_half x
  have hlen : (pre ++ (entry e k last x ++ post)).length = pre.length + ((entry e k last x).length + post.length) := by rw [List.length_append, List.length_append]
  rw [hE, ← h2, ← hlast, h1]
  refine ⟨_, _, _, _, (rd_is q1 q2 q3).trans (if_pos ?_), ?_, ?_, ?_, ?_, ?_, ?_⟩
  · rw [varVal_var, varVal_var, z1, hlen]
    omega
  · rw [varVal_var]; exact q7
  · rw [varVal_var, varVal_var, q4, q6]
  · exact read_back (cel_keyOk hx)
  · rw [varVal_var, Bool.eq_iff_iff]
    simp [z2]
  · rw [varVal_var, varVal_var, z1, q5]
  · rw [varVal_var, varVal_var, z1]; omega
theorem rd_end (l : List UInt8) : rdRaw l l.length = none := by
  refine rd_no1 ?_
  cases h : getVarAt l (l.length : Int) with
  | none => rfl
  | some g =>
    have := get_pos h
    omega
/-- What is read from a block's entries is what was put, as far as it goes. -/
theorem rd_block {e : Nat} {xs : List Cel} (hx : ∀ x ∈ xs, cellOk x = true) {ys : List Cel} {key : List UInt8} {a : Nat} (h : Rd (entries e 0 [] xs) ys key a) :
    ys.length ≤ xs.length ∧ ys = xs.take ys.length ∧ key = lastOf [] ys ∧ a = (entries e 0 [] ys).length := by
  induction h with
  | nil => simp [lastOf, entries]
  | @snoc ys key a x key' a' h s ih =>
    obtain ⟨i1, i2, i3, i4⟩ := ih
    by_cases hk : ys.length < xs.length
    · have hy : xs[ys.length]? = some xs[ys.length] := List.getElem?_eq_getElem hk
      have st := step_true (e := e) hy (hx _ (List.getElem_mem hk))
      rw [← i2, ← i3, ← i4] at st
      obtain ⟨rfl, rfl, rfl⟩ := step_det s st
      have e1 : ys ++ [xs[ys.length]] = xs.take (ys.length + 1) := by rw [List.take_succ_eq_append_getElem hk, ← i2]
      refine ⟨by simp; omega, ?_, by rw [lastOf_snoc], ?_⟩
      · rw [List.length_append]; exact e1
      · rw [e1]
    · have e1 : ys = xs := by rw [i2, List.take_of_length_le (by omega)]
      obtain ⟨_, _, _, _, r1, _⟩ := s
      rw [i4, e1, rd_end] at r1
      cases r1
/-- Nothing more is read, or what is none. -/
def Ended (l : List UInt8) (ys : List Cel) : Prop := ∃ key a, Rd l ys key a ∧ ((∀ x k a', ¬ Step l a key x k a') ∨ ∃ x k a', Step l a key x k a' ∧ x.time < 0)
theorem ended_all {e : Nat} {xs : List Cel} (hx : ∀ x ∈ xs, cellOk x = true) {ys : List Cel} (h : Ended (entries e 0 [] xs) ys) : ys = xs := by
  obtain ⟨key, a, h1, h2⟩ := h
  obtain ⟨i1, i2, i3, i4⟩ := rd_block hx h1
  by_cases hk : ys.length < xs.length
  · exfalso
    have hy : xs[ys.length]? = some xs[ys.length] := List.getElem?_eq_getElem hk
    have hc := hx _ (List.getElem_mem hk)
    have st := step_true (e := e) hy hc
    rw [← i2, ← i3, ← i4] at st
    rcases h2 with h2 | ⟨x, k, a', s, ht⟩
    · exact h2 _ _ _ st
    · obtain ⟨rfl, _, _⟩ := step_det s st
      have := time_bd (keyOk_parts (cel_keyOk hc)).2.2
      omega
  · rw [i2, List.take_of_length_le (by omega)]
theorem step_no {l key : List UInt8} {a : Nat} (h : rdRaw l a = none) : ∀ x k a', ¬ Step l a key x k a' := by
  rintro x k a' ⟨_, _, _, _, r1, _⟩
  rw [h] at r1
  cases r1
theorem step_far {l key : List UInt8} {a s m z a3 : Nat} (h : rdRaw l a = some (s, m, z, a3)) (hs : key.length < s) : ∀ x k a', ¬ Step l a key x k a' := by
  rintro x k a' ⟨_, _, _, _, r1, r2, _⟩
  rw [h] at r1
  simp only [Option.some.injEq, Prod.mk.injEq] at r1
  omega

/-- What a block is read as: the list that was put so, or nothing. -/
def Got (s : List UInt8) (every : Int) (r : List Cel) (ok : Bool) : Prop := (ok = true ∧ putBlock r every = s ∧ s ≠ []) ∨ (ok = false ∧ r = [] ∧ ∀ xs, putBlock xs every = s → s = [])
theorem got_one {s : List UInt8} {every : Int} {r r' : List Cel} {ok ok' : Bool} (h : Got s every r ok) (h' : Got s every r' ok') : r = r' ∧ ok = ok' := by
  rcases h with ⟨rfl, h1, h2⟩ | ⟨rfl, rfl, h1⟩ <;> rcases h' with ⟨rfl, h3, h4⟩ | ⟨rfl, rfl, h3⟩
  · exact ⟨putBlock_told (h1.trans h3.symm) (by rw [h1]; exact h2), rfl⟩
  · exact absurd (h3 _ h1) h2
  · exact absurd (h1 _ h3) h4
  · exact ⟨rfl, rfl⟩
/-- The parts of a block. -/
theorem block_parts (xs : List Cel) (e : Nat) (hl : xs.length ≤ 50) : ∃ q : Nat, getFix (block xs e) ((block xs e).length - 2 : Int) 2 = (q : Int) ∧ (entries e 0 [] xs).length + 2 * (q + 1) = (block xs e).length ∧ (block xs e).take (entries e 0 [] xs).length = entries e 0 [] xs := by
  obtain ⟨s1, s2⟩ := starts_len e xs 0 0 []
  have hb : block xs e = (entries e 0 [] xs ++ startsB e 0 0 [] xs) ++ fixB ((startsB e 0 0 [] xs).length / 2) 2 := by unfold block; simp
  have hL : (block xs e).length = (entries e 0 [] xs).length + (startsB e 0 0 [] xs).length + 2 := by rw [hb, List.length_append, List.length_append, fix_length]
  refine ⟨(startsB e 0 0 [] xs).length / 2, ?_, by omega, ?_⟩
  · have e1 : ((block xs e).length - 2 : Int) = (((entries e 0 [] xs ++ startsB e 0 0 [] xs).length : Nat) : Int) := by rw [List.length_append]; omega
    have e2 : getFix (block xs e) (((entries e 0 [] xs ++ startsB e 0 0 [] xs).length : Nat) : Int) ((2 : Nat) : Int) = fixVal (((block xs e).drop (entries e 0 [] xs ++ startsB e 0 0 [] xs).length).take 2) := by
      unfold getFix
      rw [if_pos (by rw [List.length_append]; omega), Int.toNat_natCast, Int.toNat_natCast]
    rw [e1]
    refine e2.trans ?_
    rw [hb, List.drop_left, List.take_of_length_le (by rw [fix_length]; omega), fixVal_fix]
    have : (startsB e 0 0 [] xs).length / 2 % 2 ^ (8 * 2) = (startsB e 0 0 [] xs).length / 2 := Nat.mod_eq_of_lt (by omega)
    rw [this]
  · unfold block
    rw [List.take_left]
theorem block_ok {xs : List Cel} {every : Int} (h : putBlock xs every ≠ []) : ∃ e : Nat, every = e ∧ 1 ≤ e ∧ e ≤ 16 ∧ xs.length ≤ 50 ∧ cellsOk xs = true ∧ putBlock xs every = block xs e := by
  unfold putBlock at h ⊢
  cases h1 : blockOk xs every
  · rw [if_neg (by simp [h1])] at h
    exact absurd rfl h
  · unfold blockOk at h1
    simp only [Bool.and_eq_true, decide_eq_true_eq] at h1
    obtain ⟨⟨⟨a1, a2⟩, a3⟩, a4⟩ := h1
    exact ⟨every.toNat, by omega, by omega, by omega, a1, a2, by rw [if_pos rfl]⟩
theorem all_ok {xs : List Cel} (h : cellsOk xs = true) : ∀ x ∈ xs, cellOk x = true := fun x hm => by obtain ⟨j, hj⟩ := List.mem_iff_getElem?.1 hm; exact cells_ok h hj
/-- Where a text has no room for starts it is no block. -/
theorem got_no {s : List UInt8} {every : Int} (h : getFix s (s.length - 2 : Int) 2 < 0 ∨ (s.length : Int) - 2 * (getFix s (s.length - 2 : Int) 2 + 1) < 0) : Got s every [] false := by
  refine .inr ⟨rfl, rfl, fun xs hx => ?_⟩
  cases hs : s with
  | nil => rfl
  | cons c r =>
    exfalso
    have hne : putBlock xs every ≠ [] := by rw [hx, hs]; simp
    obtain ⟨e, _, _, _, h50, _, hb⟩ := block_ok hne
    obtain ⟨q, h1, h2, _⟩ := block_parts xs e h50
    rw [← hb, hx] at h1 h2
    rw [h1] at h
    omega
/-- What was read, put anew: is it the text? -/
theorem got_of {s : List UInt8} {every : Int} {q n : Nat} {ys : List Cel} (hq : getFix s (s.length - 2 : Int) 2 = (q : Int)) (hn : n + 2 * (q + 1) = s.length) (hr : (∃ key a, Rd (s.take n) ys key a ∧ 50 < ys.length) ∨ Ended (s.take n) ys) :
    (putBlock ys every = s → Got s every ys true) ∧ (putBlock ys every ≠ s → Got s every [] false) := by
  have hs : s ≠ [] := by intro e; rw [e] at hn; simp at hn
  refine ⟨fun h => .inl ⟨rfl, h, hs⟩, fun h => .inr ⟨rfl, rfl, fun xs hx => ?_⟩⟩
  exfalso
  obtain ⟨e, _, _, _, h50, hok, hb⟩ := block_ok (xs := xs) (every := every) (by rw [hx]; exact hs)
  obtain ⟨q', h1, h2, h3⟩ := block_parts xs e h50
  rw [← hb, hx] at h1 h2 h3
  rw [hq] at h1
  have hqq : q = q' := by omega
  subst hqq
  have hnn : n = (entries e 0 [] xs).length := by omega
  rw [hnn, h3] at hr
  rcases hr with ⟨key, a, r1, r2⟩ | hr
  · have := (rd_block (all_ok hok) r1).1
    omega
  · have := ended_all (all_ok hok) hr
    subst this
    exact h hx
end Go.Proofs.Ytkomnnijnggbpaa
