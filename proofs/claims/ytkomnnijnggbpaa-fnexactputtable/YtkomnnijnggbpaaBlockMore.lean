/- Entries and starts, one behind the other. -/
import Derived.Test.YtkomnnijnggbpaaCellA
namespace Go.Proofs.Ytkomnnijnggbpaa
open Go.RowKit
set_option linter.unusedVariables false

/-- The key ahead. -/
def lastOf (last : List UInt8) (ys : List Cel) : List UInt8 := match ys.getLast? with
  | some y => celKey y
  | none => last
theorem lastOf_cons (last : List UInt8) (y : Cel) (ys : List Cel) : lastOf last (y :: ys) = lastOf (celKey y) ys := by
  unfold lastOf
  rw [List.getLast?_cons]
  cases ys.getLast? <;> rfl
theorem lastOf_snoc (last : List UInt8) (ys : List Cel) (x : Cel) : lastOf last (ys ++ [x]) = celKey x := by
  unfold lastOf
  simp
theorem entries_snoc (e : Nat) : ∀ (ys : List Cel) (i : Nat) (last : List UInt8) (x : Cel), entries e i last (ys ++ [x]) = entries e i last ys ++ entry e (i + ys.length) (lastOf last ys) x
  | [], i, last, x => by simp [entries, lastOf]
  | y :: ys, i, last, x => by
    rw [List.cons_append, entries, entries, entries_snoc e ys (i + 1) (celKey y) x, lastOf_cons, List.length_cons, show i + 1 + ys.length = i + (ys.length + 1) by omega, List.append_assoc]
theorem starts_snoc (e : Nat) : ∀ (ys : List Cel) (i pos : Nat) (last : List UInt8) (x : Cel), startsB e i pos last (ys ++ [x]) = startsB e i pos last ys ++ (if (i + ys.length) % e = 0 then fixB (pos + (entries e i last ys).length) 2 else [])
  | [], i, pos, last, x => by simp [entries, startsB]
  | y :: ys, i, pos, last, x => by
    rw [List.cons_append, startsB, startsB, starts_snoc e ys (i + 1) _ (celKey y) x, entries, List.length_cons, show i + 1 + ys.length = i + (ys.length + 1) by omega, List.append_assoc, List.length_append, Nat.add_assoc]
theorem take_cel {xs : List Cel} {i : Nat} {x : Cel} (h : xs[i]? = some x) : xs.take (i + 1) = xs.take i ++ [x] := by
  obtain ⟨hi, rfl⟩ := List.getElem?_eq_some_iff.1 h
  rw [List.take_succ_eq_append_getElem hi]
theorem take_len {xs : List Cel} {i : Nat} {x : Cel} (h : xs[i]? = some x) : (xs.take i).length = i := by
  have := (List.getElem?_eq_some_iff.1 h).1
  rw [List.length_take]
  omega
theorem entries_step (e : Nat) {xs : List Cel} {i : Nat} {x : Cel} (h : xs[i]? = some x) : entries e 0 [] (xs.take (i + 1)) = entries e 0 [] (xs.take i) ++ entry e i (lastOf [] (xs.take i)) x := by
  rw [take_cel h, entries_snoc, take_len h, Nat.zero_add]
theorem starts_step (e : Nat) {xs : List Cel} {i : Nat} {x : Cel} (h : xs[i]? = some x) : startsB e 0 0 [] (xs.take (i + 1)) = startsB e 0 0 [] (xs.take i) ++ (if i % e = 0 then fixB (entries e 0 [] (xs.take i)).length 2 else []) := by
  rw [take_cel h, starts_snoc, take_len h, Nat.zero_add, Nat.zero_add]
theorem last_step {xs : List Cel} {i : Nat} {x : Cel} (h : xs[i]? = some x) : lastOf [] (xs.take (i + 1)) = celKey x := by
  rw [take_cel h, lastOf_snoc]
theorem var_one {n : Nat} (h : n < 128) : (varB n).length = 1 := by rw [var_small h]; rfl
theorem size_small {x : Cel} (h : cellOk x = true) : sizeOf' x ≤ 61 := by
  have := size_half x
  have := value_small h
  omega
theorem entry_len {e i : Nat} {last : List UInt8} {x : Cel} (h : cellOk x = true) : (entry e i last x).length ≤ 71 := by
  have hk := key_small h
  have hv := value_small h
  have hz := size_small h
  have hs := share_le e i last (celKey x)
  unfold entry
  rw [List.length_append, List.length_append, List.length_append, List.length_append, List.length_drop, var_one (by omega), var_one (by omega), var_one (by omega)]
  simp
  omega
theorem putBlock_no {xs : List Cel} {every : Int} (h : blockOk xs every = false) : putBlock xs every = [] := by unfold putBlock; rw [if_neg (by simp [h])]
theorem putBlock_yes {xs : List Cel} {e : Nat} (h1 : xs.length ≤ 50) (h2 : cellsOk xs = true) (h3 : 1 ≤ e) (h4 : e ≤ 16) : putBlock xs (e : Int) = block xs e := by
  have h : blockOk xs (e : Int) = true := by
    unfold blockOk
    rw [h2]
    simp
    omega
  unfold putBlock
  rw [if_pos h, Int.toNat_natCast]
theorem block_no1 {xs : List Cel} {every : Int} (h : 50 < xs.length) : blockOk xs every = false := by
  unfold blockOk
  rw [show decide (xs.length ≤ 50) = false from decide_eq_false (by omega)]
  rfl
theorem block_no2 {xs : List Cel} {every : Int} (h : cellsOk xs = false) : blockOk xs every = false := by
  unfold blockOk
  rw [h]
  simp
theorem block_no3 {xs : List Cel} {every : Int} (h : every < 1 ∨ 16 < every) : blockOk xs every = false := by
  unfold blockOk
  rcases h with h | h
  · rw [show decide (1 ≤ every) = false from decide_eq_false (by omega)]; simp
  · rw [show decide (every ≤ 16) = false from decide_eq_false (by omega)]; simp
theorem celKey_is {x : Cel} (h : cellOk x = true) : keyOf x.row.data.toList x.col.data.toList x.time = celKey x := rfl
end Go.Proofs.Ytkomnnijnggbpaa
