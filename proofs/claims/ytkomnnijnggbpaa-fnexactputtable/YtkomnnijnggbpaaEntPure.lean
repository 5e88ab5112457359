/- Entries as they are told one by one, and what a block is made of them. -/
import Derived.Test.YtkomnnijnggbpaaBlockMore
namespace Go.Proofs.Ytkomnnijnggbpaa
open Go.RowKit
set_option linter.unusedVariables false

/-- An entry's bytes, of its parts. -/
def entB (sh : Nat) (X : List UInt8) (z : Nat) (V : List UInt8) : List UInt8 := varB sh ++ (varB X.length ++ (varB z ++ (X ++ V)))
def zOf (G : Bool) (V : ByteArray) : Nat := 2 * V.size + (if G then 1 else 0)
/-- An entry and its place. -/
structure Ent where
  place : Nat
  share : Nat
  rest : ByteArray
  gone : Bool
  value : ByteArray
  ok : place ≤ 50 ∧ share ≤ 38 ∧ rest.size ≤ 38 ∧ value.size ≤ 30
def entBytes (y : Ent) : List UInt8 := entB y.share y.rest.data.toList (zOf y.gone y.value) y.value.data.toList
def blkB (ys : List Ent) : List UInt8 := ys.flatMap entBytes
def stFrom (e : Nat) : Nat → List Ent → List UInt8
  | _, [] => []
  | pos, y :: r => (if y.place % e = 0 then fixB pos 2 else []) ++ stFrom e (pos + (entBytes y).length) r
theorem blkB_snoc (ys : List Ent) (y : Ent) : blkB (ys ++ [y]) = blkB ys ++ entBytes y := by simp [blkB]
theorem stFrom_snoc (e : Nat) : ∀ (ys : List Ent) (pos : Nat) (y : Ent), stFrom e pos (ys ++ [y]) = stFrom e pos ys ++ (if y.place % e = 0 then fixB (pos + (blkB ys).length) 2 else [])
  | [], pos, y => by simp [stFrom, blkB]
  | z :: ys, pos, y => by
    rw [List.cons_append, stFrom, stFrom, stFrom_snoc e ys _ y, List.append_assoc]
    have : (blkB (z :: ys)).length = (entBytes z).length + (blkB ys).length := by simp [blkB]
    rw [this, Nat.add_assoc]
theorem entBytes_len (y : Ent) : (entBytes y).length ≤ 71 := by
  obtain ⟨h1, h2, h3, h4⟩ := y.ok
  have l1 : y.rest.data.toList.length = y.rest.size := by simp
  have l2 : y.value.data.toList.length = y.value.size := by simp
  have hz : zOf y.gone y.value ≤ 61 := by unfold zOf; split <;> omega
  unfold entBytes entB
  rw [List.length_append, List.length_append, List.length_append, List.length_append, l1, l2, var_one (by omega), var_one (by omega), var_one (by omega)]
  omega
theorem blkB_len (ys : List Ent) : (blkB ys).length ≤ 71 * ys.length := by
  induction ys with
  | nil => simp [blkB]
  | cons y ys ih =>
    have : (blkB (y :: ys)).length = (entBytes y).length + (blkB ys).length := by simp [blkB]
    rw [this, List.length_cons]
    have := entBytes_len y
    omega
theorem stFrom_len (e : Nat) : ∀ (ys : List Ent) (pos : Nat), (stFrom e pos ys).length ≤ 2 * ys.length ∧ (stFrom e pos ys).length % 2 = 0
  | [], pos => by simp [stFrom]
  | y :: ys, pos => by
    have ih := stFrom_len e ys (pos + (entBytes y).length)
    unfold stFrom
    rw [List.length_append, List.length_cons]
    split
    · rw [fix_length]; omega
    · simp; omega
/-- The entries of a list of cells, as far as a place. -/
def EntsOf (e : Nat) (xs : List Cel) (n : Nat) (ys : List Ent) : Prop :=
  ys.length = n ∧ ∀ (k : Nat) (y : Ent) (x : Cel), ys[k]? = some y → xs[k]? = some x → y.place = k ∧ y.share = shareOf e k (lastOf [] (xs.take k)) (celKey x) ∧ y.rest.data.toList = (celKey x).drop y.share ∧ y.gone = x.gone ∧ y.value = x.value
theorem ents_nil (e : Nat) (xs : List Cel) : EntsOf e xs 0 [] := ⟨rfl, fun k y x h => by simp at h⟩
theorem ents_snoc {e : Nat} {xs : List Cel} {n : Nat} {ys : List Ent} {x : Cel} (h : EntsOf e xs n ys) (hx : xs[n]? = some x) (y : Ent) (h1 : y.place = n) (h2 : y.share = shareOf e n (lastOf [] (xs.take n)) (celKey x)) (h3 : y.rest.data.toList = (celKey x).drop y.share) (h4 : y.gone = x.gone) (h5 : y.value = x.value) : EntsOf e xs (n + 1) (ys ++ [y]) := by
  refine ⟨by simp [h.1], fun k z x' hz hx' => ?_⟩
  by_cases hk : k < n
  · rw [List.getElem?_append_left (by rw [h.1]; exact hk)] at hz
    exact h.2 k z x' hz hx'
  · rw [List.getElem?_append_right (by rw [h.1]; omega), h.1] at hz
    have : k = n := by
      have := (List.getElem?_eq_some_iff.1 hz).1
      simp at this
      omega
    subst this
    rw [hx] at hx'
    cases hx'
    simp at hz
    subst hz
    exact ⟨h1, h2, h3, h4, h5⟩
theorem ents_take {e : Nat} {xs : List Cel} {n : Nat} {ys : List Ent} (h : EntsOf e xs n ys) (hn : n ≤ xs.length) : ∀ k, k ≤ n → blkB (ys.take k) = entries e 0 [] (xs.take k) ∧ stFrom e 0 (ys.take k) = startsB e 0 0 [] (xs.take k)
  | 0, _ => by simp [blkB, entries, stFrom, startsB]
  | k + 1, hk => by
    have ih := ents_take h hn k (by omega)
    have hky : k < ys.length := by rw [h.1]; omega
    have hkx : k < xs.length := by omega
    obtain ⟨q1, q2, q3, q4, q5⟩ := h.2 k ys[k] xs[k] (List.getElem?_eq_getElem hky) (List.getElem?_eq_getElem hkx)
    have hy : ys.take (k + 1) = ys.take k ++ [ys[k]] := List.take_succ_eq_append_getElem hky
    have hx : xs[k]? = some xs[k] := List.getElem?_eq_getElem hkx
    have hb : entBytes ys[k] = entry e k (lastOf [] (xs.take k)) xs[k] := by
      unfold entBytes entB entry
      have hl := share_le e k (lastOf [] (xs.take k)) (celKey xs[k])
      rw [q3, q2, q4, q5, List.length_drop]
      rfl
    refine ⟨?_, ?_⟩
    · rw [hy, blkB_snoc, entries_step e hx, ih.1, hb]
    · rw [hy, stFrom_snoc, starts_step e hx, ih.2, ih.1, q1, Nat.zero_add]
theorem ents_block {e : Nat} {xs : List Cel} {ys : List Ent} (h : EntsOf e xs xs.length ys) : blkB ys = entries e 0 [] xs ∧ stFrom e 0 ys = startsB e 0 0 [] xs := by
  have := ents_take h (Nat.le_refl _) xs.length (Nat.le_refl _)
  rw [List.take_of_length_le (by rw [h.1]; exact Nat.le_refl _), List.take_length] at this
  exact this
/-- Within a run the share is what is shared with the key ahead; at its start there is none. -/
theorem share_run {e st i : Nat} {xs : List Cel} {A k : List UInt8} (hst : st % e = 0) (hi : i < e) (hA : A = if i = 0 then [] else lastOf [] (xs.take (st + i))) : shared A k = shareOf e (st + i) (lastOf [] (xs.take (st + i))) k := by
  unfold shareOf
  have hm : (st + i) % e = i := by rw [Nat.add_mod, hst, Nat.zero_add, Nat.mod_mod, Nat.mod_eq_of_lt hi]
  rw [hm, hA]
  by_cases h0 : i = 0
  · rw [if_pos h0, if_pos h0]
    cases k <;> simp [shared]
  · rw [if_neg h0, if_neg h0]
end Go.Proofs.Ytkomnnijnggbpaa
