/- A table of a few right cells is one; its parts are short. -/
import Derived.Test.YtkomnnijnggbpaaGreatDoorZ2
namespace Go.Proofs.YtkomnnijnggbpaaGreatDoor
open Go.RowKit
set_option linter.unusedVariables false

theorem ents_short (e : Nat) : ∀ (xs : List Cel) (i : Nat) (last : List UInt8), (∀ x ∈ xs, cellOk x = true) → (entries e i last xs).length ≤ 71 * xs.length
 | [], _, _, _ => by simp [entries]
 | x :: r, i, last, h => by
   have h1 := entry_len (e := e) (i := i) (last := last) (h x (by simp))
   have h2 := ents_short e r (i + 1) (celKey x) (fun y hy => h y (by simp [hy]))
   rw [entries, List.length_append, List.length_cons]
   omega
theorem starts_short (e : Nat) : ∀ (xs : List Cel) (i pos : Nat) (last : List UInt8), (startsB e i pos last xs).length ≤ 2 * xs.length
 | [], _, _, _ => by simp [startsB]
 | x :: r, i, pos, last => by
   have h2 := starts_short e r (i + 1) (pos + (entry e i last x).length) (celKey x)
   rw [startsB, List.length_append, List.length_cons]
   split
   · rw [fix_length]; omega
   · simp; omega
theorem put_short (xs : List Cel) (every : Int) : (putBlock xs every).length ≤ 73 * xs.length + 2 := by
 by_cases h : putBlock xs every = []
 · rw [h]; simp
 · obtain ⟨e, _, _, _, _, hok, hb⟩ := block_ok h
   have s1 := starts_short e xs 0 0 []
   have h3 := ents_short e xs 0 [] (all_ok hok)
   have hL : (block xs e).length = (entries e 0 [] xs).length + (startsB e 0 0 [] xs).length + 2 := by
     have : block xs e = (entries e 0 [] xs ++ startsB e 0 0 [] xs) ++ fixB ((startsB e 0 0 [] xs).length / 2) 2 := by unfold block; simp
     rw [this, List.length_append, List.length_append, fix_length]
   rw [hb, hL]
   omega
theorem part_few (xs : List Cel) (n j : Nat) : (partAt n j xs).length ≤ xs.length := by
 unfold partAt
 rw [List.length_take, List.length_drop]
 omega
theorem blk_short (xs : List Cel) (c : Conf) (j : Nat) (h : xs.length ≤ 12) : blkAt xs c j ≠ [] ∧ (blkAt xs c j).length ≤ 900 := by
 have h1 := put_short (partAt c.size.toNat j xs) c.every
 have h2 := part_few xs c.size.toNat j
 have h3 := wrapB_len (l := putBlock (partAt c.size.toNat j xs) c.every) c.pack (by omega)
 unfold blkAt
 refine ⟨fun e => ?_, by omega⟩
 rw [e] at h3
 simp at h3
theorem var_3 {n : Nat} (h : n < 2097152) : (varB n).length ≤ 3 := var_len_le 2 n (by omega)
theorem last_38 {xs : List Cel} (h : cellsOk xs = true) : (lastOf [] xs).length ≤ 38 := by
 unfold lastOf
 cases hx : xs.getLast? with
 | none => simp
 | some x => exact key_small (all_ok h x (List.mem_of_getLast? hx))
theorem idx_short {xs : List Cel} {c : Conf} (hok : cellsOk xs = true) (h : xs.length ≤ 12) : ∀ k, k ≤ 12 → (idxTo xs c k).length ≤ 47 * k ∧ (outTo xs c k).length ≤ 900 * k
 | 0, _ => by simp [idxTo, outTo]
 | k + 1, hk => by
   obtain ⟨h1, h2⟩ := idx_short (c := c) hok h k (by omega)
   have h3 := (blk_short xs c k h).2
   have h4 := last_38 (cells_part hok c.size.toNat k)
   have v1 := var_3 (n := (lastOf [] (partAt c.size.toNat k xs)).length) (by omega)
   have v2 := var_3 (n := (outTo xs c k).length) (by omega)
   have v3 := var_3 (n := (blkAt xs c k).length) (by omega)
   rw [idxTo, outTo, List.length_append, List.length_append]
   unfold idxAt
   simp only [List.length_append]
   omega
theorem tab_small {xs : List Cel} {c : Conf} (hok : cellsOk xs = true) (hc : confOk c = true) (h : xs.length ≤ 12) : tabOk xs c := by
 have hn := nblk_le (xs := xs) hc
 have hi := (idx_short (c := c) hok h (nBlk xs c) (by omega)).1
 refine ⟨by omega, hok, hc, fun j _ => (blk_short xs c j h).1, fun e => ?_⟩
 have h3 := wrapB_len (l := idxTo xs c (nBlk xs c)) c.pack (by omega)
 unfold topB at e
 rw [e] at h3
 simp at h3
theorem table_short {xs : List Cel} {c : Conf} (hT : tabOk xs c) : (tableB xs c).length ≤ 130000 := by
 have h := table_len xs c
 obtain ⟨h1, h2, h3, _⟩ := tab_bounds hT
 omega
end Go.Proofs.YtkomnnijnggbpaaGreatDoor
