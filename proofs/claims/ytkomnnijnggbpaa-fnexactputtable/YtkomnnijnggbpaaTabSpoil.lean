/- A table of which a byte ahead of the foot was changed is none; nor is one without its first byte. -/
import Derived.Test.YtkomnnijnggbpaaTabGot
namespace Go.Proofs.Ytkomnnijnggbpaa
open Go.RowKit
set_option linter.unusedVariables false

def footOf (xs : List Cel) (c : Conf) : List UInt8 := footB (outB xs c).length (topB xs c).length (filB xs).length xs.length c ++ magicB
theorem footOf_len (xs : List Cel) (c : Conf) : (footOf xs c).length = 38 := by unfold footOf; rw [List.length_append, foot_len]; rfl
theorem table_split (xs : List Cel) (c : Conf) : tableB xs c = outB xs c ++ (topB xs c ++ (filB xs ++ footOf xs c)) := rfl
theorem table_tail (xs : List Cel) (c : Conf) : (tableB xs c).drop ((tableB xs c).length - 38) = footOf xs c := by
  have e : tableB xs c = (outB xs c ++ (topB xs c ++ filB xs)) ++ footOf xs c := by rw [table_split]; simp
  rw [e, List.length_append, footOf_len, Nat.add_sub_cancel, List.drop_left]
theorem footOf_told {xs ys : List Cel} {c d : Conf} (hx : tabOk xs c) (hy : tabOk ys d) (h : footOf xs c = footOf ys d) :
    (outB xs c).length = (outB ys d).length ∧ (topB xs c).length = (topB ys d).length ∧ (filB xs).length = (filB ys).length ∧ xs.length = ys.length ∧ c = d := by
  obtain ⟨x1, x2, x3, _⟩ := tab_bounds hx
  obtain ⟨y1, y2, y3, _⟩ := tab_bounds hy
  have x4 := hx.1
  have y4 := hy.1
  unfold footOf at h
  obtain ⟨h3, _⟩ := List.append_inj h (by rw [foot_len, foot_len])
  exact foot_told h3 (by omega) (by omega) (by omega) (by omega) (by omega) (by omega) (by omega) (by omega) hx.2.2.1 hy.2.2.1
theorem set_far (p q : List UInt8) (n : Nat) (v : UInt8) (h : p.length ≤ n) : (p ++ q).set n v = p ++ q.set (n - p.length) v := by rw [List.set_append, if_neg (by omega)]
theorem set_near (p q : List UInt8) (n : Nat) (v : UInt8) (h : n < p.length) : (p ++ q).set n v = p.set n v ++ q := by rw [List.set_append, if_pos h]
theorem drop_set_lt (l : List UInt8) (n m : Nat) (v : UInt8) (h : n < m) : (l.set n v).drop m = l.drop m := by
  rw [List.drop_set, if_pos h]
/-- A wrapped text, changed, is no wrapped text. -/
theorem wrap_not {a b : List UInt8} {p q : Bool} {n : Nat} {v : UInt8} (hne : wrapB a p ≠ []) (hb : wrapB b q ≠ []) (hn : n < (wrapB a p).length) (hv : (wrapB a p).getD n 0 ≠ v) : wrapB b q ≠ (wrapB a p).set n v := by
  intro e
  have h1 := unwrap_changed p (wrap_some hne) n v hn hv
  have h2 := unwrap_wrap q (wrap_some hb)
  rw [e, h1] at h2
  cases h2
theorem getD_left (p q : List UInt8) (n : Nat) (h : n < p.length) : (p ++ q).getD n 0 = p.getD n 0 := by
  rw [List.getD_eq_getElem?_getD, List.getD_eq_getElem?_getD, List.getElem?_append_left h]
theorem getD_right (p q : List UInt8) (n : Nat) (h : p.length ≤ n) : (p ++ q).getD n 0 = q.getD (n - p.length) 0 := by
  rw [List.getD_eq_getElem?_getD, List.getD_eq_getElem?_getD, List.getElem?_append_right h]
theorem fil_ne (xs : List Cel) (h : xs.length ≤ 60) : filB xs ≠ [] := by
  intro e
  have h2 := filter_len (keys := xs.map nameKey) (by rw [List.length_map]; omega)
  have h1 : (filB xs).length = (filterB (xs.map nameKey)).length + 5 := by
    unfold filB
    refine wrap_false ?_
    rw [h2]
    have := fsize_le (n := (xs.map nameKey).length) (by rw [List.length_map]; omega)
    omega
  rw [e] at h1
  simp at h1
theorem out_same_len {xs ys : List Cel} {c : Conf} {n : Nat} (h : ∀ j, j < n → (blkAt xs c j).length = (blkAt ys c j).length) : ∀ k, k ≤ n → (outTo xs c k).length = (outTo ys c k).length
  | 0, _ => rfl
  | k + 1, hk => by rw [outTo, outTo, List.length_append, List.length_append, out_same_len h k (by omega), h k (by omega)]
/-- In which block a byte lies. -/
theorem in_block (xs : List Cel) (c : Conf) (n : Nat) : ∀ k, n < (outTo xs c k).length → ∃ j, j < k ∧ (outTo xs c j).length ≤ n ∧ n < (outTo xs c (j + 1)).length
  | 0, h => by simp [outTo] at h
  | k + 1, h => by
    by_cases h2 : n < (outTo xs c k).length
    · obtain ⟨j, h3, h4⟩ := in_block xs c n k h2
      exact ⟨j, by omega, h4⟩
    · exact ⟨k, by omega, by omega, h⟩
theorem spoilt {xs ys : List Cel} {c d : Conf} (hx : tabOk xs c) (hy : tabOk ys d) (n : Nat) (v : UInt8) (hn : n + 38 < (tableB xs c).length) (hv : (tableB xs c).getD n 0 ≠ v) : tableB ys d ≠ (tableB xs c).set n v := by
  intro h
  have hl : (tableB ys d).length = (tableB xs c).length := by rw [h, List.length_set]
  have ht := table_tail ys d
  rw [hl, h, drop_set_lt _ _ _ _ (by omega), table_tail] at ht
  obtain ⟨g1, g2, g3, g4, rfl⟩ := footOf_told hx hy ht
  have hlen := table_len xs c
  rw [table_split, table_split] at h
  rw [table_split] at hv
  by_cases h1 : n < (outB xs c).length
  · rw [set_near _ _ _ _ h1] at h
    rw [getD_left _ _ _ h1] at hv
    obtain ⟨e1, e2⟩ := List.append_inj h (by rw [List.length_set, g1])
    obtain ⟨e3, _⟩ := List.append_inj e2 g2.symm
    have hN : nBlk ys c = nBlk xs c := by unfold nBlk; rw [g4]
    have hi : idxTo xs c (nBlk xs c) = idxTo ys c (nBlk xs c) := by
      unfold topB at e3
      have h2 := hx.2.2.2.2
      unfold topB at h2
      rw [hN] at e3
      exact wrap_inj e3.symm h2
    rw [idx_flat, idx_flat] at hi
    have hb := (idx_told (xs := xs) (ys := ys) (c := c) (List.range (nBlk xs c)) (r := []) (r' := []) (by rw [hi])).1
    have hb' : ∀ j, j < nBlk xs c → (blkAt xs c j).length = (blkAt ys c j).length := fun j hj => hb j (List.mem_range.2 hj)
    unfold outB at h1 e1 hv
    rw [hN] at e1
    obtain ⟨j, j1, j2, j3⟩ := in_block xs c n _ h1
    obtain ⟨r, hr⟩ := out_more xs c (show j + 1 ≤ nBlk xs c by omega)
    obtain ⟨r', hr'⟩ := out_more ys c (show j + 1 ≤ nBlk xs c by omega)
    have s1 := out_same_len hb' j (by omega)
    have s2 := out_same_len hb' (j + 1) (by omega)
    rw [hr, set_near _ _ _ _ j3, hr'] at e1
    rw [hr, getD_left _ _ _ j3] at hv
    obtain ⟨e4, _⟩ := List.append_inj e1 (by rw [List.length_set, s2])
    rw [outTo, outTo, set_far _ _ _ _ j2] at e4
    rw [outTo, getD_right _ _ _ j2] at hv
    obtain ⟨_, e5⟩ := List.append_inj e4 s1.symm
    rw [outTo, List.length_append] at j3
    unfold blkAt at e5 hv
    have k1 := hx.2.2.2.1 j j1
    have k2 := hy.2.2.2.1 j (by omega)
    unfold blkAt at k1 k2 j3
    exact wrap_not k1 k2 (by omega) hv e5
  · rw [set_far _ _ _ _ (by omega)] at h
    rw [getD_right _ _ _ (by omega)] at hv
    obtain ⟨_, h⟩ := List.append_inj h g1.symm
    obtain ⟨m, hm⟩ : ∃ m, n - (outB xs c).length = m := ⟨_, rfl⟩
    rw [hm] at h hv
    by_cases h2 : m < (topB xs c).length
    · rw [set_near _ _ _ _ h2] at h
      rw [getD_left _ _ _ h2] at hv
      obtain ⟨e1, _⟩ := List.append_inj h (by rw [List.length_set, g2])
      have k1 := hx.2.2.2.2
      have k2 := hy.2.2.2.2
      unfold topB at e1 k1 k2 h2 hv
      exact wrap_not k1 k2 h2 hv e1
    · rw [set_far _ _ _ _ (by omega)] at h
      rw [getD_right _ _ _ (by omega)] at hv
      obtain ⟨_, h⟩ := List.append_inj h g2.symm
      have h3 : m - (topB xs c).length < (filB xs).length := by omega
      rw [set_near _ _ _ _ h3] at h
      rw [getD_left _ _ _ h3] at hv
      obtain ⟨e1, _⟩ := List.append_inj h (by rw [List.length_set, g3])
      have k1 := fil_ne xs hx.1
      have k2 := fil_ne ys hy.1
      unfold filB at e1 k1 k2 h3 hv
      exact wrap_not k1 k2 h3 hv e1
theorem no_first {xs ys : List Cel} {c d : Conf} (hx : tabOk xs c) (hy : tabOk ys d) : tableB ys d ≠ (tableB xs c).drop 1 := by
  intro h
  have h1 := table_len xs c
  have h2 := table_len ys d
  have hl : (tableB ys d).length = (tableB xs c).length - 1 := by rw [h, List.length_drop]
  have ht := table_tail ys d
  rw [hl, h, List.drop_drop, show 1 + ((tableB xs c).length - 1 - 38) = (tableB xs c).length - 38 by omega, table_tail] at ht
  obtain ⟨g1, g2, g3, _⟩ := footOf_told hx hy ht
  omega
end Go.Proofs.Ytkomnnijnggbpaa
