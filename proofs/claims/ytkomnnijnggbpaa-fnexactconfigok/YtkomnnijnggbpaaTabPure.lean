/- Tables as the document has them: blocks with an index, a filter and a foot; a table is of one list and one way alone. -/
import Derived.Test.YtkomnnijnggbpaaBlockMore
import Derived.Test.YtkomnnijnggbpaaWrapPure
import Derived.Test.YtkomnnijnggbpaaFilPure
import Derived.Test.YtkomnnijnggbpaaJoinC
namespace Go.Proofs.Ytkomnnijnggbpaa
open Go.RowKit
set_option linter.unusedVariables false

/-- How a table is put. -/
structure Conf where
  every : Int
  size : Int
  pack : Bool
def confOk (c : Conf) : Bool := decide (1 ≤ c.every) && decide (c.every ≤ 16) && decide (1 ≤ c.size) && decide (c.size ≤ 50)
theorem conf_in {c : Conf} (h : confOk c = true) : 1 ≤ c.every ∧ c.every ≤ 16 ∧ 1 ≤ c.size ∧ c.size ≤ 50 := by
  unfold confOk at h
  simp only [Bool.and_eq_true, decide_eq_true_eq] at h
  exact ⟨h.1.1.1, h.1.1.2, h.1.2, h.2⟩
/-- The cells of one block. -/
def partAt (n j : Nat) (xs : List Cel) : List Cel := (xs.drop (j * n)).take n
def blkAt (xs : List Cel) (c : Conf) (j : Nat) : List UInt8 := wrapB (putBlock (partAt c.size.toNat j xs) c.every) c.pack
def outTo (xs : List Cel) (c : Conf) : Nat → List UInt8
  | 0 => []
  | k + 1 => outTo xs c k ++ blkAt xs c k
def idxAt (xs : List Cel) (c : Conf) (j : Nat) : List UInt8 :=
  varB (lastOf [] (partAt c.size.toNat j xs)).length ++ (lastOf [] (partAt c.size.toNat j xs) ++ (varB (outTo xs c j).length ++ varB (blkAt xs c j).length))
def idxTo (xs : List Cel) (c : Conf) : Nat → List UInt8
  | 0 => []
  | k + 1 => idxTo xs c k ++ idxAt xs c k
def nBlk (xs : List Cel) (c : Conf) : Nat := (xs.length + c.size.toNat - 1) / c.size.toNat
def nameKey (x : Cel) : List UInt8 := x.row.data.toList ++ 0 :: x.col.data.toList
def topB (xs : List Cel) (c : Conf) : List UInt8 := wrapB (idxTo xs c (nBlk xs c)) c.pack
def filB (xs : List Cel) : List UInt8 := wrapB (filterB (xs.map nameKey)) false
def flag (p : Bool) : Nat := if p then 1 else 0
def footB (a b f n : Nat) (c : Conf) : List UInt8 := fixB a 4 ++ (fixB b 4 ++ (fixB (a + b) 4 ++ (fixB f 4 ++ (fixB n 4 ++ (fixB c.every.toNat 4 ++ (fixB c.size.toNat 4 ++ fixB (flag c.pack) 4))))))
def magicB : List UInt8 := [83, 72, 69, 76, 70, 49]
def outB (xs : List Cel) (c : Conf) : List UInt8 := outTo xs c (nBlk xs c)
def tableB (xs : List Cel) (c : Conf) : List UInt8 := outB xs c ++ (topB xs c ++ (filB xs ++ (footB (outB xs c).length (topB xs c).length (filB xs).length xs.length c ++ magicB)))
/-- What a table can be put of. -/
def tabOk (xs : List Cel) (c : Conf) : Prop := xs.length ≤ 60 ∧ cellsOk xs = true ∧ confOk c = true ∧ (∀ j, j < nBlk xs c → blkAt xs c j ≠ []) ∧ topB xs c ≠ []
instance (xs : List Cel) (c : Conf) : Decidable (tabOk xs c) := by unfold tabOk; infer_instance
def putTable (xs : List Cel) (c : Conf) : List UInt8 := if tabOk xs c then tableB xs c else []

theorem foot_len (a b f n : Nat) (c : Conf) : (footB a b f n c).length = 32 := by unfold footB; simp [fix_length]
theorem table_len (xs : List Cel) (c : Conf) : (tableB xs c).length = (outB xs c).length + (topB xs c).length + (filB xs).length + 38 := by
  unfold tableB
  simp only [List.length_append, foot_len]
  simp [magicB]
  omega
theorem table_ne (xs : List Cel) (c : Conf) : tableB xs c ≠ [] := by
  intro h
  have := table_len xs c
  rw [h] at this
  simp at this
theorem part_len {xs : List Cel} {n j : Nat} (h : j * n < xs.length) (hn : 1 ≤ n) : 1 ≤ (partAt n j xs).length ∧ (partAt n j xs).length ≤ n := by
  unfold partAt
  rw [List.length_take, List.length_drop]
  omega
theorem blk_in {xs : List Cel} {c : Conf} (hc : confOk c = true) {j : Nat} (h : j < nBlk xs c) : j * c.size.toNat < xs.length := by
  have := conf_in hc
  unfold nBlk at h
  have h1 : 1 ≤ c.size.toNat := by omega
  have h2 := Nat.div_mul_le_self (xs.length + c.size.toNat - 1) c.size.toNat
  have h3 : (j + 1) * c.size.toNat ≤ (xs.length + c.size.toNat - 1) / c.size.toNat * c.size.toNat := Nat.mul_le_mul_right _ h
  rw [Nat.succ_mul] at h3
  omega
theorem cells_part {xs : List Cel} (h : cellsOk xs = true) (n j : Nat) : cellsOk (partAt n j xs) = true := by
  obtain ⟨h1, h2⟩ := (cellsOk_iff xs).1 h
  refine (cellsOk_iff _).2 ⟨fun x hx => h1 x (List.mem_of_mem_drop (List.mem_of_mem_take hx)), ?_⟩
  unfold partAt
  exact (h2.sublist (List.drop_sublist _ _)).sublist (List.take_sublist _ _)
theorem out_le (xs : List Cel) (c : Conf) (k : Nat) : (outTo xs c k).length ≤ 2005 * k := by
  induction k with
  | zero => simp [outTo]
  | succ k ih =>
    rw [outTo, List.length_append]
    have := wrap_most (putBlock (partAt c.size.toNat k xs) c.every) c.pack
    unfold blkAt
    omega
theorem nblk_le {xs : List Cel} {c : Conf} (hc : confOk c = true) : nBlk xs c ≤ xs.length := by
  by_cases h : nBlk xs c = 0
  · omega
  · have := blk_in (xs := xs) hc (j := nBlk xs c - 1) (by omega)
    have h1 := conf_in hc
    have h2 : (nBlk xs c - 1) * 1 ≤ (nBlk xs c - 1) * c.size.toNat := Nat.mul_le_mul_left _ (by omega)
    omega

theorem wrap_some {l : List UInt8} {p : Bool} (h : wrapB l p ≠ []) : l.length ≤ 2000 := by
  by_cases hl : l.length ≤ 2000
  · exact hl
  · exact absurd (wrap_long p (by omega)) h
theorem wrap_inj {a b : List UInt8} {p : Bool} (h : wrapB a p = wrapB b p) (hne : wrapB a p ≠ []) : a = b := by
  have h1 := unwrap_wrap p (wrap_some hne)
  rw [h] at hne
  have h2 := unwrap_wrap p (wrap_some hne)
  rw [h, h2] at h1
  exact (Prod.mk.inj h1).1.symm
theorem idx_flat (xs : List Cel) (c : Conf) (k : Nat) : idxTo xs c k = (List.range k).flatMap (idxAt xs c) := by
  induction k with
  | zero => rfl
  | succ k ih => rw [idxTo, ih, List.range_succ, List.flatMap_append]; simp
theorem idx_told {xs ys : List Cel} {c : Conf} : ∀ (js : List Nat) {r r' : List UInt8}, js.flatMap (idxAt xs c) ++ r = js.flatMap (idxAt ys c) ++ r' → (∀ j ∈ js, (blkAt xs c j).length = (blkAt ys c j).length) ∧ r = r'
  | [], r, r', h => ⟨fun j hj => by simp at hj, by simpa using h⟩
  | j :: js, r, r', h => by
    rw [List.flatMap_cons, List.flatMap_cons] at h
    unfold idxAt at h
    simp only [List.append_assoc] at h
    obtain ⟨e1, h⟩ := var_first h
    obtain ⟨_, h⟩ := List.append_inj h e1
    obtain ⟨_, h⟩ := var_first h
    obtain ⟨e2, h⟩ := var_first h
    obtain ⟨h1, h2⟩ := idx_told js h
    exact ⟨fun i hi => by rcases List.mem_cons.1 hi with rfl | hi; exact e2; exact h1 i hi, h2⟩
theorem out_told {xs ys : List Cel} {c : Conf} : ∀ (k : Nat), (∀ j, j < k → (blkAt xs c j).length = (blkAt ys c j).length) → outTo xs c k = outTo ys c k → ∀ j, j < k → blkAt xs c j = blkAt ys c j
  | 0, _, _, j, hj => absurd hj (by omega)
  | k + 1, hl, h, j, hj => by
    rw [outTo, outTo] at h
    obtain ⟨h1, h2⟩ := List.append_inj' h (hl k (by omega))
    by_cases e : j = k
    · subst e; exact h2
    · exact out_told k (fun i hi => hl i (by omega)) h1 j (by omega)
theorem take_told {xs ys : List Cel} {n : Nat} : ∀ (k : Nat), (∀ j, j < k → partAt n j xs = partAt n j ys) → xs.take (k * n) = ys.take (k * n)
  | 0, _ => by simp
  | k + 1, h => by
    rw [Nat.succ_mul, List.take_add, List.take_add, take_told k (fun j hj => h j (by omega))]
    have := h k (by omega)
    unfold partAt at this
    rw [this]
theorem nblk_all {xs : List Cel} {c : Conf} (hc : confOk c = true) : xs.length ≤ nBlk xs c * c.size.toNat := by
  have := conf_in hc
  unfold nBlk
  have h1 : 1 ≤ c.size.toNat := by omega
  have h2 := Nat.lt_div_mul_add (a := xs.length + c.size.toNat - 1) (b := c.size.toNat) (by omega)
  omega
theorem part_block {xs : List Cel} {c : Conf} (hok : cellsOk xs = true) (hc : confOk c = true) {j : Nat} (hj : j < nBlk xs c) : putBlock (partAt c.size.toNat j xs) c.every ≠ [] := by
  have h := conf_in hc
  have h1 := (part_len (n := c.size.toNat) (blk_in hc hj) (by omega)).2
  obtain ⟨e, he⟩ := Int.eq_ofNat_of_zero_le (show 0 ≤ c.every by omega)
  rw [he, putBlock_yes (by omega) (cells_part hok _ _) (by omega) (by omega)]
  exact block_ne _ _
/-- A table of one way is of one list alone. -/
theorem cells_told {xs ys : List Cel} {c : Conf} (hx : tabOk xs c) (hy : tabOk ys c) (hl : xs.length = ys.length) (ho : outB xs c = outB ys c) (ht : topB xs c = topB ys c) : xs = ys := by
  have hn : nBlk ys c = nBlk xs c := by unfold nBlk; rw [hl]
  have hi : idxTo xs c (nBlk xs c) = idxTo ys c (nBlk xs c) := by
    unfold topB at ht
    have h2 := hx.2.2.2.2
    unfold topB at h2
    rw [hn] at ht
    exact wrap_inj ht h2
  rw [idx_flat, idx_flat] at hi
  have h3 := (idx_told (xs := xs) (ys := ys) (c := c) (List.range (nBlk xs c)) (r := []) (r' := []) (by rw [hi])).1
  unfold outB at ho
  rw [hn] at ho
  have h4 := out_told (nBlk xs c) (fun j hj => h3 j (List.mem_range.2 hj)) ho
  have h5 : ∀ j, j < nBlk xs c → partAt c.size.toNat j xs = partAt c.size.toNat j ys := fun j hj => by
    have h6 := wrap_inj (h4 j hj) (hx.2.2.2.1 j hj)
    exact putBlock_told h6 (part_block hx.2.1 hx.2.2.1 hj)
  have h6 := take_told (nBlk xs c) h5
  have h7 := nblk_all (xs := xs) hx.2.2.1
  rw [List.take_of_length_le h7, List.take_of_length_le (by omega)] at h6
  exact h6
theorem foot_told {a b f n a' b' f' n' : Nat} {c c' : Conf} (h : footB a b f n c = footB a' b' f' n' c') (ha : a < 4294967296) (ha' : a' < 4294967296) (hb : b < 4294967296) (hb' : b' < 4294967296) (hf : f < 4294967296) (hf' : f' < 4294967296) (hn : n < 4294967296) (hn' : n' < 4294967296) (hc : confOk c = true) (hc' : confOk c' = true) :
    a = a' ∧ b = b' ∧ f = f' ∧ n = n' ∧ c = c' := by
  have i1 := conf_in hc
  have i2 := conf_in hc'
  unfold footB at h
  have L : ∀ x, (fixB x 4).length = 4 := fun x => fix_length x 4
  obtain ⟨h1, h⟩ := List.append_inj h (by rw [L, L])
  obtain ⟨h2, h⟩ := List.append_inj h (by rw [L, L])
  obtain ⟨_, h⟩ := List.append_inj h (by rw [L, L])
  obtain ⟨h3, h⟩ := List.append_inj h (by rw [L, L])
  obtain ⟨h4, h⟩ := List.append_inj h (by rw [L, L])
  obtain ⟨h5, h⟩ := List.append_inj h (by rw [L, L])
  obtain ⟨h6, h7⟩ := List.append_inj h (by rw [L, L])
  have F : ∀ {x y : Nat}, fixB x 4 = fixB y 4 → x < 4294967296 → y < 4294967296 → x = y := fun {x y} e hx hy => by
    have := fix_inj e
    rw [Nat.mod_eq_of_lt (by omega), Nat.mod_eq_of_lt (by omega)] at this
    exact this
  have g1 := F h1 ha ha'
  have g2 := F h2 hb hb'
  have g3 := F h3 hf hf'
  have g4 := F h4 hn hn'
  have g5 := F h5 (by omega) (by omega)
  have g6 := F h6 (by omega) (by omega)
  have g7 := F h7 (by unfold flag; split <;> omega) (by unfold flag; split <;> omega)
  refine ⟨g1, g2, g3, g4, ?_⟩
  obtain ⟨e, s, p⟩ := c
  obtain ⟨e', s', p'⟩ := c'
  simp only at g5 g6 g7 i1 i2
  have k1 : e = e' := by omega
  have k2 : s = s' := by omega
  have k3 : p = p' := by cases p <;> cases p' <;> simp [flag] at g7 <;> rfl
  rw [k1, k2, k3]
theorem tab_bounds {xs : List Cel} {c : Conf} (h : tabOk xs c) : (outB xs c).length ≤ 120300 ∧ (topB xs c).length ≤ 2005 ∧ (filB xs).length ≤ 2005 ∧ 5 ≤ (filB xs).length := by
  have h1 := nblk_le (xs := xs) h.2.2.1
  have h2 := out_le xs c (nBlk xs c)
  have h3 := h.1
  have hf : (filterB (xs.map nameKey)).length ≤ 250 := by
    rw [filter_len (by rw [List.length_map]; omega)]
    exact fsize_le (by rw [List.length_map]; omega)
  refine ⟨by unfold outB; omega, wrap_most _ _, wrap_most _ _, ?_⟩
  unfold filB
  rw [wrap_false (by omega)]
  omega
/-- A table is of one list and one way alone. -/
theorem table_told {xs ys : List Cel} {c d : Conf} (hx : tabOk xs c) (hy : tabOk ys d) (h : tableB xs c = tableB ys d) : xs = ys ∧ c = d := by
  obtain ⟨x1, x2, x3, _⟩ := tab_bounds hx
  obtain ⟨y1, y2, y3, _⟩ := tab_bounds hy
  have x4 := hx.1
  have y4 := hy.1
  have h0 := h
  unfold tableB at h
  have e : ∀ (zs : List Cel) (d : Conf), outB zs d ++ (topB zs d ++ (filB zs ++ (footB (outB zs d).length (topB zs d).length (filB zs).length zs.length d ++ magicB))) = (outB zs d ++ (topB zs d ++ filB zs)) ++ (footB (outB zs d).length (topB zs d).length (filB zs).length zs.length d ++ magicB) := fun zs d => by simp
  rw [e, e] at h
  obtain ⟨h1, h2⟩ := List.append_inj' h (by rw [List.length_append, List.length_append, foot_len, foot_len])
  obtain ⟨h3, _⟩ := List.append_inj h2 (by rw [foot_len, foot_len])
  obtain ⟨g1, g2, g3, g4, rfl⟩ := foot_told h3 (by omega) (by omega) (by omega) (by omega) (by omega) (by omega) (by omega) (by omega) hx.2.2.1 hy.2.2.1
  obtain ⟨k1, k2⟩ := List.append_inj h1 g1
  obtain ⟨k3, _⟩ := List.append_inj k2 g2
  exact ⟨cells_told hx hy g4 k1 k3, rfl⟩
end Go.Proofs.Ytkomnnijnggbpaa
