/- What a table is read as: its parts lie where its foot and its index tell. -/
import Derived.Test.YtkomnnijnggbpaaTabPure
import Derived.Test.YtkomnnijnggbpaaGotPure
namespace Go.Proofs.Ytkomnnijnggbpaa
open Go.RowKit
set_option linter.unusedVariables false

def endsRight (l : List UInt8) : Prop := 38 ≤ l.length ∧ l.drop (l.length - 6) = magicB
instance (l : List UInt8) : Decidable (endsRight l) := by unfold endsRight; infer_instance
def zeroConf : Conf := ⟨0, 0, false⟩
/-- What is told of a text: the list, the way and the code. -/
def Tab (l : List UInt8) (xs : List Cel) (c : Conf) (k : Nat) : Prop :=
  (k = 0 ∧ tabOk xs c ∧ tableB xs c = l) ∨ (xs = [] ∧ c = zeroConf ∧ k = (if endsRight l then 2 else 1) ∧ ∀ ys d, tabOk ys d → tableB ys d ≠ l)
theorem tab_some (l : List UInt8) : ∃ xs c k, Tab l xs c k := by
  by_cases h : ∃ ys d, tabOk ys d ∧ tableB ys d = l
  · obtain ⟨ys, d, h1, h2⟩ := h
    exact ⟨ys, d, 0, .inl ⟨rfl, h1, h2⟩⟩
  · exact ⟨[], zeroConf, _, .inr ⟨rfl, rfl, rfl, fun ys d h1 h2 => h ⟨ys, d, h1, h2⟩⟩⟩
theorem tab_one {l : List UInt8} {xs ys : List Cel} {c d : Conf} {k m : Nat} (h : Tab l xs c k) (h' : Tab l ys d m) : xs = ys ∧ c = d ∧ k = m := by
  rcases h with ⟨rfl, h1, h2⟩ | ⟨rfl, rfl, rfl, h2⟩
  · rcases h' with ⟨rfl, g1, g2⟩ | ⟨_, _, _, g2⟩
    · obtain ⟨e1, e2⟩ := table_told h1 g1 (by rw [h2, g2])
      exact ⟨e1, e2, rfl⟩
    · exact absurd h2 (g2 _ _ h1)
  · rcases h' with ⟨rfl, g1, g2⟩ | ⟨rfl, rfl, rfl, _⟩
    · exact absurd g2 (h2 _ _ g1)
    · exact ⟨rfl, rfl, rfl⟩
theorem tab_few {l : List UInt8} {xs : List Cel} {c : Conf} {k : Nat} (h : Tab l xs c k) : xs.length ≤ 60 ∧ cellsOk xs = true := by
  rcases h with ⟨_, h1, _⟩ | ⟨rfl, _, _, _⟩
  · exact ⟨h1.1, h1.2.1⟩
  · exact ⟨by simp, rfl⟩
theorem tab_fit {l : List UInt8} {xs : List Cel} {c : Conf} {k : Nat} (h : Tab l xs c k) : Fit xs := fit_ok (tab_few h).2

theorem table_ends (xs : List Cel) (c : Conf) : endsRight (tableB xs c) := by
  have h := table_len xs c
  refine ⟨by omega, ?_⟩
  have e : tableB xs c = (outB xs c ++ (topB xs c ++ (filB xs ++ footB (outB xs c).length (topB xs c).length (filB xs).length xs.length c))) ++ magicB := by
    unfold tableB
    simp
  have hl : (tableB xs c).length - 6 = (outB xs c ++ (topB xs c ++ (filB xs ++ footB (outB xs c).length (topB xs c).length (filB xs).length xs.length c))).length := by
    rw [e, List.length_append]
    simp [magicB]
  rw [hl, e, List.drop_left]
/-- A text that does not end so is no table. -/
theorem tab_foot {l : List UInt8} (h : ¬ endsRight l) : Tab l [] zeroConf 1 := .inr ⟨rfl, rfl, by rw [if_neg h], fun ys d _ e => h (by rw [← e]; exact table_ends ys d)⟩
theorem tab_form {l : List UInt8} (h : endsRight l) (hn : ∀ ys d, tabOk ys d → tableB ys d ≠ l) : Tab l [] zeroConf 2 := .inr ⟨rfl, rfl, by rw [if_pos h], hn⟩

theorem fix_at (n k : Nat) (l r : List UInt8) (h1 : 1 ≤ k) (h4 : k ≤ 4) (hn : n < 2 ^ (8 * k)) (a : Int) (ha : a = l.length) : getFix (l ++ (fixB n k ++ r)) a (k : Int) = (n : Int) := by
  subst ha
  unfold getFix
  rw [if_pos ⟨by omega, by omega, by omega, by simp only [List.length_append, fix_length]; omega⟩]
  rw [Int.toNat_natCast, Int.toNat_natCast, List.drop_left, List.take_append_of_le_length (by rw [fix_length]; omega), List.take_of_length_le (by rw [fix_length]; omega), fixVal_fix, Nat.mod_eq_of_lt hn]

/-- The numbers of a foot. -/
theorem foot_reads (ys : List Cel) (d : Conf) (hT : tabOk ys d) (F : Int) (hF : F = ((tableB ys d).length : Int) - 38) :
    getFix (tableB ys d) F 4 = ((outB ys d).length : Int) ∧ getFix (tableB ys d) (F + 4) 4 = ((topB ys d).length : Int) ∧ getFix (tableB ys d) (F + 8) 4 = (((outB ys d).length + (topB ys d).length : Nat) : Int) ∧ getFix (tableB ys d) (F + 12) 4 = ((filB ys).length : Int)
    ∧ getFix (tableB ys d) (F + 16) 4 = (ys.length : Int) ∧ getFix (tableB ys d) (F + 20) 4 = d.every ∧ getFix (tableB ys d) (F + 24) 4 = d.size ∧ getFix (tableB ys d) (F + 28) 4 = (flag d.pack : Int) := by
  obtain ⟨b1, b2, b3, _⟩ := tab_bounds hT
  have hlen := table_len ys d
  have hc := conf_in hT.2.2.1
  have h60 := hT.1
  have e1 : d.every = (d.every.toNat : Int) := by omega
  have e2 : d.size = (d.size.toNat : Int) := by omega
  have hfl : flag d.pack < 4294967296 := by unfold flag; split <;> omega
  obtain ⟨P, hP⟩ : ∃ P, outB ys d ++ (topB ys d ++ filB ys) = P := ⟨_, rfl⟩
  have hPl : (P.length : Int) = F := by
    have : P.length = (outB ys d).length + (topB ys d).length + (filB ys).length := by rw [← hP]; simp; omega
    omega
  have ht : tableB ys d = P ++ (footB (outB ys d).length (topB ys d).length (filB ys).length ys.length d ++ magicB) := by
    rw [← hP]
    unfold tableB
    simp
  rw [e1, e2, ht]
  unfold footB
  obtain ⟨x0, hx0⟩ : ∃ x, (outB ys d).length = x := ⟨_, rfl⟩
  obtain ⟨x1, hx1⟩ : ∃ x, (topB ys d).length = x := ⟨_, rfl⟩
  obtain ⟨x2, hx2⟩ : ∃ x, (filB ys).length = x := ⟨_, rfl⟩
  rw [hx0, hx1, hx2]
  have q0 : x0 < 4294967296 := by omega
  have q1 : x1 < 4294967296 := by omega
  have q2 : x0 + x1 < 4294967296 := by omega
  have q3 : x2 < 4294967296 := by omega
  have q4 : ys.length < 4294967296 := by omega
  have q5 : d.every.toNat < 4294967296 := by omega
  have q6 : d.size.toNat < 4294967296 := by omega
  obtain ⟨z4, hz4⟩ : ∃ x, ys.length = x := ⟨_, rfl⟩
  obtain ⟨z5, hz5⟩ : ∃ x, d.every.toNat = x := ⟨_, rfl⟩
  obtain ⟨z6, hz6⟩ : ∃ x, d.size.toNat = x := ⟨_, rfl⟩
  obtain ⟨z7, hz7⟩ : ∃ x, flag d.pack = x := ⟨_, rfl⟩
  rw [hz4] at q4 ⊢
  rw [hz5] at q5 ⊢
  rw [hz6] at q6 ⊢
  rw [hz7] at hfl ⊢
  clear hz4 hz5 hz6 hz7 hx0 hx1 hx2 e1 e2 ht hP b1 b2 b3 hlen hc h60 hT
  have L : ∀ x, (fixB x 4).length = 4 := fun x => fix_length x 4
  refine ⟨?_, ?_, ?_, ?_, ?_, ?_, ?_, ?_⟩
  · rw [List.append_assoc]
    exact fix_at _ 4 P _ (by omega) (by omega) (by omega) _ hPl.symm
  · rw [show P ++ ((fixB x0 4 ++ (fixB x1 4 ++ (fixB (x0 + x1) 4 ++ (fixB x2 4 ++ (fixB z4 4 ++ (fixB z5 4 ++ (fixB z6 4 ++ fixB z7 4))))))) ++ magicB) = (P ++ fixB x0 4) ++ (fixB x1 4 ++ ((fixB (x0 + x1) 4 ++ (fixB x2 4 ++ (fixB z4 4 ++ (fixB z5 4 ++ (fixB z6 4 ++ fixB z7 4))))) ++ magicB)) by simp]
    exact fix_at _ 4 _ _ (by omega) (by omega) (by omega) _ (by simp only [List.length_append, L]; omega)
  · rw [show P ++ ((fixB x0 4 ++ (fixB x1 4 ++ (fixB (x0 + x1) 4 ++ (fixB x2 4 ++ (fixB z4 4 ++ (fixB z5 4 ++ (fixB z6 4 ++ fixB z7 4))))))) ++ magicB) = (P ++ (fixB x0 4 ++ fixB x1 4)) ++ (fixB (x0 + x1) 4 ++ ((fixB x2 4 ++ (fixB z4 4 ++ (fixB z5 4 ++ (fixB z6 4 ++ fixB z7 4)))) ++ magicB)) by simp]
    exact fix_at _ 4 _ _ (by omega) (by omega) (by omega) _ (by simp only [List.length_append, L]; omega)
  · rw [show P ++ ((fixB x0 4 ++ (fixB x1 4 ++ (fixB (x0 + x1) 4 ++ (fixB x2 4 ++ (fixB z4 4 ++ (fixB z5 4 ++ (fixB z6 4 ++ fixB z7 4))))))) ++ magicB) = (P ++ (fixB x0 4 ++ (fixB x1 4 ++ fixB (x0 + x1) 4))) ++ (fixB x2 4 ++ ((fixB z4 4 ++ (fixB z5 4 ++ (fixB z6 4 ++ fixB z7 4))) ++ magicB)) by simp]
    exact fix_at _ 4 _ _ (by omega) (by omega) (by omega) _ (by simp only [List.length_append, L]; omega)
  · rw [show P ++ ((fixB x0 4 ++ (fixB x1 4 ++ (fixB (x0 + x1) 4 ++ (fixB x2 4 ++ (fixB z4 4 ++ (fixB z5 4 ++ (fixB z6 4 ++ fixB z7 4))))))) ++ magicB) = (P ++ (fixB x0 4 ++ (fixB x1 4 ++ (fixB (x0 + x1) 4 ++ fixB x2 4)))) ++ (fixB z4 4 ++ ((fixB z5 4 ++ (fixB z6 4 ++ fixB z7 4)) ++ magicB)) by simp]
    exact fix_at _ 4 _ _ (by omega) (by omega) (by omega) _ (by simp only [List.length_append, L]; omega)
  · rw [show P ++ ((fixB x0 4 ++ (fixB x1 4 ++ (fixB (x0 + x1) 4 ++ (fixB x2 4 ++ (fixB z4 4 ++ (fixB z5 4 ++ (fixB z6 4 ++ fixB z7 4))))))) ++ magicB) = (P ++ (fixB x0 4 ++ (fixB x1 4 ++ (fixB (x0 + x1) 4 ++ (fixB x2 4 ++ fixB z4 4))))) ++ (fixB z5 4 ++ ((fixB z6 4 ++ fixB z7 4) ++ magicB)) by simp]
    exact fix_at _ 4 _ _ (by omega) (by omega) (by omega) _ (by simp only [List.length_append, L]; omega)
  · rw [show P ++ ((fixB x0 4 ++ (fixB x1 4 ++ (fixB (x0 + x1) 4 ++ (fixB x2 4 ++ (fixB z4 4 ++ (fixB z5 4 ++ (fixB z6 4 ++ fixB z7 4))))))) ++ magicB) = (P ++ (fixB x0 4 ++ (fixB x1 4 ++ (fixB (x0 + x1) 4 ++ (fixB x2 4 ++ (fixB z4 4 ++ fixB z5 4)))))) ++ (fixB z6 4 ++ (fixB z7 4 ++ magicB)) by simp]
    exact fix_at _ 4 _ _ (by omega) (by omega) (by omega) _ (by simp only [List.length_append, L]; omega)
  · rw [show P ++ ((fixB x0 4 ++ (fixB x1 4 ++ (fixB (x0 + x1) 4 ++ (fixB x2 4 ++ (fixB z4 4 ++ (fixB z5 4 ++ (fixB z6 4 ++ fixB z7 4))))))) ++ magicB) = (P ++ (fixB x0 4 ++ (fixB x1 4 ++ (fixB (x0 + x1) 4 ++ (fixB x2 4 ++ (fixB z4 4 ++ (fixB z5 4 ++ fixB z6 4))))))) ++ (fixB z7 4 ++ magicB) by simp]
    exact fix_at _ 4 _ _ (by omega) (by omega) (by omega) _ (by simp only [List.length_append, L]; omega)
/-- The index of a table, and the filter. -/
theorem top_at (ys : List Cel) (d : Conf) : ((tableB ys d).drop (outB ys d).length).take (topB ys d).length = topB ys d := by
  unfold tableB
  rw [List.drop_left, List.take_left]
theorem fil_at (ys : List Cel) (d : Conf) : ((tableB ys d).drop ((outB ys d).length + (topB ys d).length)).take (filB ys).length = filB ys := by
  unfold tableB
  rw [← List.drop_drop, List.drop_left, List.drop_left, List.take_left]
theorem top_read {ys : List Cel} {d : Conf} (hT : tabOk ys d) : unwrapB (topB ys d) = (idxTo ys d (nBlk ys d), 0) := by
  have h := hT.2.2.2.2
  unfold topB at h ⊢
  exact unwrap_wrap _ (wrap_some h)
theorem fil_read {ys : List Cel} (h : ys.length ≤ 60) : unwrapB (filB ys) = (filterB (ys.map nameKey), 0) := by
  unfold filB
  refine unwrap_wrap _ ?_
  rw [filter_len (by rw [List.length_map]; omega)]
  have := fsize_le (n := (ys.map nameKey).length) (by rw [List.length_map]; omega)
  omega

/-- What an entry of an index tells: that it is there, and of which cells. -/
def EntTold (s I : List UInt8) (a : Nat) (every : Int) (zs : List Cel) (b : Nat) : Prop :=
  ∃ (pre key rest before after : List UInt8) (p : Bool), I = pre ++ (varB key.length ++ (key ++ (varB before.length ++ (varB (wrapB (putBlock zs every) p).length ++ rest)))) ∧ pre.length = a ∧ s = before ++ (wrapB (putBlock zs every) p ++ after) ∧ putBlock zs every ≠ [] ∧ wrapB (putBlock zs every) p ≠ [] ∧ b + rest.length = I.length ∧ key.length ≤ 100 ∧ before.length ≤ 1000000
theorem told_reads {s I : List UInt8} {a b : Nat} {every : Int} {zs : List Cel} (h : EntTold s I a every zs b) :
    ∃ g1 g2 g3 : List UInt8, getVarAt I (a : Int) = some g1 ∧ a + g1.length + varVal g1 ≤ I.length ∧ getVarAt I ((a + g1.length + varVal g1 : Nat) : Int) = some g2 ∧ getVarAt I ((a + g1.length + varVal g1 + g2.length : Nat) : Int) = some g3 ∧
      varVal g2 + varVal g3 ≤ s.length ∧ unwrapB ((s.drop (varVal g2)).take (varVal g3)) = (putBlock zs every, 0) ∧ Got (putBlock zs every) every zs true ∧ b = a + g1.length + varVal g1 + g2.length + g3.length := by
  obtain ⟨pre, key, rest, before, after, p, h1, h2, h3, h4, h5, h6, h7, h8⟩ := h
  have hwl := wrap_most (putBlock zs every) p
  obtain ⟨W, hW⟩ : ∃ W, wrapB (putBlock zs every) p = W := ⟨_, rfl⟩
  have e1 := getVar_back key.length (by omega) pre (key ++ (varB before.length ++ (varB W.length ++ rest)))
  have e2 := getVar_back before.length (by omega) (pre ++ (varB key.length ++ key)) (varB W.length ++ rest)
  have e3 := getVar_back W.length (by rw [← hW]; omega) (pre ++ (varB key.length ++ (key ++ varB before.length))) rest
  rw [hW] at h1 h3 hwl
  have l2 : (pre ++ (varB key.length ++ key)).length = a + (varB key.length).length + key.length := by simp; omega
  have l3 : (pre ++ (varB key.length ++ (key ++ varB before.length))).length = a + (varB key.length).length + key.length + (varB before.length).length := by simp; omega
  rw [l2] at e2
  rw [l3] at e3
  have a2 : (pre ++ (varB key.length ++ key)) ++ (varB before.length ++ (varB W.length ++ rest)) = I := by rw [h1]; simp
  have a3 : (pre ++ (varB key.length ++ (key ++ varB before.length))) ++ (varB W.length ++ rest) = I := by rw [h1]; simp
  rw [a2] at e2
  rw [a3] at e3
  rw [← h1, h2] at e1
  have hil : I.length = a + (varB key.length).length + key.length + (varB before.length).length + (varB W.length).length + rest.length := by rw [h1]; simp; omega
  refine ⟨varB key.length, varB before.length, varB W.length, e1, ?_, ?_, ?_, ?_, ?_, .inl ⟨rfl, rfl, h4⟩, ?_⟩
  · rw [varVal_var]; omega
  · rw [varVal_var]; exact e2
  · rw [varVal_var]; exact e3
  · rw [varVal_var, varVal_var, h3]; simp
  · rw [varVal_var, varVal_var, h3, List.drop_left, List.take_left, ← hW]
    exact unwrap_wrap _ (wrap_some h5)
  · rw [varVal_var]; omega
theorem told_one {s I : List UInt8} {a b b' : Nat} {every : Int} {zs zs' : List Cel} (h : EntTold s I a every zs b) (h' : EntTold s I a every zs' b') : zs = zs' ∧ b = b' := by
  obtain ⟨g1, g2, g3, e1, _, e2, e3, _, e5, e6, e7⟩ := told_reads h
  obtain ⟨k1, k2, k3, f1, _, f2, f3, _, f5, f6, f7⟩ := told_reads h'
  rw [e1] at f1
  cases f1
  rw [e2] at f2
  cases f2
  rw [e3] at f3
  cases f3
  rw [e5] at f5
  have := (Prod.mk.inj f5).1
  rw [this] at e6
  exact ⟨(got_one e6 f6).1, by rw [e7, f7]⟩
theorem idx_more (ys : List Cel) (d : Conf) {k n : Nat} (h : k ≤ n) : ∃ r, idxTo ys d n = idxTo ys d k ++ r := by
  induction n with
  | zero => obtain rfl : k = 0 := by omega
            exact ⟨[], by simp⟩
  | succ n ih =>
    by_cases e : k = n + 1
    · subst e; exact ⟨[], by simp⟩
    · obtain ⟨r, hr⟩ := ih (by omega)
      exact ⟨r ++ idxAt ys d n, by rw [idxTo, hr, List.append_assoc]⟩
theorem out_more (ys : List Cel) (d : Conf) {k n : Nat} (h : k ≤ n) : ∃ r, outTo ys d n = outTo ys d k ++ r := by
  induction n with
  | zero => obtain rfl : k = 0 := by omega
            exact ⟨[], by simp⟩
  | succ n ih =>
    by_cases e : k = n + 1
    · subst e; exact ⟨[], by simp⟩
    · obtain ⟨r, hr⟩ := ih (by omega)
      exact ⟨r ++ blkAt ys d n, by rw [outTo, hr, List.append_assoc]⟩
theorem last_small {xs : List Cel} (h : cellsOk xs = true) : (lastOf [] xs).length ≤ 100 := by
  unfold lastOf
  cases hx : xs.getLast? with
  | none => simp
  | some x =>
    have := key_small (all_ok h x (List.mem_of_getLast? hx))
    show (celKey x).length ≤ 100
    omega
/-- Each entry of a table's index tells its block. -/
theorem told_at {ys : List Cel} {d : Conf} (hT : tabOk ys d) {k : Nat} (hk : k < nBlk ys d) :
    EntTold (tableB ys d) (idxTo ys d (nBlk ys d)) (idxTo ys d k).length d.every (partAt d.size.toNat k ys) (idxTo ys d (k + 1)).length := by
  obtain ⟨r, hr⟩ := idx_more ys d (show k + 1 ≤ nBlk ys d by omega)
  obtain ⟨q, hq⟩ := out_more ys d (show k + 1 ≤ nBlk ys d by omega)
  have hb := (tab_bounds hT).1
  have ho : (outTo ys d k).length ≤ (outB ys d).length := by
    unfold outB
    rw [hq, outTo]
    simp
  refine ⟨idxTo ys d k, lastOf [] (partAt d.size.toNat k ys), r, outTo ys d k, q ++ (topB ys d ++ (filB ys ++ (footB (outB ys d).length (topB ys d).length (filB ys).length ys.length d ++ magicB))), d.pack, ?_, rfl, ?_, part_block hT.2.1 hT.2.2.1 hk, hT.2.2.2.1 k hk, ?_, last_small (cells_part hT.2.1 _ _), by omega⟩
  · rw [hr, idxTo]
    unfold idxAt blkAt
    simp only [List.append_assoc]
  · unfold tableB
    rw [show outB ys d = outTo ys d k ++ (blkAt ys d k ++ q) by unfold outB; rw [hq, outTo, List.append_assoc]]
    unfold blkAt
    simp only [List.append_assoc]
  · rw [hr, List.length_append]
theorem idx_step (ys : List Cel) (d : Conf) (k : Nat) : (idxTo ys d k).length < (idxTo ys d (k + 1)).length := by
  rw [idxTo, List.length_append]
  unfold idxAt
  have := List.length_pos_iff.2 (var_ne (lastOf [] (partAt d.size.toNat k ys)).length)
  simp only [List.length_append]
  omega
theorem idx_mono (ys : List Cel) (d : Conf) {k n : Nat} (h : k < n) : (idxTo ys d k).length < (idxTo ys d n).length := by
  obtain ⟨r, hr⟩ := idx_more ys d (show k + 1 ≤ n by omega)
  have := idx_step ys d k
  rw [hr, List.length_append]
  omega
theorem take_part (ys : List Cel) (z k : Nat) : ys.take ((k + 1) * z) = ys.take (k * z) ++ partAt z k ys := by
  rw [Nat.succ_mul, List.take_add]
  rfl
end Go.Proofs.Ytkomnnijnggbpaa
