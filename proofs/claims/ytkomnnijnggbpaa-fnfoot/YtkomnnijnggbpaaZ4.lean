/- Plain mathematics of seals: what is sealed is opened; a byte that was changed is told. -/
import Derived.Test.YtkomnnijnggbpaaZ0
import Derived.Test.YtkomnnijnggbpaaOpened
namespace Go.Proofs.Ytkomnnijnggbpaa
open Go.RowKit
set_option linter.unusedVariables false

theorem opened_sealed (l : List UInt8) : opened1 (sealedB l) = l ∧ opened2 (sealedB l) = true := by
 have hl := sealed_len l
 have ht : (sealedB l).take ((sealedB l).length - 4) = l := by
   rw [hl, Nat.add_sub_cancel]
   unfold sealedB
   exact List.take_left' rfl
 have := opened_yes (l := sealedB l) ⟨by omega, by rw [ht]⟩
 rw [ht] at this
 exact this

theorem opened_back {l : List UInt8} (h : opened2 l = true) : sealedB (opened1 l) = l := by
 by_cases hc : 4 ≤ l.length ∧ sealedB (l.take (l.length - 4)) = l
 · rw [(opened_yes hc).1]; exact hc.2
 · rw [(opened_no hc).2] at h; cases h

def wrapB (l : List UInt8) (pack : Bool) : List UInt8 :=
 if 2000 < l.length then [] else if pack = true ∧ (compress l).length < l.length then sealedB (compress l ++ [1]) else sealedB (l ++ [0])
def markOf (x : List UInt8) : Nat := (x.getD (x.length - 1) 0).toNat
def bodyOf (x : List UInt8) : List UInt8 := x.take (x.length - 1)
def textOf (x : List UInt8) : List UInt8 := if markOf x = 1 then expand1 (bodyOf x) else bodyOf x
def unwrapB (l : List UInt8) : List UInt8 × Nat :=
 if l.length < 5 then ([], 1) else if opened2 l = false then ([], 2) else if 1 < markOf (opened1 l) then ([], 3)
 else if wrapB (textOf (opened1 l)) (decide (markOf (opened1 l) = 1)) = l then (textOf (opened1 l), 0) else ([], 4)

theorem wrap_long {l : List UInt8} (p : Bool) (h : 2000 < l.length) : wrapB l p = [] := by unfold wrapB; rw [if_pos h]
theorem wrap_packed {l : List UInt8} (h : l.length ≤ 2000) (hc : (compress l).length < l.length) : wrapB l true = sealedB (compress l ++ [1]) := by
 unfold wrapB
 rw [if_neg (by omega), if_pos ⟨rfl, hc⟩]
theorem wrap_plain {l : List UInt8} {p : Bool} (h : l.length ≤ 2000) (hc : p = true → l.length ≤ (compress l).length) : wrapB l p = sealedB (l ++ [0]) := by
 unfold wrapB
 rw [if_neg (by omega), if_neg (fun ⟨h1, h2⟩ => by have := hc h1; omega)]
theorem mark_last (a : List UInt8) (c : UInt8) : markOf (a ++ [c]) = c.toNat := by
 unfold markOf
 simp [List.getD_eq_getElem?_getD]
theorem body_last (a : List UInt8) (c : UInt8) : bodyOf (a ++ [c]) = a := by
 unfold bodyOf
 simp
theorem wrapB_len {l : List UInt8} (p : Bool) (h : l.length ≤ 2000) : (wrapB l p).length ≤ l.length + 5 ∧ 5 ≤ (wrapB l p).length := by
 unfold wrapB
 rw [if_neg (by omega)]
 split
 · next hc => rw [sealed_len, List.length_append]; simp only [List.length_cons, List.length_nil]; omega
 · rw [sealed_len, List.length_append]; simp only [List.length_cons, List.length_nil]; omega
theorem wrap_most (l : List UInt8) (p : Bool) : (wrapB l p).length ≤ 2005 := by
 by_cases h : l.length ≤ 2000
 · have := (wrapB_len p h).1; omega
 · rw [wrap_long p (by omega)]; simp
theorem wrap_false {l : List UInt8} (h : l.length ≤ 2000) : (wrapB l false).length = l.length + 5 := by
 rw [wrap_plain h (fun h => by cases h), sealed_len, List.length_append]
 simp
theorem unwrap_short {l : List UInt8} (h : l.length < 5) : unwrapB l = ([], 1) := by unfold unwrapB; rw [if_pos h]
theorem unwrap_crc {l : List UInt8} (h : 5 ≤ l.length) (ho : opened2 l = false) : unwrapB l = ([], 2) := by unfold unwrapB; rw [if_neg (by omega), if_pos ho]
theorem unwrap_tag {l : List UInt8} (h : 5 ≤ l.length) (ho : opened2 l = true) (hm : 1 < markOf (opened1 l)) : unwrapB l = ([], 3) := by
 unfold unwrapB
 rw [if_neg (by omega), if_neg (by simp [ho]), if_pos hm]
theorem unwrap_yes {l : List UInt8} (h : 5 ≤ l.length) (ho : opened2 l = true) (hm : markOf (opened1 l) ≤ 1) (hw : wrapB (textOf (opened1 l)) (decide (markOf (opened1 l) = 1)) = l) : unwrapB l = (textOf (opened1 l), 0) := by
 unfold unwrapB
 rw [if_neg (by omega), if_neg (by simp [ho]), if_neg (by omega), if_pos hw]
theorem unwrap_no {l : List UInt8} (h : 5 ≤ l.length) (ho : opened2 l = true) (hm : markOf (opened1 l) ≤ 1) (hw : wrapB (textOf (opened1 l)) (decide (markOf (opened1 l) = 1)) ≠ l) : unwrapB l = ([], 4) := by
 unfold unwrapB
 rw [if_neg (by omega), if_neg (by simp [ho]), if_neg (by omega), if_neg hw]
theorem unwrap_wrap {l : List UInt8} (p : Bool) (h : l.length ≤ 2000) : unwrapB (wrapB l p) = (l, 0) := by
 by_cases hc : p = true ∧ (compress l).length < l.length
 · obtain ⟨rfl, hc⟩ := hc
   have e := wrap_packed h hc
   obtain ⟨o1, o2⟩ := opened_sealed (compress l ++ [1])
   have hm := mark_last (compress l) 1
   have ht : textOf (compress l ++ [1]) = l := by
     unfold textOf
     rw [hm, if_pos (show UInt8.toNat 1 = 1 from rfl), body_last, (expand_compress l h).1]
   have hl := (wrapB_len true h).2
   rw [e] at hl ⊢
   have := unwrap_yes hl o2 (by rw [o1, hm]; decide) (by rw [o1, hm, ht]; exact e)
   rw [this, o1, ht]
 · have e : wrapB l p = sealedB (l ++ [0]) := wrap_plain h (fun hp => by
     have : ¬ (compress l).length < l.length := fun h2 => hc ⟨hp, h2⟩
     omega)
   obtain ⟨o1, o2⟩ := opened_sealed (l ++ [0])
   have hm := mark_last l 0
   have ht : textOf (l ++ [0]) = l := by
     unfold textOf
     rw [hm, if_neg (by decide), body_last]
   have hl := (wrapB_len p h).2
   rw [e] at hl ⊢
   have e2 : wrapB l false = sealedB (l ++ [0]) := wrap_plain h (fun h => by cases h)
   have := unwrap_yes hl o2 (by rw [o1, hm]; decide) (by rw [o1, hm, ht]; exact e2)
   rw [this, o1, ht]
theorem opened_parts {l : List UInt8} (h : 5 ≤ l.length) (ho : opened2 l = true) : opened1 l = bodyOf (opened1 l) ++ [UInt8.ofNat (markOf (opened1 l))] ∧ (opened1 l).length = l.length - 4 := by
 have hb := opened_back ho
 have hl := sealed_len (opened1 l)
 rw [hb] at hl
 refine ⟨?_, by omega⟩
 unfold bodyOf markOf
 have hlt : (opened1 l).length - 1 < (opened1 l).length := by omega
 conv => lhs; rw [← List.take_append_drop ((opened1 l).length - 1) (opened1 l)]
 rw [List.drop_eq_getElem_cons hlt, List.drop_eq_nil_of_le (by omega)]
 simp [List.getD_eq_getElem?_getD, hlt]
theorem unwrap_not {l : List UInt8} (h : 5 ≤ l.length) (ho : opened2 l = true) (hm : markOf (opened1 l) = 1) (hx : expand2 (bodyOf (opened1 l)) = false) : unwrapB l = ([], 4) := by
 refine unwrap_no h ho (by omega) ?_
 have ht : textOf (opened1 l) = [] := by
   unfold textOf
   rw [if_pos hm, expand_no _ hx]
 rw [ht, wrap_plain (by simp) (fun _ => by simp)]
 intro e
 have e2 := (opened_sealed ([] ++ [0])).1
 rw [e] at e2
 rw [e2, mark_last] at hm
 exact absurd hm (by decide)
structure Conf where
 every : Int
 size : Int
 pack : Bool
def confOk (c : Conf) : Bool := decide (1 ≤ c.every) && decide (c.every ≤ 16) && decide (1 ≤ c.size) && decide (c.size ≤ 50)
theorem conf_in {c : Conf} (h : confOk c = true) : 1 ≤ c.every ∧ c.every ≤ 16 ∧ 1 ≤ c.size ∧ c.size ≤ 50 := by
 unfold confOk at h
 simp only [Bool.and_eq_true, decide_eq_true_eq] at h
 exact ⟨h.1.1.1, h.1.1.2, h.1.2, h.2⟩
def partAt (n j : Nat) (xs : List Cel) : List Cel := (xs.drop (j * n)).take n
def blkAt (xs : List Cel) (c : Conf) (j : Nat) : List UInt8 := wrapB (putBlock (partAt c.size.toNat j xs) c.every) c.pack
def outTo (xs : List Cel) (c : Conf) : Nat → List UInt8
 | 0 => []
 | k + 1 => outTo xs c k ++ blkAt xs c k
def idxAt (xs : List Cel) (c : Conf) (j : Nat) : List UInt8 :=
 varB (lastOf [] (partAt c.size.toNat j xs)).length ++ (lastOf [] (partAt c.size.toNat j xs) ++ (varB (outTo xs c j).length ++ varB (blkAt xs c j).length))
def idxTo (xs : List Cel) (c : Conf) : Nat → List UInt8
 | 0 => []
 | k + 1 => idxTo xs c k ++ idxAt xs c k
def nBlk (xs : List Cel) (c : Conf) : Nat := (xs.length + c.size.toNat - 1) / c.size.toNat
def nameKey (x : Cel) : List UInt8 := x.row.data.toList ++ 0 :: x.col.data.toList
def topB (xs : List Cel) (c : Conf) : List UInt8 := wrapB (idxTo xs c (nBlk xs c)) c.pack
def filB (xs : List Cel) : List UInt8 := wrapB (filterB (xs.map nameKey)) false
def flag (p : Bool) : Nat := if p then 1 else 0
def footB (a b f n : Nat) (c : Conf) : List UInt8 := fixB a 4 ++ (fixB b 4 ++ (fixB (a + b) 4 ++ (fixB f 4 ++ (fixB n 4 ++ (fixB c.every.toNat 4 ++ (fixB c.size.toNat 4 ++ fixB (flag c.pack) 4))))))
def magicB : List UInt8 := [83, 72, 69, 76, 70, 49]
def outB (xs : List Cel) (c : Conf) : List UInt8 := outTo xs c (nBlk xs c)
def tableB (xs : List Cel) (c : Conf) : List UInt8 := outB xs c ++ (topB xs c ++ (filB xs ++ (footB (outB xs c).length (topB xs c).length (filB xs).length xs.length c ++ magicB)))
def tabOk (xs : List Cel) (c : Conf) : Prop := xs.length ≤ 60 ∧ cellsOk xs = true ∧ confOk c = true ∧ (∀ j, j < nBlk xs c → blkAt xs c j ≠ []) ∧ topB xs c ≠ []
instance (xs : List Cel) (c : Conf) : Decidable (tabOk xs c) := by unfold tabOk; infer_instance
def putTable (xs : List Cel) (c : Conf) : List UInt8 := if tabOk xs c then tableB xs c else []

theorem foot_len (a b f n : Nat) (c : Conf) : (footB a b f n c).length = 32 := by unfold footB; simp [fix_length]
theorem table_len (xs : List Cel) (c : Conf) : (tableB xs c).length = (outB xs c).length + (topB xs c).length + (filB xs).length + 38 := by
 unfold tableB
 simp only [List.length_append, foot_len]
 simp [magicB]
 omega
theorem blk_in {xs : List Cel} {c : Conf} (hc : confOk c = true) {j : Nat} (h : j < nBlk xs c) : j * c.size.toNat < xs.length := by
 have := conf_in hc
 unfold nBlk at h
 have h1 : 1 ≤ c.size.toNat := by omega
 have h2 := Nat.div_mul_le_self (xs.length + c.size.toNat - 1) c.size.toNat
 have h3 : (j + 1) * c.size.toNat ≤ (xs.length + c.size.toNat - 1) / c.size.toNat * c.size.toNat := Nat.mul_le_mul_right _ h
 rw [Nat.succ_mul] at h3
 omega
theorem cells_part {xs : List Cel} (h : cellsOk xs = true) (n j : Nat) : cellsOk (partAt n j xs) = true := by
 obtain ⟨h1, h2⟩ := (cellsOk_iff xs).1 h
 refine (cellsOk_iff _).2 ⟨fun x hx => h1 x (List.mem_of_mem_drop (List.mem_of_mem_take hx)), ?_⟩
 unfold partAt
 exact (h2.sublist (List.drop_sublist _ _)).sublist (List.take_sublist _ _)
theorem out_le (xs : List Cel) (c : Conf) (k : Nat) : (outTo xs c k).length ≤ 2005 * k := by
 induction k with
 | zero => simp [outTo]
 | succ k ih =>
   rw [outTo, List.length_append]
   have := wrap_most (putBlock (partAt c.size.toNat k xs) c.every) c.pack
   unfold blkAt
   omega
theorem nblk_le {xs : List Cel} {c : Conf} (hc : confOk c = true) : nBlk xs c ≤ xs.length := by
 by_cases h : nBlk xs c = 0
 · omega
 · have := blk_in (xs := xs) hc (j := nBlk xs c - 1) (by omega)
   have h1 := conf_in hc
   have h2 : (nBlk xs c - 1) * 1 ≤ (nBlk xs c - 1) * c.size.toNat := Nat.mul_le_mul_left _ (by omega)
   omega

theorem wrap_some {l : List UInt8} {p : Bool} (h : wrapB l p ≠ []) : l.length ≤ 2000 := by
 by_cases hl : l.length ≤ 2000
 · exact hl
 · exact absurd (wrap_long p (by omega)) h
theorem tab_bounds {xs : List Cel} {c : Conf} (h : tabOk xs c) : (outB xs c).length ≤ 120300 ∧ (topB xs c).length ≤ 2005 ∧ (filB xs).length ≤ 2005 ∧ 5 ≤ (filB xs).length := by
 have h1 := nblk_le (xs := xs) h.2.2.1
 have h2 := out_le xs c (nBlk xs c)
 have h3 := h.1
 have hf : (filterB (xs.map nameKey)).length ≤ 250 := by
   rw [filter_len (by rw [List.length_map]; omega)]
   exact fsize_le (by rw [List.length_map]; omega)
 refine ⟨by unfold outB; omega, wrap_most _ _, wrap_most _ _, ?_⟩
 unfold filB
 rw [wrap_false (by omega)]
 omega
def endsRight (l : List UInt8) : Prop := 38 ≤ l.length ∧ l.drop (l.length - 6) = magicB
instance (l : List UInt8) : Decidable (endsRight l) := by unfold endsRight; infer_instance
theorem fix_at (n k : Nat) (l r : List UInt8) (h1 : 1 ≤ k) (h4 : k ≤ 4) (hn : n < 2 ^ (8 * k)) (a : Int) (ha : a = l.length) : getFix (l ++ (fixB n k ++ r)) a (k : Int) = (n : Int) := by
 subst ha
 unfold getFix
 rw [if_pos ⟨by omega, by omega, by omega, by simp only [List.length_append, fix_length]; omega⟩]
 rw [Int.toNat_natCast, Int.toNat_natCast, List.drop_left, List.take_append_of_le_length (by rw [fix_length]; omega), List.take_of_length_le (by rw [fix_length]; omega), fixVal_fix, Nat.mod_eq_of_lt hn]

theorem foot_reads (ys : List Cel) (d : Conf) (hT : tabOk ys d) (F : Int) (hF : F = ((tableB ys d).length : Int) - 38) :
   getFix (tableB ys d) F 4 = ((outB ys d).length : Int) ∧ getFix (tableB ys d) (F + 4) 4 = ((topB ys d).length : Int) ∧ getFix (tableB ys d) (F + 8) 4 = (((outB ys d).length + (topB ys d).length : Nat) : Int) ∧ getFix (tableB ys d) (F + 12) 4 = ((filB ys).length : Int)
   ∧ getFix (tableB ys d) (F + 16) 4 = (ys.length : Int) ∧ getFix (tableB ys d) (F + 20) 4 = d.every ∧ getFix (tableB ys d) (F + 24) 4 = d.size ∧ getFix (tableB ys d) (F + 28) 4 = (flag d.pack : Int) := by
 obtain ⟨b1, b2, b3, _⟩ := tab_bounds hT
 have hlen := table_len ys d
 have hc := conf_in hT.2.2.1
 have h60 := hT.1
 have e1 : d.every = (d.every.toNat : Int) := by omega
 have e2 : d.size = (d.size.toNat : Int) := by omega
 have hfl : flag d.pack < 4294967296 := by unfold flag; split <;> omega
 obtain ⟨P, hP⟩ : ∃ P, outB ys d ++ (topB ys d ++ filB ys) = P := ⟨_, rfl⟩
 have hPl : (P.length : Int) = F := by
   have : P.length = (outB ys d).length + (topB ys d).length + (filB ys).length := by rw [← hP]; simp; omega
   omega
 have ht : tableB ys d = P ++ (footB (outB ys d).length (topB ys d).length (filB ys).length ys.length d ++ magicB) := by
   rw [← hP]
   unfold tableB
   simp
 rw [e1, e2, ht]
 unfold footB
 obtain ⟨x0, hx0⟩ : ∃ x, (outB ys d).length = x := ⟨_, rfl⟩
 obtain ⟨x1, hx1⟩ : ∃ x, (topB ys d).length = x := ⟨_, rfl⟩
 obtain ⟨x2, hx2⟩ : ∃ x, (filB ys).length = x := ⟨_, rfl⟩
 rw [hx0, hx1, hx2]
 have q0 : x0 < 4294967296 := by omega
 have q1 : x1 < 4294967296 := by omega
 have q2 : x0 + x1 < 4294967296 := by omega
 have q3 : x2 < 4294967296 := by omega
 have q4 : ys.length < 4294967296 := by omega
 have q5 : d.every.toNat < 4294967296 := by omega
 have q6 : d.size.toNat < 4294967296 := by omega
 obtain ⟨z4, hz4⟩ : ∃ x, ys.length = x := ⟨_, rfl⟩
 obtain ⟨z5, hz5⟩ : ∃ x, d.every.toNat = x := ⟨_, rfl⟩
 obtain ⟨z6, hz6⟩ : ∃ x, d.size.toNat = x := ⟨_, rfl⟩
 obtain ⟨z7, hz7⟩ : ∃ x, flag d.pack = x := ⟨_, rfl⟩
 rw [hz4] at q4 ⊢
 rw [hz5] at q5 ⊢
 rw [hz6] at q6 ⊢
 rw [hz7] at hfl ⊢
 clear hz4 hz5 hz6 hz7 hx0 hx1 hx2 e1 e2 ht hP b1 b2 b3 hlen hc h60 hT
 have L : ∀ x, (fixB x 4).length = 4 := fun x => fix_length x 4
 refine ⟨?_, ?_, ?_, ?_, ?_, ?_, ?_, ?_⟩
 · rw [List.append_assoc]
   exact fix_at _ 4 P _ (by omega) (by omega) (by omega) _ hPl.symm
 · rw [show P ++ ((fixB x0 4 ++ (fixB x1 4 ++ (fixB (x0 + x1) 4 ++ (fixB x2 4 ++ (fixB z4 4 ++ (fixB z5 4 ++ (fixB z6 4 ++ fixB z7 4))))))) ++ magicB) = (P ++ fixB x0 4) ++ (fixB x1 4 ++ ((fixB (x0 + x1) 4 ++ (fixB x2 4 ++ (fixB z4 4 ++ (fixB z5 4 ++ (fixB z6 4 ++ fixB z7 4))))) ++ magicB)) by simp]
   exact fix_at _ 4 _ _ (by omega) (by omega) (by omega) _ (by simp only [List.length_append, L]; omega)
 · rw [show P ++ ((fixB x0 4 ++ (fixB x1 4 ++ (fixB (x0 + x1) 4 ++ (fixB x2 4 ++ (fixB z4 4 ++ (fixB z5 4 ++ (fixB z6 4 ++ fixB z7 4))))))) ++ magicB) = (P ++ (fixB x0 4 ++ fixB x1 4)) ++ (fixB (x0 + x1) 4 ++ ((fixB x2 4 ++ (fixB z4 4 ++ (fixB z5 4 ++ (fixB z6 4 ++ fixB z7 4)))) ++ magicB)) by simp]
   exact fix_at _ 4 _ _ (by omega) (by omega) (by omega) _ (by simp only [List.length_append, L]; omega)
 · rw [show P ++ ((fixB x0 4 ++ (fixB x1 4 ++ (fixB (x0 + x1) 4 ++ (fixB x2 4 ++ (fixB z4 4 ++ (fixB z5 4 ++ (fixB z6 4 ++ fixB z7 4))))))) ++ magicB) = (P ++ (fixB x0 4 ++ (fixB x1 4 ++ fixB (x0 + x1) 4))) ++ (fixB x2 4 ++ ((fixB z4 4 ++ (fixB z5 4 ++ (fixB z6 4 ++ fixB z7 4))) ++ magicB)) by simp]
   exact fix_at _ 4 _ _ (by omega) (by omega) (by omega) _ (by simp only [List.length_append, L]; omega)
 · rw [show P ++ ((fixB x0 4 ++ (fixB x1 4 ++ (fixB (x0 + x1) 4 ++ (fixB x2 4 ++ (fixB z4 4 ++ (fixB z5 4 ++ (fixB z6 4 ++ fixB z7 4))))))) ++ magicB) = (P ++ (fixB x0 4 ++ (fixB x1 4 ++ (fixB (x0 + x1) 4 ++ fixB x2 4)))) ++ (fixB z4 4 ++ ((fixB z5 4 ++ (fixB z6 4 ++ fixB z7 4)) ++ magicB)) by simp]
   exact fix_at _ 4 _ _ (by omega) (by omega) (by omega) _ (by simp only [List.length_append, L]; omega)
 · rw [show P ++ ((fixB x0 4 ++ (fixB x1 4 ++ (fixB (x0 + x1) 4 ++ (fixB x2 4 ++ (fixB z4 4 ++ (fixB z5 4 ++ (fixB z6 4 ++ fixB z7 4))))))) ++ magicB) = (P ++ (fixB x0 4 ++ (fixB x1 4 ++ (fixB (x0 + x1) 4 ++ (fixB x2 4 ++ fixB z4 4))))) ++ (fixB z5 4 ++ ((fixB z6 4 ++ fixB z7 4) ++ magicB)) by simp]
   exact fix_at _ 4 _ _ (by omega) (by omega) (by omega) _ (by simp only [List.length_append, L]; omega)
 · rw [show P ++ ((fixB x0 4 ++ (fixB x1 4 ++ (fixB (x0 + x1) 4 ++ (fixB x2 4 ++ (fixB z4 4 ++ (fixB z5 4 ++ (fixB z6 4 ++ fixB z7 4))))))) ++ magicB) = (P ++ (fixB x0 4 ++ (fixB x1 4 ++ (fixB (x0 + x1) 4 ++ (fixB x2 4 ++ (fixB z4 4 ++ fixB z5 4)))))) ++ (fixB z6 4 ++ (fixB z7 4 ++ magicB)) by simp]
   exact fix_at _ 4 _ _ (by omega) (by omega) (by omega) _ (by simp only [List.length_append, L]; omega)
 · rw [show P ++ ((fixB x0 4 ++ (fixB x1 4 ++ (fixB (x0 + x1) 4 ++ (fixB x2 4 ++ (fixB z4 4 ++ (fixB z5 4 ++ (fixB z6 4 ++ fixB z7 4))))))) ++ magicB) = (P ++ (fixB x0 4 ++ (fixB x1 4 ++ (fixB (x0 + x1) 4 ++ (fixB x2 4 ++ (fixB z4 4 ++ (fixB z5 4 ++ fixB z6 4))))))) ++ (fixB z7 4 ++ magicB) by simp]
   exact fix_at _ 4 _ _ (by omega) (by omega) (by omega) _ (by simp only [List.length_append, L]; omega)
theorem top_at (ys : List Cel) (d : Conf) : ((tableB ys d).drop (outB ys d).length).take (topB ys d).length = topB ys d := by
 unfold tableB
 rw [List.drop_left, List.take_left]
theorem fil_at (ys : List Cel) (d : Conf) : ((tableB ys d).drop ((outB ys d).length + (topB ys d).length)).take (filB ys).length = filB ys := by
 unfold tableB
 rw [← List.drop_drop, List.drop_left, List.drop_left, List.take_left]
theorem top_read {ys : List Cel} {d : Conf} (hT : tabOk ys d) : unwrapB (topB ys d) = (idxTo ys d (nBlk ys d), 0) := by
 have h := hT.2.2.2.2
 unfold topB at h ⊢
 exact unwrap_wrap _ (wrap_some h)
theorem fil_read {ys : List Cel} (h : ys.length ≤ 60) : unwrapB (filB ys) = (filterB (ys.map nameKey), 0) := by
 unfold filB
 refine unwrap_wrap _ ?_
 rw [filter_len (by rw [List.length_map]; omega)]
 have := fsize_le (n := (ys.map nameKey).length) (by rw [List.length_map]; omega)
 omega

def footOf (xs : List Cel) (c : Conf) : List UInt8 := footB (outB xs c).length (topB xs c).length (filB xs).length xs.length c ++ magicB
theorem table_split (xs : List Cel) (c : Conf) : tableB xs c = outB xs c ++ (topB xs c ++ (filB xs ++ footOf xs c)) := rfl
theorem fil_ne (xs : List Cel) (h : xs.length ≤ 60) : filB xs ≠ [] := by
 intro e
 have h2 := filter_len (keys := xs.map nameKey) (by rw [List.length_map]; omega)
 have h1 : (filB xs).length = (filterB (xs.map nameKey)).length + 5 := by
   unfold filB
   refine wrap_false ?_
   rw [h2]
   have := fsize_le (n := (xs.map nameKey).length) (by rw [List.length_map]; omega)
   omega
 rw [e] at h1
 simp at h1
end Go.Proofs.Ytkomnnijnggbpaa
