/- Filters as the document has them: a number for each text, six places for each key, the bits at all of them. -/
import Derived.Test.YtkomnnijnggbpaaPureA
namespace Go.Proofs.Ytkomnnijnggbpaa
open Go.RowKit
set_option linter.unusedVariables false

def hstep (x : Nat) (c : UInt8) : Nat := ((x ^^^ c.toNat) * 16777619) % 4294967296
def hashF (x : Nat) (l : List UInt8) : Nat := l.foldl hstep x
def hash (l : List UInt8) : Nat := hashF 2166136261 l
theorem hashF_snoc (x : Nat) (l : List UInt8) (c : UInt8) : hashF x (l ++ [c]) = hstep (hashF x l) c := by unfold hashF; rw [List.foldl_append, List.foldl_cons, List.foldl_nil]
theorem hstep_lt (x : Nat) (c : UInt8) : hstep x c < 4294967296 := by unfold hstep; omega
theorem hashF_cons (x : Nat) (c : UInt8) (l : List UInt8) : hashF x (c :: l) = hashF (hstep x c) l := by unfold hashF; rw [List.foldl_cons]
theorem hashF_lt (l : List UInt8) : ∀ {x : Nat}, x < 4294967296 → hashF x l < 4294967296 := by
  induction l with
  | nil => intro x h; exact h
  | cons c l ih => intro x h; rw [hashF_cons]; exact ih (hstep_lt x c)
theorem hash_lt (l : List UInt8) : hash l < 4294967296 := by unfold hash; exact hashF_lt l (by omega)
/-- A number turned by fifteen bits. -/
def dlt (h : Nat) : Nat := h / 131072 ||| (h * 32768) % 4294967296
theorem dlt_lt {h : Nat} (hh : h < 4294967296) : dlt h < 4294967296 := by
  unfold dlt
  have h1 : h / 131072 < 2 ^ 32 := by omega
  have h2 : (h * 32768) % 4294967296 < 2 ^ 32 := by omega
  exact Nat.or_lt_two_pow h1 h2
/-- Where the walk stands at the j-th place. -/
def stand (h : Nat) (j : Nat) : Nat := (h + j * dlt h) % 4294967296
theorem stand_zero {h : Nat} (hh : h < 4294967296) : stand h 0 = h := by unfold stand; simp; omega
theorem stand_next (h j : Nat) : stand h (j + 1) = (stand h j + dlt h) % 4294967296 := by unfold stand; rw [Nat.succ_mul]; omega
theorem stand_lt (h j : Nat) : stand h j < 4294967296 := by unfold stand; omega
def six (h bits n : Nat) : List Nat := (List.range n).map (fun j => stand h j % bits)
theorem six_snoc (h bits n : Nat) : six h bits (n + 1) = six h bits n ++ [stand h n % bits] := by unfold six; rw [List.range_succ, List.map_append]; rfl
theorem six_len (h bits n : Nat) : (six h bits n).length = n := by unfold six; simp
def probes (l : List UInt8) (bits : Int) : List Nat := if 1 ≤ bits ∧ bits ≤ 100000 then six (hash l) bits.toNat 6 else []
theorem probes_yes {l : List UInt8} {b : Nat} (h1 : 1 ≤ b) (h2 : b ≤ 100000) : probes l (b : Int) = six (hash l) b 6 := by unfold probes; rw [if_pos (by omega), Int.toNat_natCast]
theorem probes_no {l : List UInt8} {bits : Int} (h : bits < 1 ∨ 100000 < bits) : probes l bits = [] := by unfold probes; rw [if_neg (by omega)]
theorem six_lt {h bits n p : Nat} (h1 : 1 ≤ bits) (hp : p ∈ six h bits n) : p < bits := by
  unfold six at hp
  obtain ⟨j, _, rfl⟩ := List.mem_map.1 hp
  exact Nat.mod_lt _ (by omega)

/-- One bit of bytes. -/
def bitAt (bs : List UInt8) (b : Nat) : Bool := (bs.getD (b / 8) 0).toNat.testBit (b % 8)
def setBit (bs : List UInt8) (p : Nat) : List UInt8 := bs.set (p / 8) (UInt8.ofNat ((bs.getD (p / 8) 0).toNat ||| 2 ^ (p % 8)))
theorem setBit_len (bs : List UInt8) (p : Nat) : (setBit bs p).length = bs.length := by unfold setBit; simp
theorem or_pow (x : UInt8) (k : Nat) (h : k < 8) : (UInt8.ofNat (x.toNat ||| 2 ^ k)).toNat = x.toNat ||| 2 ^ k := by
  have h1 : x.toNat < 2 ^ 8 := by have := x.toNat_lt; omega
  have h2 : 2 ^ k < 2 ^ 8 := Nat.pow_lt_pow_right (by omega) h
  have h3 : x.toNat ||| 2 ^ k < 2 ^ 8 := Nat.or_lt_two_pow h1 h2
  rw [UInt8.toNat_ofNat']
  exact Nat.mod_eq_of_lt h3
theorem set_bit {bs : List UInt8} {p : Nat} (h : p / 8 < bs.length) (b : Nat) : bitAt (setBit bs p) b = (bitAt bs b || decide (b = p)) := by
  unfold bitAt setBit
  rw [List.getD_eq_getElem?_getD, List.getElem?_set]
  by_cases e : p / 8 = b / 8
  · rw [if_pos e, if_pos h, Option.getD_some, or_pow _ _ (by omega), Nat.testBit_or, e]
    congr 1
    rw [Nat.testBit_two_pow, decide_eq_decide]
    omega
  · rw [if_neg e, ← List.getD_eq_getElem?_getD]
    have : decide (b = p) = false := by simp; omega
    rw [this, Bool.or_false]
theorem byte_bits {x y : UInt8} (h : ∀ i, i < 8 → x.toNat.testBit i = y.toNat.testBit i) : x = y := by
  apply UInt8.toNat_inj.1
  apply Nat.eq_of_testBit_eq
  intro i
  by_cases hi : i < 8
  · exact h i hi
  · have hx : x.toNat < 2 ^ i := Nat.lt_of_lt_of_le x.toNat_lt (Nat.pow_le_pow_right (n := 2) (by omega) (by omega : 8 ≤ i))
    have hy : y.toNat < 2 ^ i := Nat.lt_of_lt_of_le y.toNat_lt (Nat.pow_le_pow_right (n := 2) (by omega) (by omega : 8 ≤ i))
    rw [Nat.testBit_lt_two_pow hx, Nat.testBit_lt_two_pow hy]
theorem bits_ext {a b : List UInt8} (hl : a.length = b.length) (h : ∀ i, i < 8 * a.length → bitAt a i = bitAt b i) : a = b := by
  apply List.ext_getElem hl
  intro k h1 h2
  refine byte_bits (fun i hi => ?_)
  have := h (8 * k + i) (by omega)
  unfold bitAt at this
  rw [show (8 * k + i) / 8 = k by omega, show (8 * k + i) % 8 = i by omega, List.getD_eq_getElem?_getD, List.getD_eq_getElem?_getD, List.getElem?_eq_getElem h1, List.getElem?_eq_getElem h2] at this
  exact this
def setAll (bs : List UInt8) (ps : List Nat) : List UInt8 := ps.foldl setBit bs
theorem setAll_len (ps : List Nat) : ∀ bs : List UInt8, (setAll bs ps).length = bs.length := by
  induction ps with
  | nil => intro bs; rfl
  | cons p ps ih => intro bs; show (setAll (setBit bs p) ps).length = _; rw [ih, setBit_len]
theorem setAll_snoc (bs : List UInt8) (ps : List Nat) (p : Nat) : setAll bs (ps ++ [p]) = setBit (setAll bs ps) p := by unfold setAll; simp
theorem setAll_bit (ps : List Nat) : ∀ bs : List UInt8, (∀ p ∈ ps, p / 8 < bs.length) → ∀ b, bitAt (setAll bs ps) b = (bitAt bs b || ps.contains b) := by
  induction ps with
  | nil => intro bs _ b; simp [setAll]
  | cons p ps ih =>
    intro bs h b
    show bitAt (setAll (setBit bs p) ps) b = _
    rw [ih _ (fun q hq => by rw [setBit_len]; exact h q (by simp [hq])), set_bit (h p (by simp)), Bool.or_assoc]
    congr 1
/-- How many bytes a filter of so many keys has. -/
def fsize (n : Nat) : Nat := if n = 0 then 1 else (10 * n + 7) / 8
theorem fsize_pos (n : Nat) : 1 ≤ fsize n := by unfold fsize; split <;> omega
theorem fsize_le {n : Nat} (h : n ≤ 200) : fsize n ≤ 250 := by unfold fsize; split <;> omega
def fillF (m : Nat) (bs : List UInt8) (keys : List (List UInt8)) : List UInt8 := keys.foldl (fun bs k => setAll bs (six (hash k) m 6)) bs
def filterB (keys : List (List UInt8)) : List UInt8 := if keys.length ≤ 200 then fillF (8 * fsize keys.length) (List.replicate (fsize keys.length) 0) keys else []
theorem fillF_snoc (m : Nat) (bs : List UInt8) (keys : List (List UInt8)) (k : List UInt8) : fillF m bs (keys ++ [k]) = setAll (fillF m bs keys) (six (hash k) m 6) := by unfold fillF; simp
theorem fillF_len (m : Nat) (keys : List (List UInt8)) : ∀ bs, (fillF m bs keys).length = bs.length := by
  induction keys with
  | nil => intro bs; rfl
  | cons k ks ih => intro bs; show (fillF m (setAll bs _) ks).length = _; rw [ih, setAll_len]
theorem fillF_bit (m : Nat) (hm : 1 ≤ m) (keys : List (List UInt8)) : ∀ bs : List UInt8, 8 * bs.length = m → ∀ b, bitAt (fillF m bs keys) b = (bitAt bs b || keys.any (fun k => (six (hash k) m 6).contains b)) := by
  induction keys with
  | nil => intro bs _ b; simp [fillF]
  | cons k ks ih =>
    intro bs hb b
    show bitAt (fillF m (setAll bs (six (hash k) m 6)) ks) b = _
    rw [ih _ (by rw [setAll_len]; exact hb), setAll_bit _ _ (fun p hp => by have := six_lt hm hp; omega), Bool.or_assoc, List.any_cons]
theorem zero_bit (n b : Nat) : bitAt (List.replicate n 0) b = false := by
  unfold bitAt
  rw [List.getD_eq_getElem?_getD, List.getElem?_replicate]
  split <;> simp
theorem filter_len {keys : List (List UInt8)} (h : keys.length ≤ 200) : (filterB keys).length = fsize keys.length := by unfold filterB; rw [if_pos h, fillF_len, List.length_replicate]
theorem filter_no {keys : List (List UInt8)} (h : 200 < keys.length) : filterB keys = [] := by unfold filterB; rw [if_neg (by omega)]
theorem filter_bit {keys : List (List UInt8)} (h : keys.length ≤ 200) (b : Nat) : bitAt (filterB keys) b = keys.any (fun k => (six (hash k) (8 * fsize keys.length) 6).contains b) := by
  unfold filterB
  have := fsize_pos keys.length
  rw [if_pos h, fillF_bit _ (by omega) _ _ (by rw [List.length_replicate]), zero_bit, Bool.false_or]
/-- Whether a key may be in a filter. -/
def mayHave (f key : List UInt8) : Bool := !(probes key (8 * f.length : Nat)).isEmpty && (probes key (8 * f.length : Nat)).all (bitAt f)
theorem has_keys {keys : List (List UInt8)} (h : keys.length ≤ 200) {k : List UInt8} (hk : k ∈ keys) : mayHave (filterB keys) k = true := by
  unfold mayHave
  have h1 := fsize_pos keys.length
  have h2 := fsize_le h
  rw [filter_len h, probes_yes (by omega) (by omega), Bool.and_eq_true]
  refine ⟨rfl, List.all_eq_true.2 (fun p hp => ?_)⟩
  rw [filter_bit h, List.any_eq_true]
  exact ⟨k, hk, List.contains_iff_mem.2 hp⟩
/-- It makes no difference in which order, or how often. -/
theorem filter_same {a b : List (List UInt8)} (hl : a.length = b.length) (ha : a.length ≤ 200) (h : ∀ k, k ∈ a ↔ k ∈ b) : filterB a = filterB b := by
  refine bits_ext (by rw [filter_len ha, filter_len (by omega), hl]) (fun i _ => ?_)
  rw [filter_bit ha, filter_bit (by omega), hl, Bool.eq_iff_iff, List.any_eq_true, List.any_eq_true]
  constructor
  · rintro ⟨k, h1, h2⟩; exact ⟨k, (h k).1 h1, h2⟩
  · rintro ⟨k, h1, h2⟩; exact ⟨k, (h k).2 h1, h2⟩
/-- More ones lose nobody. -/
theorem has_more {f g key : List UInt8} (hl : f.length = g.length) (h : ∀ b, bitAt f b = true → bitAt g b = true) (hm : mayHave f key = true) : mayHave g key = true := by
  unfold mayHave at hm ⊢
  rw [Bool.and_eq_true] at hm ⊢
  rw [← hl]
  exact ⟨hm.1, List.all_eq_true.2 (fun p hp => h p (List.all_eq_true.1 hm.2 p hp))⟩
end Go.Proofs.Ytkomnnijnggbpaa
