/- Names, cells, their keys and their order: keys come back, and stand as their cells do. -/
import Derived.WalkKit
import Derived.Test.YtejoiaijlaaekaaPure
import Derived.Test.YtejoiaijlaaekaaFixPure
namespace Go.Proofs.Ytejoiaijlaaekaa
open Go.RowKit
set_option linter.unusedVariables false

/-- A cell. -/
structure Cel where
  row : ByteArray
  col : ByteArray
  time : Int
  gone : Bool
  value : ByteArray

def sign (c : UInt8) : Bool := decide (33 ≤ c.toNat) && decide (c.toNat ≤ 126)
def nameOk (l : List UInt8) : Bool := l.all sign && decide (1 ≤ l.length) && decide (l.length ≤ 16)
def timeOk (t : Int) : Bool := decide (0 ≤ t) && decide (t ≤ 1000000000)
def cellOk (x : Cel) : Bool := nameOk x.row.data.toList && nameOk x.col.data.toList && timeOk x.time && decide (x.value.size ≤ 30) && (!x.gone || x.value.data.toList.isEmpty)

theorem sign_no {c : UInt8} (h : c.toNat < 33 ∨ 126 < c.toNat) : sign c = false := by unfold sign; rcases h with h | h <;> simp <;> omega
theorem sign_yes {c : UInt8} (h1 : 33 ≤ c.toNat) (h2 : c.toNat ≤ 126) : sign c = true := by unfold sign; simp; omega
theorem sign_bd {c : UInt8} (h : sign c = true) : 33 ≤ c.toNat ∧ c.toNat ≤ 126 := by simpa [sign] using h
/-- A byte that no name has. -/
theorem name_bad {l : List UInt8} {k : Nat} {c : UInt8} (hk : l[k]? = some c) (h : sign c = false) : nameOk l = false := by
  have hm : c ∈ l := List.mem_of_getElem? hk
  unfold nameOk
  rw [show l.all sign = false from List.all_eq_false.2 ⟨c, hm, by simp [h]⟩]
  rfl
theorem name_len {l : List UInt8} (h : l.length < 1 ∨ 16 < l.length) : nameOk l = false := by
  unfold nameOk
  rcases h with h | h
  · rw [show decide (1 ≤ l.length) = false from decide_eq_false (by omega)]; simp
  · rw [show decide (l.length ≤ 16) = false from decide_eq_false (by omega)]; simp
theorem name_good {l : List UInt8} (h : ∀ j, j < l.length → ∃ c, l[j]? = some c ∧ sign c = true) (h1 : 1 ≤ l.length) (h2 : l.length ≤ 16) : nameOk l = true := by
  unfold nameOk
  have : l.all sign = true := List.all_eq_true.2 (fun c hc => by
    obtain ⟨j, hj⟩ := List.mem_iff_getElem?.1 hc
    obtain ⟨d, hd, hs⟩ := h j (List.getElem?_eq_some_iff.1 hj).1
    rw [hj] at hd
    cases hd
    exact hs)
  simp [this, h1, h2]
theorem name_parts {l : List UInt8} (h : nameOk l = true) : (∀ c ∈ l, sign c = true) ∧ 1 ≤ l.length ∧ l.length ≤ 16 := by
  unfold nameOk at h
  simp only [Bool.and_eq_true, decide_eq_true_eq, List.all_eq_true] at h
  exact ⟨h.1.1, h.1.2, h.2⟩
theorem name_zero {l : List UInt8} (h : nameOk l = true) : (0 : UInt8) ∉ l := fun hm => by
  have := (name_parts h).1 0 hm
  simp [sign] at this
theorem time_no {t : Int} (h : t < 0 ∨ 1000000000 < t) : timeOk t = false := by unfold timeOk; rcases h with h | h <;> simp <;> omega
theorem time_yes {t : Int} (h1 : 0 ≤ t) (h2 : t ≤ 1000000000) : timeOk t = true := by unfold timeOk; simp; omega
theorem time_bd {t : Int} (h : timeOk t = true) : 0 ≤ t ∧ t ≤ 1000000000 := by simpa [timeOk] using h

/-- The form of a key. -/
def key (r c : List UInt8) (t : Int) : List UInt8 := r ++ 0 :: (c ++ 0 :: (fixB (1000000000 - t).toNat 4).reverse)
def keyOk (r c : List UInt8) (t : Int) : Bool := nameOk r && nameOk c && timeOk t
def keyOf (r c : List UInt8) (t : Int) : List UInt8 := if keyOk r c t = true then key r c t else []
theorem key_ne (r c : List UInt8) (t : Int) : key r c t ≠ [] := by unfold key; simp
theorem key_len (r c : List UInt8) (t : Int) : (key r c t).length = r.length + c.length + 6 := by unfold key; simp [fix_length]; omega
theorem keyOf_yes {r c : List UInt8} {t : Int} (h : keyOk r c t = true) : keyOf r c t = key r c t := if_pos h
theorem keyOf_no {r c : List UInt8} {t : Int} (h : keyOk r c t = false) : keyOf r c t = [] := if_neg (by simp [h])
theorem keyOf_ok {r c : List UInt8} {t : Int} (h : keyOf r c t ≠ []) : keyOk r c t = true := by
  cases h1 : keyOk r c t
  · exact absurd (keyOf_no h1) h
  · rfl
theorem keyOk_parts {r c : List UInt8} {t : Int} (h : keyOk r c t = true) : nameOk r = true ∧ nameOk c = true ∧ timeOk t = true := by
  unfold keyOk at h
  simp only [Bool.and_eq_true] at h
  exact ⟨h.1.1, h.1.2, h.2⟩

/-- What stands ahead of the first byte 0, and what behind it. -/
theorem cut_zero : ∀ {r r' x x' : List UInt8}, (0 : UInt8) ∉ r → (0 : UInt8) ∉ r' → r ++ 0 :: x = r' ++ 0 :: x' → r = r' ∧ x = x'
  | [], [], x, x', _, _, h => by simpa using h
  | [], b :: bs, x, x', _, h2, h => by simp at h; exact absurd (by simp [← h.1]) h2
  | a :: as, [], x, x', h1, _, h => by simp at h; exact absurd (by simp [h.1]) h1
  | a :: as, b :: bs, x, x', h1, h2, h => by
    simp at h
    obtain ⟨e1, e2⟩ := cut_zero (r := as) (r' := bs) (fun hm => h1 (by simp [hm])) (fun hm => h2 (by simp [hm])) h.2
    exact ⟨by rw [h.1, e1], e2⟩
theorem fix4_inj {n m : Nat} (hn : n ≤ 1000000000) (hm : m ≤ 1000000000) (h : (fixB n 4).reverse = (fixB m 4).reverse) : n = m := by
  have h1 := fix_inj (List.reverse_inj.1 h)
  rw [Nat.mod_eq_of_lt (by omega), Nat.mod_eq_of_lt (by omega)] at h1
  exact h1
/-- Keys come back. -/
theorem key_inj {r c r' c' : List UInt8} {t t' : Int} (h1 : keyOk r c t = true) (h2 : keyOk r' c' t' = true) (h : key r c t = key r' c' t') : r = r' ∧ c = c' ∧ t = t' := by
  obtain ⟨a1, a2, a3⟩ := keyOk_parts h1
  obtain ⟨b1, b2, b3⟩ := keyOk_parts h2
  obtain ⟨e1, e2⟩ := cut_zero (name_zero a1) (name_zero b1) h
  obtain ⟨e3, e4⟩ := cut_zero (name_zero a2) (name_zero b2) e2
  have := time_bd a3
  have := time_bd b3
  have e5 := fix4_inj (by omega) (by omega) e4
  exact ⟨e1, e3, by omega⟩

/-- What is read from a text: what it is the key of, or nothing. -/
def ReadIs (l : List UInt8) (r c : List UInt8) (t : Int) : Prop := (keyOk r c t = true ∧ l = key r c t) ∨ (r = [] ∧ c = [] ∧ t = -1 ∧ ∀ r' c' t', keyOk r' c' t' = true → l ≠ key r' c' t')
theorem read_one {l r c r' c' : List UInt8} {t t' : Int} (h : ReadIs l r c t) (h' : ReadIs l r' c' t') : r = r' ∧ c = c' ∧ t = t' := by
  rcases h with ⟨h1, h2⟩ | ⟨rfl, rfl, rfl, h2⟩
  · rcases h' with ⟨h3, h4⟩ | ⟨_, _, _, h4⟩
    · exact key_inj h1 h3 (h2.symm.trans h4)
    · exact absurd h2 (h4 _ _ _ h1)
  · rcases h' with ⟨h3, h4⟩ | ⟨rfl, rfl, rfl, h4⟩
    · exact absurd h4 (h2 _ _ _ h3)
    · exact ⟨rfl, rfl, rfl⟩
theorem read_back {r c : List UInt8} {t : Int} (h : keyOk r c t = true) : ReadIs (keyOf r c t) r c t := .inl ⟨h, keyOf_yes h⟩
theorem read_empty : ReadIs [] [] [] (-1) := .inr ⟨rfl, rfl, rfl, fun r c t _ h => key_ne r c t h.symm⟩
theorem read_key {l r c : List UInt8} {t : Int} (h : ReadIs l r c t) (ht : 0 ≤ t) : keyOf r c t = l := by
  rcases h with ⟨h1, h2⟩ | ⟨_, _, h3, _⟩
  · rw [keyOf_yes h1, h2]
  · omega

/-- One cell stands ahead of another one. -/
def celBefore (a b : Cel) : Bool :=
  if a.row.data.toList = b.row.data.toList then (if a.col.data.toList = b.col.data.toList then decide (b.time < a.time) else ahead a.col.data.toList b.col.data.toList) else ahead a.row.data.toList b.row.data.toList

theorem less_cut : ∀ (r r' x y : List UInt8), (∀ c ∈ r, sign c = true) → (∀ c ∈ r', sign c = true) → Op.bytesLess (r ++ 0 :: x) (r' ++ 0 :: y) = if r = r' then Op.bytesLess x y else Op.bytesLess r r'
  | [], [], x, y, _, _ => by simp [Op.bytesLess]
  | [], b :: bs, x, y, _, h => by
    have := sign_bd (h b (by simp))
    simp [Op.bytesLess, UInt8.lt_iff_toNat_lt]
    omega
  | a :: as, [], x, y, h, _ => by
    have := sign_bd (h a (by simp))
    have h0 : a ≠ 0 := by rintro rfl; simp at this
    simp [Op.bytesLess, UInt8.lt_iff_toNat_lt, h0]
  | a :: as, b :: bs, x, y, h1, h2 => by
    have ih := less_cut as bs x y (fun c hc => h1 c (by simp [hc])) (fun c hc => h2 c (by simp [hc]))
    simp only [List.cons_append, Op.bytesLess, ih, List.cons.injEq]
    by_cases e : a = b
    · subst e
      by_cases e2 : as = bs
      · simp [e2]
      · simp [e2]
    · have e' : (a == b) = false := by simpa using e
      simp [e, e']
theorem less_snoc : ∀ (a b : List UInt8) (c d : UInt8), a.length = b.length → Op.bytesLess (a ++ [c]) (b ++ [d]) = (Op.bytesLess a b || (decide (a = b) && decide (c < d)))
  | [], [], c, d, _ => by simp [Op.bytesLess]
  | [], b :: bs, c, d, h => by simp at h
  | a :: as, [], c, d, h => by simp at h
  | a :: as, b :: bs, c, d, h => by
    have ih := less_snoc as bs c d (by simpa using h)
    simp only [List.cons_append, Op.bytesLess, ih, List.cons.injEq]
    by_cases e : a = b
    · subst e; simp [UInt8.lt_iff_toNat_lt]
    · have e' : (a == b) = false := by simpa using e
      simp [e, e']
theorem less_fix (k : Nat) : ∀ n m : Nat, n < 2 ^ (8 * k) → m < 2 ^ (8 * k) → Op.bytesLess (fixB n k).reverse (fixB m k).reverse = decide (n < m) := by
  induction k with
  | zero => intro n m hn hm; simp at hn hm; subst hn hm; simp [fixB, Op.bytesLess]
  | succ k ih =>
    intro n m hn hm
    have hp : 2 ^ (8 * (k + 1)) = 2 ^ (8 * k) * 256 := by rw [show 8 * (k + 1) = 8 * k + 8 by omega, Nat.pow_add]
    rw [hp] at hn hm
    have hn' : n / 256 < 2 ^ (8 * k) := Nat.div_lt_of_lt_mul (by rw [Nat.mul_comm]; exact hn)
    have hm' : m / 256 < 2 ^ (8 * k) := Nat.div_lt_of_lt_mul (by rw [Nat.mul_comm]; exact hm)
    rw [fix_cons, fix_cons, List.reverse_cons, List.reverse_cons, less_snoc _ _ _ _ (by simp [fix_length]), ih _ _ hn' hm']
    have he : ((fixB (n / 256) k).reverse = (fixB (m / 256) k).reverse) ↔ n / 256 = m / 256 := by
      rw [List.reverse_inj]
      constructor
      · intro h
        have h1 := fix_inj h
        rwa [Nat.mod_eq_of_lt hn', Nat.mod_eq_of_lt hm'] at h1
      · intro h; rw [h]
    have hd : decide ((fixB (n / 256) k).reverse = (fixB (m / 256) k).reverse) = decide (n / 256 = m / 256) := decide_eq_decide.2 he
    rw [hd]
    simp only [UInt8.lt_iff_toNat_lt, UInt8.toNat_ofNat']
    rw [Bool.eq_iff_iff]
    simp only [Bool.or_eq_true, Bool.and_eq_true, decide_eq_true_eq]
    omega
theorem less_key {r c r' c' : List UInt8} {t t' : Int} (h1 : keyOk r c t = true) (h2 : keyOk r' c' t' = true) : Op.bytesLess (key r c t) (key r' c' t') = if r = r' then (if c = c' then decide (t' < t) else Op.bytesLess c c') else Op.bytesLess r r' := by
  obtain ⟨a1, a2, a3⟩ := keyOk_parts h1
  obtain ⟨b1, b2, b3⟩ := keyOk_parts h2
  have := time_bd a3
  have := time_bd b3
  unfold key
  rw [less_cut _ _ _ _ (name_parts a1).1 (name_parts b1).1, less_cut _ _ _ _ (name_parts a2).1 (name_parts b2).1, less_fix 4 _ _ (by omega) (by omega)]
  have : decide ((1000000000 - t).toNat < (1000000000 - t').toNat) = decide (t' < t) := by rw [decide_eq_decide]; omega
  rw [this]
theorem less_trans : ∀ a b c : List UInt8, Op.bytesLess a b = true → Op.bytesLess b c = true → Op.bytesLess a c = true
  | [], _, [], h1, h2 => by
    rename_i b
    cases b <;> simp [Op.bytesLess] at h2 h1
  | [], _, c :: cs, _, _ => by simp [Op.bytesLess]
  | a :: as, [], _, h1, _ => by simp [Op.bytesLess] at h1
  | a :: as, b :: bs, [], _, h2 => by simp [Op.bytesLess] at h2
  | a :: as, b :: bs, c :: cs, h1, h2 => by
    have ih := less_trans as bs cs
    simp only [Op.bytesLess, Bool.or_eq_true, decide_eq_true_eq, Bool.and_eq_true, beq_iff_eq, UInt8.lt_iff_toNat_lt] at h1 h2 ⊢
    rcases h1 with h1 | ⟨rfl, h1⟩
    · rcases h2 with h2 | ⟨rfl, h2⟩
      · exact .inl (by omega)
      · exact .inl h1
    · rcases h2 with h2 | ⟨rfl, h2⟩
      · exact .inl h2
      · exact .inr ⟨rfl, ih h1 h2⟩

def celKey (x : Cel) : List UInt8 := keyOf x.row.data.toList x.col.data.toList x.time
theorem cel_keyOk {x : Cel} (h : cellOk x = true) : keyOk x.row.data.toList x.col.data.toList x.time = true := by
  unfold cellOk at h
  simp only [Bool.and_eq_true] at h
  unfold keyOk
  simp [h.1.1.1.1, h.1.1.1.2, h.1.1.2]
/-- A cell stands ahead where its key does. -/
theorem before_key {a b : Cel} (ha : cellOk a = true) (hb : cellOk b = true) : celBefore a b = ahead (celKey a) (celKey b) := by
  unfold celKey
  rw [keyOf_yes (cel_keyOk ha), keyOf_yes (cel_keyOk hb), ← ahead_less, less_key (cel_keyOk ha) (cel_keyOk hb)]
  unfold celBefore
  simp only [ahead_less]
theorem before_not {a b : Cel} (h : celBefore a b = true) : celBefore b a = false := by
  unfold celBefore at h ⊢
  simp only [← ahead_less] at h ⊢
  by_cases h1 : a.row.data.toList = b.row.data.toList
  · rw [if_pos h1] at h
    rw [if_pos h1.symm]
    by_cases h2 : a.col.data.toList = b.col.data.toList
    · rw [if_pos h2] at h
      rw [if_pos h2.symm]
      simp at h ⊢
      omega
    · rw [if_neg h2] at h
      rw [if_neg (fun e => h2 e.symm)]
      exact less_asymm _ _ h
  · rw [if_neg h1] at h
    rw [if_neg (fun e => h1 e.symm)]
    exact less_asymm _ _ h

/-- The cell at a place is right, and stands behind the one ahead of it. -/
def okAt (xs : List Cel) (i : Nat) : Bool := match xs[i]? with
  | none => true
  | some x => cellOk x && (match i with | 0 => true | j + 1 => match xs[j]? with | none => true | some y => celBefore y x)
def cellsOk (xs : List Cel) : Bool := (List.range xs.length).all (okAt xs)
theorem cellsOk_yes {xs : List Cel} (h : ∀ j, j < xs.length → okAt xs j = true) : cellsOk xs = true := List.all_eq_true.2 (fun j hj => h j (List.mem_range.1 hj))
theorem cellsOk_no {xs : List Cel} {i : Nat} (hi : i < xs.length) (h : okAt xs i = false) : cellsOk xs = false := List.all_eq_false.2 ⟨i, List.mem_range.2 hi, by simp [h]⟩
theorem cellsOk_at {xs : List Cel} (h : cellsOk xs = true) {j : Nat} (hj : j < xs.length) : okAt xs j = true := List.all_eq_true.1 h j (List.mem_range.2 hj)
theorem okAt_zero {xs : List Cel} {x : Cel} (h : xs[0]? = some x) : okAt xs 0 = cellOk x := by unfold okAt; rw [h]; simp
theorem okAt_succ {xs : List Cel} {x y : Cel} {j : Nat} (h : xs[j + 1]? = some x) (h' : xs[j]? = some y) : okAt xs (j + 1) = (cellOk x && celBefore y x) := by
  have : okAt xs (j + 1) = (match xs[j + 1]? with
    | none => true
    | some x => cellOk x && (match xs[j]? with | none => true | some y => celBefore y x)) := rfl
  rw [this, h, h']
theorem cells_ok {xs : List Cel} (h : cellsOk xs = true) {j : Nat} {x : Cel} (hj : xs[j]? = some x) : cellOk x = true := by
  have h1 := cellsOk_at h (List.getElem?_eq_some_iff.1 hj).1
  unfold okAt at h1
  rw [hj] at h1
  simp only [Bool.and_eq_true] at h1
  exact h1.1
/-- Of a right list the one ahead stands ahead. -/
theorem cells_rise {xs : List Cel} (h : cellsOk xs = true) {i : Nat} {x : Cel} (hi : xs[i]? = some x) (d : Nat) : ∀ {y : Cel}, xs[i + d + 1]? = some y → Op.bytesLess (celKey x) (celKey y) = true := by
  induction d with
  | zero =>
    intro y hy
    have h1 := cellsOk_at h (List.getElem?_eq_some_iff.1 hy).1
    rw [Nat.add_zero] at hy h1
    rw [okAt_succ hy hi] at h1
    simp only [Bool.and_eq_true] at h1
    rw [ahead_less, ← before_key (cells_ok h hi) h1.1]
    exact h1.2
  | succ d ih =>
    intro y hy
    have hlt := (List.getElem?_eq_some_iff.1 hy).1
    obtain ⟨z, hz⟩ : ∃ z, xs[i + d + 1]? = some z := ⟨_, List.getElem?_eq_getElem (by omega)⟩
    have h1 := cellsOk_at h hlt
    rw [show i + (d + 1) + 1 = (i + d + 1) + 1 by omega] at hy h1
    rw [okAt_succ hy hz] at h1
    simp only [Bool.and_eq_true] at h1
    refine less_trans _ _ _ (ih hz) ?_
    rw [ahead_less, ← before_key (cells_ok h hz) h1.1]
    exact h1.2

/-- A cell of a row and a column that is no newer than asked. -/
def fits (r c : List UInt8) (t : Int) (x : Cel) : Bool := decide (x.row.data.toList = r) && decide (x.col.data.toList = c) && decide (x.time ≤ t)
def newest (xs : List Cel) (r c : List UInt8) (t : Int) : Option Cel := if cellsOk xs = true then xs.find? (fits r c t) else none
theorem fits_parts {r c : List UInt8} {t : Int} {x : Cel} (h : fits r c t x = true) : x.row.data.toList = r ∧ x.col.data.toList = c ∧ x.time ≤ t := by
  unfold fits at h
  simp only [Bool.and_eq_true, decide_eq_true_eq] at h
  exact ⟨h.1.1, h.1.2, h.2⟩
theorem find_at {xs : List Cel} {p : Cel → Bool} {i : Nat} {x : Cel} (hi : xs[i]? = some x) (hp : p x = true) (hb : ∀ (j : Nat) (y : Cel), j < i → xs[j]? = some y → p y = false) : xs.find? p = some x := by
  induction xs generalizing i with
  | nil => simp at hi
  | cons a l ih =>
    cases i with
    | zero => simp at hi; subst hi; simp [hp]
    | succ i =>
      rw [List.find?_cons_of_neg (by rw [hb 0 a (by omega) (by simp)]; simp)]
      exact ih (by simpa using hi) (fun j y hj hy => hb (j + 1) y (by omega) (by simpa using hy))
theorem find_no {xs : List Cel} {p : Cel → Bool} (hb : ∀ (j : Nat) (y : Cel), xs[j]? = some y → p y = false) : xs.find? p = none := by
  rw [List.find?_eq_none]
  intro x hx
  obtain ⟨j, hj⟩ := List.mem_iff_getElem?.1 hx
  rw [hb j x hj]
  simp
/-- The newest one that is told is the newest one. -/
theorem newest_most {xs : List Cel} {r c : List UInt8} {t : Int} {x y : Cel} (h : newest xs r c t = some x) (hy : y ∈ xs) (hf : fits r c t y = true) : y.time ≤ x.time := by
  unfold newest at h
  cases hok : cellsOk xs
  · simp [hok] at h
  · rw [if_pos hok] at h
    obtain ⟨hx, as, bs, hl, hno⟩ := List.find?_eq_some_iff_append.1 h
    rw [hl] at hy
    have hin := List.mem_append.1 hy
    rcases hin with h1 | h1
    · have := hno y h1
      simp [hf] at this
    · rcases List.mem_cons.1 h1 with rfl | h1
      · omega
      · obtain ⟨j, hj⟩ := List.mem_iff_getElem?.1 h1
        have hi : xs[as.length]? = some x := by rw [hl]; simp
        have hk : xs[as.length + j + 1]? = some y := by
          rw [hl, List.getElem?_append_right (by omega), show as.length + j + 1 - as.length = j + 1 by omega]
          simpa using hj
        have h2 := cells_rise hok hi j hk
        have kx := cel_keyOk (cells_ok hok hi)
        have ky := cel_keyOk (cells_ok hok hk)
        unfold celKey at h2
        rw [keyOf_yes kx, keyOf_yes ky, less_key kx ky] at h2
        obtain ⟨f1, f2, _⟩ := fits_parts hx
        obtain ⟨g1, g2, _⟩ := fits_parts hf
        rw [if_pos (by rw [f1, g1]), if_pos (by rw [f2, g2])] at h2
        simp at h2
        omega
theorem newest_fits {xs : List Cel} {r c : List UInt8} {t : Int} {x : Cel} (h : newest xs r c t = some x) : x ∈ xs ∧ fits r c t x = true := by
  unfold newest at h
  cases hok : cellsOk xs
  · simp [hok] at h
  · rw [if_pos hok] at h
    exact ⟨List.mem_of_find?_eq_some h, List.find?_some h⟩
theorem newest_none {xs : List Cel} {r c : List UInt8} {t : Int} (h : newest xs r c t = none) (hok : cellsOk xs = true) {y : Cel} (hy : y ∈ xs) : fits r c t y = false := by
  unfold newest at h
  rw [if_pos hok, List.find?_eq_none] at h
  simpa using h y hy
end Go.Proofs.Ytejoiaijlaaekaa
