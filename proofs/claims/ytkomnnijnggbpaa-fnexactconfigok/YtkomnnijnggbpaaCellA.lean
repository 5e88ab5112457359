/- Names, cells, their keys and their order: keys come back, and stand as their cells do. -/
import Derived.WalkKit
import Derived.Test.YtkomnnijnggbpaaPureA
import Derived.Lib.Bytealg
import Derived.Test.YtkomnnijnggbpaaProg
import Derived.Laws.Rows
namespace Go.Proofs.Ytkomnnijnggbpaa
open Go.RowKit
set_option linter.unusedVariables false

/-- A cell. -/
structure Cel where
  row : ByteArray
  col : ByteArray
  time : Int
  gone : Bool
  value : ByteArray

def sign (c : UInt8) : Bool := decide (33 ≤ c.toNat) && decide (c.toNat ≤ 126)
def nameOk (l : List UInt8) : Bool := l.all sign && decide (1 ≤ l.length) && decide (l.length ≤ 16)
def timeOk (t : Int) : Bool := decide (0 ≤ t) && decide (t ≤ 1000000000)
def cellOk (x : Cel) : Bool := nameOk x.row.data.toList && nameOk x.col.data.toList && timeOk x.time && decide (x.value.size ≤ 30) && (!x.gone || x.value.data.toList.isEmpty)

theorem sign_no {c : UInt8} (h : c.toNat < 33 ∨ 126 < c.toNat) : sign c = false := by unfold sign; rcases h with h | h <;> simp <;> omega
theorem sign_yes {c : UInt8} (h1 : 33 ≤ c.toNat) (h2 : c.toNat ≤ 126) : sign c = true := by unfold sign; simp; omega
theorem sign_bd {c : UInt8} (h : sign c = true) : 33 ≤ c.toNat ∧ c.toNat ≤ 126 := by simpa [sign] using h
/-- A byte that no name has. -/
theorem name_bad {l : List UInt8} {k : Nat} {c : UInt8} (hk : l[k]? = some c) (h : sign c = false) : nameOk l = false := by
  have hm : c ∈ l := List.mem_of_getElem? hk
  unfold nameOk
  rw [show l.all sign = false from List.all_eq_false.2 ⟨c, hm, by simp [h]⟩]
  rfl
theorem name_len {l : List UInt8} (h : l.length < 1 ∨ 16 < l.length) : nameOk l = false := by
  unfold nameOk
  rcases h with h | h
  · rw [show decide (1 ≤ l.length) = false from decide_eq_false (by omega)]; simp
  · rw [show decide (l.length ≤ 16) = false from decide_eq_false (by omega)]; simp
theorem name_good {l : List UInt8} (h : ∀ j, j < l.length → ∃ c, l[j]? = some c ∧ sign c = true) (h1 : 1 ≤ l.length) (h2 : l.length ≤ 16) : nameOk l = true := by
  unfold nameOk
  have : l.all sign = true := List.all_eq_true.2 (fun c hc => by
    obtain ⟨j, hj⟩ := List.mem_iff_getElem?.1 hc
    obtain ⟨d, hd, hs⟩ := h j (List.getElem?_eq_some_iff.1 hj).1
    rw [hj] at hd
    cases hd
    exact hs)
  simp [this, h1, h2]
theorem name_parts {l : List UInt8} (h : nameOk l = true) : (∀ c ∈ l, sign c = true) ∧ 1 ≤ l.length ∧ l.length ≤ 16 := by
  unfold nameOk at h
  simp only [Bool.and_eq_true, decide_eq_true_eq, List.all_eq_true] at h
  exact ⟨h.1.1, h.1.2, h.2⟩
theorem name_zero {l : List UInt8} (h : nameOk l = true) : (0 : UInt8) ∉ l := fun hm => by
  have := (name_parts h).1 0 hm
  simp [sign] at this
theorem time_no {t : Int} (h : t < 0 ∨ 1000000000 < t) : timeOk t = false := by unfold timeOk; rcases h with h | h <;> simp <;> omega
theorem time_yes {t : Int} (h1 : 0 ≤ t) (h2 : t ≤ 1000000000) : timeOk t = true := by unfold timeOk; simp; omega
theorem time_bd {t : Int} (h : timeOk t = true) : 0 ≤ t ∧ t ≤ 1000000000 := by simpa [timeOk] using h

/-- The form of a key. -/
def key (r c : List UInt8) (t : Int) : List UInt8 := r ++ 0 :: (c ++ 0 :: (fixB (1000000000 - t).toNat 4).reverse)
def keyOk (r c : List UInt8) (t : Int) : Bool := nameOk r && nameOk c && timeOk t
def keyOf (r c : List UInt8) (t : Int) : List UInt8 := if keyOk r c t = true then key r c t else []
theorem key_ne (r c : List UInt8) (t : Int) : key r c t ≠ [] := by unfold key; simp
theorem key_len (r c : List UInt8) (t : Int) : (key r c t).length = r.length + c.length + 6 := by unfold key; simp [fix_length]; omega
theorem keyOf_yes {r c : List UInt8} {t : Int} (h : keyOk r c t = true) : keyOf r c t = key r c t := if_pos h
theorem keyOf_no {r c : List UInt8} {t : Int} (h : keyOk r c t = false) : keyOf r c t = [] := if_neg (by simp [h])
theorem keyOf_ok {r c : List UInt8} {t : Int} (h : keyOf r c t ≠ []) : keyOk r c t = true := by
  cases h1 : keyOk r c t
  · exact absurd (keyOf_no h1) h
  · rfl
theorem keyOk_parts {r c : List UInt8} {t : Int} (h : keyOk r c t = true) : nameOk r = true ∧ nameOk c = true ∧ timeOk t = true := by
  unfold keyOk at h
  simp only [Bool.and_eq_true] at h
  exact ⟨h.1.1, h.1.2, h.2⟩

/-- What stands ahead of the first byte 0, and what behind it. -/
theorem cut_zero : ∀ {r r' x x' : List UInt8}, (0 : UInt8) ∉ r → (0 : UInt8) ∉ r' → r ++ 0 :: x = r' ++ 0 :: x' → r = r' ∧ x = x'
  | [], [], x, x', _, _, h => by simpa using h
  | [], b :: bs, x, x', _, h2, h => by simp at h; exact absurd (by simp [← h.1]) h2
  | a :: us, [], x, x', h1, _, h => by simp at h; exact absurd (by simp [h.1]) h1
  | a :: us, b :: bs, x, x', h1, h2, h => by
    simp at h
    obtain ⟨e1, e2⟩ := cut_zero (r := us) (r' := bs) (fun hm => h1 (by simp [hm])) (fun hm => h2 (by simp [hm])) h.2
    exact ⟨by rw [h.1, e1], e2⟩
theorem fix4_inj {n m : Nat} (hn : n ≤ 1000000000) (hm : m ≤ 1000000000) (h : (fixB n 4).reverse = (fixB m 4).reverse) : n = m := by
  have h1 := fix_inj (List.reverse_inj.1 h)
  rw [Nat.mod_eq_of_lt (by omega), Nat.mod_eq_of_lt (by omega)] at h1
  exact h1
/-- Keys come back. -/
theorem key_inj {r c r' c' : List UInt8} {t t' : Int} (h1 : keyOk r c t = true) (h2 : keyOk r' c' t' = true) (h : key r c t = key r' c' t') : r = r' ∧ c = c' ∧ t = t' := by
  obtain ⟨a1, a2, a3⟩ := keyOk_parts h1
  obtain ⟨b1, b2, b3⟩ := keyOk_parts h2
  obtain ⟨e1, e2⟩ := cut_zero (name_zero a1) (name_zero b1) h
  obtain ⟨e3, e4⟩ := cut_zero (name_zero a2) (name_zero b2) e2
  have := time_bd a3
  have := time_bd b3
  have e5 := fix4_inj (by omega) (by omega) e4
  exact ⟨e1, e3, by omega⟩

/-- What is read from a text: what it is the key of, or nothing. -/
def ReadIs (l : List UInt8) (r c : List UInt8) (t : Int) : Prop := (keyOk r c t = true ∧ l = key r c t) ∨ (r = [] ∧ c = [] ∧ t = -1 ∧ ∀ r' c' t', keyOk r' c' t' = true → l ≠ key r' c' t')
theorem read_one {l r c r' c' : List UInt8} {t t' : Int} (h : ReadIs l r c t) (h' : ReadIs l r' c' t') : r = r' ∧ c = c' ∧ t = t' := by
  rcases h with ⟨h1, h2⟩ | ⟨rfl, rfl, rfl, h2⟩
  · rcases h' with ⟨h3, h4⟩ | ⟨_, _, _, h4⟩
    · exact key_inj h1 h3 (h2.symm.trans h4)
    · exact absurd h2 (h4 _ _ _ h1)
  · rcases h' with ⟨h3, h4⟩ | ⟨rfl, rfl, rfl, h4⟩
    · exact absurd h4 (h2 _ _ _ h3)
    · exact ⟨rfl, rfl, rfl⟩
theorem read_back {r c : List UInt8} {t : Int} (h : keyOk r c t = true) : ReadIs (keyOf r c t) r c t := .inl ⟨h, keyOf_yes h⟩
theorem read_empty : ReadIs [] [] [] (-1) := .inr ⟨rfl, rfl, rfl, fun r c t _ h => key_ne r c t h.symm⟩
theorem read_key {l r c : List UInt8} {t : Int} (h : ReadIs l r c t) (ht : 0 ≤ t) : keyOf r c t = l := by
  rcases h with ⟨h1, h2⟩ | ⟨_, _, h3, _⟩
  · rw [keyOf_yes h1, h2]
  · omega

/-- One cell stands ahead of another one. -/
def celBefore (a b : Cel) : Bool :=
  if a.row.data.toList = b.row.data.toList then (if a.col.data.toList = b.col.data.toList then decide (b.time < a.time) else ahead a.col.data.toList b.col.data.toList) else ahead a.row.data.toList b.row.data.toList

theorem less_cut : ∀ (r r' x y : List UInt8), (∀ c ∈ r, sign c = true) → (∀ c ∈ r', sign c = true) → Op.bytesLess (r ++ 0 :: x) (r' ++ 0 :: y) = if r = r' then Op.bytesLess x y else Op.bytesLess r r'
  | [], [], x, y, _, _ => by simp [Op.bytesLess]
  | [], b :: bs, x, y, _, h => by
    have := sign_bd (h b (by simp))
    simp [Op.bytesLess, UInt8.lt_iff_toNat_lt]
    omega
  | a :: us, [], x, y, h, _ => by
    have := sign_bd (h a (by simp))
    have h0 : a ≠ 0 := by rintro rfl; simp at this
    simp [Op.bytesLess, UInt8.lt_iff_toNat_lt, h0]
  | a :: us, b :: bs, x, y, h1, h2 => by
    have ih := less_cut us bs x y (fun c hc => h1 c (by simp [hc])) (fun c hc => h2 c (by simp [hc]))
    simp only [List.cons_append, Op.bytesLess, ih, List.cons.injEq]
    by_cases e : a = b
    · subst e
      by_cases e2 : us = bs
      · simp [e2]
      · simp [e2]
    · have e' : (a == b) = false := by simpa using e
      simp [e, e']
theorem less_snoc : ∀ (a b : List UInt8) (c d : UInt8), a.length = b.length → Op.bytesLess (a ++ [c]) (b ++ [d]) = (Op.bytesLess a b || (decide (a = b) && decide (c < d)))
  | [], [], c, d, _ => by simp [Op.bytesLess]
  | [], b :: bs, c, d, h => by simp at h
  | a :: us, [], c, d, h => by simp at h
  | a :: us, b :: bs, c, d, h => by
    have ih := less_snoc us bs c d (by simpa using h)
    simp only [List.cons_append, Op.bytesLess, ih, List.cons.injEq]
    by_cases e : a = b
    · subst e; simp [UInt8.lt_iff_toNat_lt]
    · have e' : (a == b) = false := by simpa using e
      simp [e, e']
theorem less_fix (k : Nat) : ∀ n m : Nat, n < 2 ^ (8 * k) → m < 2 ^ (8 * k) → Op.bytesLess (fixB n k).reverse (fixB m k).reverse = decide (n < m) := by
  induction k with
  | zero => intro n m hn hm; simp at hn hm; subst hn hm; simp [fixB, Op.bytesLess]
  | succ k ih =>
    intro n m hn hm
    have hp : 2 ^ (8 * (k + 1)) = 2 ^ (8 * k) * 256 := by rw [show 8 * (k + 1) = 8 * k + 8 by omega, Nat.pow_add]
    rw [hp] at hn hm
    have hn' : n / 256 < 2 ^ (8 * k) := Nat.div_lt_of_lt_mul (by rw [Nat.mul_comm]; exact hn)
    have hm' : m / 256 < 2 ^ (8 * k) := Nat.div_lt_of_lt_mul (by rw [Nat.mul_comm]; exact hm)
    rw [fix_cons, fix_cons, List.reverse_cons, List.reverse_cons, less_snoc _ _ _ _ (by simp [fix_length]), ih _ _ hn' hm']
    have he : ((fixB (n / 256) k).reverse = (fixB (m / 256) k).reverse) ↔ n / 256 = m / 256 := by
      rw [List.reverse_inj]
      constructor
      · intro h
        have h1 := fix_inj h
        rwa [Nat.mod_eq_of_lt hn', Nat.mod_eq_of_lt hm'] at h1
      · intro h; rw [h]
    have hd : decide ((fixB (n / 256) k).reverse = (fixB (m / 256) k).reverse) = decide (n / 256 = m / 256) := decide_eq_decide.2 he
    rw [hd]
    simp only [UInt8.lt_iff_toNat_lt, UInt8.toNat_ofNat']
    rw [Bool.eq_iff_iff]
    simp only [Bool.or_eq_true, Bool.and_eq_true, decide_eq_true_eq]
    omega
theorem less_key {r c r' c' : List UInt8} {t t' : Int} (h1 : keyOk r c t = true) (h2 : keyOk r' c' t' = true) : Op.bytesLess (key r c t) (key r' c' t') = if r = r' then (if c = c' then decide (t' < t) else Op.bytesLess c c') else Op.bytesLess r r' := by
  obtain ⟨a1, a2, a3⟩ := keyOk_parts h1
  obtain ⟨b1, b2, b3⟩ := keyOk_parts h2
  have := time_bd a3
  have := time_bd b3
  unfold key
  rw [less_cut _ _ _ _ (name_parts a1).1 (name_parts b1).1, less_cut _ _ _ _ (name_parts a2).1 (name_parts b2).1, less_fix 4 _ _ (by omega) (by omega)]
  have : decide ((1000000000 - t).toNat < (1000000000 - t').toNat) = decide (t' < t) := by rw [decide_eq_decide]; omega
  rw [this]
theorem less_trans : ∀ a b c : List UInt8, Op.bytesLess a b = true → Op.bytesLess b c = true → Op.bytesLess a c = true
  | [], _, [], h1, h2 => by
    rename_i b
    cases b <;> simp [Op.bytesLess] at h2 h1
  | [], _, c :: cs, _, _ => by simp [Op.bytesLess]
  | a :: us, [], _, h1, _ => by simp [Op.bytesLess] at h1
  | a :: us, b :: bs, [], _, h2 => by simp [Op.bytesLess] at h2
  | a :: us, b :: bs, c :: cs, h1, h2 => by
    have ih := less_trans us bs cs
    simp only [Op.bytesLess, Bool.or_eq_true, decide_eq_true_eq, Bool.and_eq_true, beq_iff_eq, UInt8.lt_iff_toNat_lt] at h1 h2 ⊢
    rcases h1 with h1 | ⟨rfl, h1⟩
    · rcases h2 with h2 | ⟨rfl, h2⟩
      · exact .inl (by omega)
      · exact .inl h1
    · rcases h2 with h2 | ⟨rfl, h2⟩
      · exact .inl h2
      · exact .inr ⟨rfl, ih h1 h2⟩

def celKey (x : Cel) : List UInt8 := keyOf x.row.data.toList x.col.data.toList x.time
theorem cel_keyOk {x : Cel} (h : cellOk x = true) : keyOk x.row.data.toList x.col.data.toList x.time = true := by
  unfold cellOk at h
  simp only [Bool.and_eq_true] at h
  unfold keyOk
  simp [h.1.1.1.1, h.1.1.1.2, h.1.1.2]
/-- A cell stands ahead where its key does. -/
theorem before_key {a b : Cel} (ha : cellOk a = true) (hb : cellOk b = true) : celBefore a b = ahead (celKey a) (celKey b) := by
  unfold celKey
  rw [keyOf_yes (cel_keyOk ha), keyOf_yes (cel_keyOk hb), ← ahead_less, less_key (cel_keyOk ha) (cel_keyOk hb)]
  unfold celBefore
  simp only [ahead_less]
theorem before_not {a b : Cel} (h : celBefore a b = true) : celBefore b a = false := by
  unfold celBefore at h ⊢
  simp only [← ahead_less] at h ⊢
  by_cases h1 : a.row.data.toList = b.row.data.toList
  · rw [if_pos h1] at h
    rw [if_pos h1.symm]
    by_cases h2 : a.col.data.toList = b.col.data.toList
    · rw [if_pos h2] at h
      rw [if_pos h2.symm]
      simp at h ⊢
      omega
    · rw [if_neg h2] at h
      rw [if_neg (fun e => h2 e.symm)]
      exact less_asymm _ _ h
  · rw [if_neg h1] at h
    rw [if_neg (fun e => h1 e.symm)]
    exact less_asymm _ _ h

/-- The cell at a place is right, and stands behind the one ahead of it. -/
def okAt (xs : List Cel) (i : Nat) : Bool := match xs[i]? with
  | none => true
  | some x => cellOk x && (match i with | 0 => true | j + 1 => match xs[j]? with | none => true | some y => celBefore y x)
def cellsOk (xs : List Cel) : Bool := (List.range xs.length).all (okAt xs)
theorem cellsOk_yes {xs : List Cel} (h : ∀ j, j < xs.length → okAt xs j = true) : cellsOk xs = true := List.all_eq_true.2 (fun j hj => h j (List.mem_range.1 hj))
theorem cellsOk_no {xs : List Cel} {i : Nat} (hi : i < xs.length) (h : okAt xs i = false) : cellsOk xs = false := List.all_eq_false.2 ⟨i, List.mem_range.2 hi, by simp [h]⟩
theorem cellsOk_at {xs : List Cel} (h : cellsOk xs = true) {j : Nat} (hj : j < xs.length) : okAt xs j = true := List.all_eq_true.1 h j (List.mem_range.2 hj)
theorem okAt_zero {xs : List Cel} {x : Cel} (h : xs[0]? = some x) : okAt xs 0 = cellOk x := by unfold okAt; rw [h]; simp
theorem okAt_succ {xs : List Cel} {x y : Cel} {j : Nat} (h : xs[j + 1]? = some x) (h' : xs[j]? = some y) : okAt xs (j + 1) = (cellOk x && celBefore y x) := by
  have : okAt xs (j + 1) = (match xs[j + 1]? with
    | none => true
    | some x => cellOk x && (match xs[j]? with | none => true | some y => celBefore y x)) := rfl
  rw [this, h, h']
theorem cells_ok {xs : List Cel} (h : cellsOk xs = true) {j : Nat} {x : Cel} (hj : xs[j]? = some x) : cellOk x = true := by
  have h1 := cellsOk_at h (List.getElem?_eq_some_iff.1 hj).1
  unfold okAt at h1
  rw [hj] at h1
  simp only [Bool.and_eq_true] at h1
  exact h1.1
/-- Of a right list the one ahead stands ahead. -/
theorem cells_rise {xs : List Cel} (h : cellsOk xs = true) {i : Nat} {x : Cel} (hi : xs[i]? = some x) (d : Nat) : ∀ {y : Cel}, xs[i + d + 1]? = some y → Op.bytesLess (celKey x) (celKey y) = true := by
  induction d with
  | zero =>
    intro y hy
    have h1 := cellsOk_at h (List.getElem?_eq_some_iff.1 hy).1
    rw [Nat.add_zero] at hy h1
    rw [okAt_succ hy hi] at h1
    simp only [Bool.and_eq_true] at h1
    rw [ahead_less, ← before_key (cells_ok h hi) h1.1]
    exact h1.2
  | succ d ih =>
    intro y hy
    have hlt := (List.getElem?_eq_some_iff.1 hy).1
    obtain ⟨z, hz⟩ : ∃ z, xs[i + d + 1]? = some z := ⟨_, List.getElem?_eq_getElem (by omega)⟩
    have h1 := cellsOk_at h hlt
    rw [show i + (d + 1) + 1 = (i + d + 1) + 1 by omega] at hy h1
    rw [okAt_succ hy hz] at h1
    simp only [Bool.and_eq_true] at h1
    refine less_trans _ _ _ (ih hz) ?_
    rw [ahead_less, ← before_key (cells_ok h hz) h1.1]
    exact h1.2

/-- A cell of a row and a column that is no newer than asked. -/
def fits (r c : List UInt8) (t : Int) (x : Cel) : Bool := decide (x.row.data.toList = r) && decide (x.col.data.toList = c) && decide (x.time ≤ t)
def newest (xs : List Cel) (r c : List UInt8) (t : Int) : Option Cel := if cellsOk xs = true then xs.find? (fits r c t) else none
theorem fits_parts {r c : List UInt8} {t : Int} {x : Cel} (h : fits r c t x = true) : x.row.data.toList = r ∧ x.col.data.toList = c ∧ x.time ≤ t := by
  unfold fits at h
  simp only [Bool.and_eq_true, decide_eq_true_eq] at h
  exact ⟨h.1.1, h.1.2, h.2⟩
theorem find_at {xs : List Cel} {p : Cel → Bool} {i : Nat} {x : Cel} (hi : xs[i]? = some x) (hp : p x = true) (hb : ∀ (j : Nat) (y : Cel), j < i → xs[j]? = some y → p y = false) : xs.find? p = some x := by
  induction xs generalizing i with
  | nil => simp at hi
  | cons a l ih =>
    cases i with
    | zero => simp at hi; subst hi; simp [hp]
    | succ i =>
      rw [List.find?_cons_of_neg (by rw [hb 0 a (by omega) (by simp)]; simp)]
      exact ih (by simpa using hi) (fun j y hj hy => hb (j + 1) y (by omega) (by simpa using hy))
theorem find_no {xs : List Cel} {p : Cel → Bool} (hb : ∀ (j : Nat) (y : Cel), xs[j]? = some y → p y = false) : xs.find? p = none := by
  rw [List.find?_eq_none]
  intro x hx
  obtain ⟨j, hj⟩ := List.mem_iff_getElem?.1 hx
  rw [hb j x hj]
  simp
/-- The newest one that is told is the newest one. -/
theorem newest_most {xs : List Cel} {r c : List UInt8} {t : Int} {x y : Cel} (h : newest xs r c t = some x) (hy : y ∈ xs) (hf : fits r c t y = true) : y.time ≤ x.time := by
  unfold newest at h
  cases hok : cellsOk xs
  · simp [hok] at h
  · rw [if_pos hok] at h
    obtain ⟨hx, us, bs, hl, hno⟩ := List.find?_eq_some_iff_append.1 h
    rw [hl] at hy
    have hin := List.mem_append.1 hy
    rcases hin with h1 | h1
    · have := hno y h1
      simp [hf] at this
    · rcases List.mem_cons.1 h1 with rfl | h1
      · omega
      · obtain ⟨j, hj⟩ := List.mem_iff_getElem?.1 h1
        have hi : xs[us.length]? = some x := by rw [hl]; simp
        have hk : xs[us.length + j + 1]? = some y := by
          rw [hl, List.getElem?_append_right (by omega), show us.length + j + 1 - us.length = j + 1 by omega]
          simpa using hj
        have h2 := cells_rise hok hi j hk
        have kx := cel_keyOk (cells_ok hok hi)
        have ky := cel_keyOk (cells_ok hok hk)
        unfold celKey at h2
        rw [keyOf_yes kx, keyOf_yes ky, less_key kx ky] at h2
        obtain ⟨f1, f2, _⟩ := fits_parts hx
        obtain ⟨g1, g2, _⟩ := fits_parts hf
        rw [if_pos (by rw [f1, g1]), if_pos (by rw [f2, g2])] at h2
        simp at h2
        omega
theorem newest_fits {xs : List Cel} {r c : List UInt8} {t : Int} {x : Cel} (h : newest xs r c t = some x) : x ∈ xs ∧ fits r c t x = true := by
  unfold newest at h
  cases hok : cellsOk xs
  · simp [hok] at h
  · rw [if_pos hok] at h
    exact ⟨List.mem_of_find?_eq_some h, List.find?_some h⟩
theorem newest_none {xs : List Cel} {r c : List UInt8} {t : Int} (h : newest xs r c t = none) (hok : cellsOk xs = true) {y : Cel} (hy : y ∈ xs) : fits r c t y = false := by
  unfold newest at h
  rw [if_pos hok, List.find?_eq_none] at h
  simpa using h y hy
end Go.Proofs.Ytkomnnijnggbpaa
/- What is read from a key: what stands ahead of the first byte 0, ahead of the second one, and behind it. -/
namespace Go.Proofs.Ytkomnnijnggbpaa
open Go.RowKit
set_option linter.unusedVariables false

def cut1 (l : List UInt8) : List UInt8 := l.takeWhile (· != 0)
def cut2 (l : List UInt8) : List UInt8 := l.drop ((cut1 l).length + 1)
theorem cut1_zero : ∀ {r x : List UInt8}, (0 : UInt8) ∉ r → cut1 (r ++ 0 :: x) = r
  | [], x, _ => by simp [cut1]
  | a :: us, x, h => by
    have ha : a ≠ 0 := fun e => h (by simp [e])
    have ih := cut1_zero (r := us) (x := x) (fun hm => h (by simp [hm]))
    unfold cut1 at ih ⊢
    rw [List.cons_append, List.takeWhile_cons_of_pos (by simpa using ha), ih]
theorem cut2_zero {r x : List UInt8} (h : (0 : UInt8) ∉ r) : cut2 (r ++ 0 :: x) = x := by
  unfold cut2
  rw [cut1_zero h, List.drop_append]
  simp
theorem cut_index : ∀ l : List UInt8, (Lib.indexByte l 0 = -1 ∧ cut1 l = l ∧ cut2 l = []) ∨ ∃ k : Nat, Lib.indexByte l 0 = k ∧ k < l.length ∧ cut1 l = l.take k ∧ cut2 l = l.drop (k + 1)
  | [] => .inl ⟨by simp [Lib.indexByte], by simp [cut1], by simp [cut2, cut1]⟩
  | a :: us => by
    by_cases ha : a = 0
    · subst ha
      exact .inr ⟨0, by simp [Lib.indexByte], by simp, by simp [cut1], by simp [cut2, cut1]⟩
    · have h1 : cut1 (a :: us) = a :: cut1 us := by unfold cut1; rw [List.takeWhile_cons_of_pos (by simpa using ha)]
      have h2 : cut2 (a :: us) = cut2 us := by unfold cut2; rw [h1]; simp
      have ha' : (a == 0) = false := by simpa using ha
      rcases cut_index us with ⟨e1, e2, e3⟩ | ⟨k, e1, e2, e3, e4⟩
      · exact .inl ⟨by simp [Lib.indexByte, ha', e1], by rw [h1, e2], by rw [h2, e3]⟩
      · refine .inr ⟨k + 1, ?_, by simp; omega, by rw [h1, e3]; simp, by rw [h2, e4]; simp⟩
        unfold Lib.indexByte
        rw [ha', e1]
        have : ((k : Int) == -1) = false := by simp
        simp [this]
/-- How many bytes stand ahead of the first byte 0. -/
theorem cut1_at {l : List UInt8} {k : Nat} (hk : k ≤ l.length) (h : ∀ j, j < k → ∃ c, l[j]? = some c ∧ c ≠ 0) (he : k = l.length ∨ l[k]? = some 0) : cut1 l = l.take k := by
  induction l generalizing k with
  | nil => simp [cut1]
  | cons a us ih =>
    cases k with
    | zero =>
      rcases he with he | he
      · simp at he
      · simp at he
        subst he
        simp [cut1]
    | succ k =>
      obtain ⟨c, hc, hne⟩ := h 0 (by omega)
      simp at hc
      subst hc
      have := ih (k := k) (by simpa using hk) (fun j hj => by obtain ⟨d, hd, h0⟩ := h (j + 1) (by omega); exact ⟨d, by simpa using hd, h0⟩) (by rcases he with he | he; exact .inl (by simpa using he); exact .inr (by simpa using he))
      unfold cut1 at this ⊢
      rw [List.takeWhile_cons_of_pos (by simpa using hne), this, List.take_succ_cons]

theorem getFix_back (n : Nat) (h : n ≤ 1000000000) : getFix (fixB n 4) 0 4 = n := by
  unfold getFix
  rw [if_pos (by simp [fix_length])]
  simp only [Int.toNat_zero, List.drop_zero]
  rw [show (4 : Int).toNat = 4 from rfl, List.take_of_length_le (by simp [fix_length]), fixVal_fix, Nat.mod_eq_of_lt (by omega)]
theorem getFix_bd (l : List UInt8) : -1 ≤ getFix l 0 4 ∧ getFix l 0 4 < 4294967296 := by
  unfold getFix
  by_cases h : (1 : Int) ≤ 4 ∧ (4 : Int) ≤ 4 ∧ (0 : Int) ≤ 0 ∧ (0 : Int) + 4 ≤ l.length
  · rw [if_pos h]
    have := fixVal_lt ((l.drop (0 : Int).toNat).take (4 : Int).toNat)
    have h2 : ((l.drop (0 : Int).toNat).take (4 : Int).toNat).length ≤ 4 := List.length_take_le _ _
    have h3 : 2 ^ (8 * ((l.drop (0 : Int).toNat).take (4 : Int).toNat).length) ≤ 2 ^ 32 := Nat.pow_le_pow_right (by omega) (by omega)
    omega
  · rw [if_neg h]
    omega
def rdTime (l : List UInt8) : Int := 1000000000 - getFix (cut2 (cut2 l)).reverse 0 4
theorem rd_key {r c : List UInt8} {t : Int} (h : keyOk r c t = true) : cut1 (key r c t) = r ∧ cut1 (cut2 (key r c t)) = c ∧ rdTime (key r c t) = t := by
  obtain ⟨a1, a2, a3⟩ := keyOk_parts h
  have := time_bd a3
  unfold rdTime key
  rw [cut1_zero (name_zero a1), cut2_zero (name_zero a1), cut1_zero (name_zero a2), cut2_zero (name_zero a2), List.reverse_reverse, getFix_back _ (by omega)]
  exact ⟨rfl, rfl, by omega⟩
theorem read_impl_yes {l : List UInt8} (hne : l ≠ []) (h : keyOf (cut1 l) (cut1 (cut2 l)) (rdTime l) = l) : ReadIs l (cut1 l) (cut1 (cut2 l)) (rdTime l) := by
  have hk : keyOk (cut1 l) (cut1 (cut2 l)) (rdTime l) = true := keyOf_ok (by rw [h]; exact hne)
  exact .inl ⟨hk, by rw [keyOf_yes hk] at h; exact h.symm⟩
theorem read_impl_no {l : List UInt8} (h : l = [] ∨ keyOf (cut1 l) (cut1 (cut2 l)) (rdTime l) ≠ l) : ReadIs l [] [] (-1) := by
  refine .inr ⟨rfl, rfl, rfl, fun r c t hk hl => ?_⟩
  rcases h with h | h
  · exact key_ne r c t (by rw [← hl]; exact h)
  · obtain ⟨e1, e2, e3⟩ := rd_key hk
    apply h
    rw [hl, e1, e2, e3, keyOf_yes hk]

theorem read_spec_few {l : List UInt8} (h : l.length ≤ (cut1 l).length + 5) : ReadIs l [] [] (-1) := by
  refine .inr ⟨rfl, rfl, rfl, fun r c t hk hl => ?_⟩
  obtain ⟨e1, _, _⟩ := rd_key hk
  rw [← hl] at e1
  have := key_len r c t
  rw [← hl] at this
  rw [e1] at h
  omega
/-- The parts of a text of so many bytes ahead of the first byte 0. -/
def sp2 (l : List UInt8) (i : Nat) : List UInt8 := (l.drop (i + 1)).take (l.length - 5 - (i + 1))
def sp3 (l : List UInt8) : Int := 1000000000 - fixVal (l.drop (l.length - 4)).reverse
theorem read_spec_yes {l : List UInt8} (hne : l ≠ []) {r c : List UInt8} {t : Int} (h : keyOf r c t = l) : ReadIs l r c t := by
  have hk : keyOk r c t = true := keyOf_ok (by rw [h]; exact hne)
  exact .inl ⟨hk, by rw [keyOf_yes hk] at h; exact h.symm⟩
theorem read_spec_no {l : List UInt8} (h : keyOf (cut1 l) (sp2 l (cut1 l).length) (sp3 l) ≠ l) : ReadIs l [] [] (-1) := by
  refine .inr ⟨rfl, rfl, rfl, fun r c t hk hl => ?_⟩
  obtain ⟨e1, e2, e3⟩ := rd_key hk
  obtain ⟨a1, a2, a3⟩ := keyOk_parts hk
  have htb := time_bd a3
  have hlen := key_len r c t
  rw [← hl] at e1 hlen
  apply h
  have h2 : sp2 l r.length = c := by
    unfold sp2
    rw [hlen, hl]
    unfold key
    rw [List.drop_append, List.drop_eq_nil_of_le (by omega), show r.length + 1 - r.length = 1 by omega]
    simp only [List.nil_append, List.drop_succ_cons, List.drop_zero]
    rw [show r.length + c.length + 6 - 5 - (r.length + 1) = c.length by omega, List.take_append]
    simp
  have h3 : sp3 l = t := by
    unfold sp3
    have hd : l.drop (l.length - 4) = (fixB (1000000000 - t).toNat 4).reverse := by
      have e : key r c t = (r ++ 0 :: (c ++ [0])) ++ (fixB (1000000000 - t).toNat 4).reverse := by unfold key; simp
      rw [hlen, hl, e, List.drop_append, List.drop_eq_nil_of_le (by simp; omega)]
      have : r.length + c.length + 6 - 4 - (r ++ 0 :: (c ++ [0])).length = 0 := by simp; omega
      rw [this]
      simp
    rw [hd, List.reverse_reverse, fixVal_fix, Nat.mod_eq_of_lt (by omega)]
    omega
  rw [e1, h2, h3, keyOf_yes hk, hl]
/-- Four bytes, the highest one first. -/
theorem four_val (a b c d : UInt8) : fixVal [a, b, c, d].reverse = a.toNat * 16777216 + b.toNat * 65536 + c.toNat * 256 + d.toNat := by
  simp [fixVal]
  omega
end Go.Proofs.Ytkomnnijnggbpaa
/- Blocks as the document has them: entries that share the beginnings of their keys; a block is of one list alone. -/
namespace Go.Proofs.Ytkomnnijnggbpaa
open Go.RowKit
set_option linter.unusedVariables false

/-- How many bytes of the key ahead are shared. -/
def shareOf (every i : Nat) (last k : List UInt8) : Nat := if i % every = 0 then 0 else shared last k
def sizeOf' (x : Cel) : Nat := 2 * x.value.size + (if x.gone then 1 else 0)
def entry (every i : Nat) (last : List UInt8) (x : Cel) : List UInt8 :=
  varB (shareOf every i last (celKey x)) ++ (varB ((celKey x).length - shareOf every i last (celKey x)) ++ (varB (sizeOf' x) ++ ((celKey x).drop (shareOf every i last (celKey x)) ++ x.value.data.toList)))
def entries (every : Nat) : Nat → List UInt8 → List Cel → List UInt8
  | _, _, [] => []
  | i, last, x :: r => entry every i last x ++ entries every (i + 1) (celKey x) r
/-- Where the entries begin whose place can be divided by every. -/
def startsB (every : Nat) : Nat → Nat → List UInt8 → List Cel → List UInt8
  | _, _, _, [] => []
  | i, pos, last, x :: r => (if i % every = 0 then fixB pos 2 else []) ++ startsB every (i + 1) (pos + (entry every i last x).length) (celKey x) r
def blockOk (xs : List Cel) (every : Int) : Bool := decide (xs.length ≤ 50) && cellsOk xs && decide (1 ≤ every) && decide (every ≤ 16)
def block (xs : List Cel) (e : Nat) : List UInt8 := entries e 0 [] xs ++ (startsB e 0 0 [] xs ++ fixB ((startsB e 0 0 [] xs).length / 2) 2)
def putBlock (xs : List Cel) (every : Int) : List UInt8 := if blockOk xs every = true then block xs every.toNat else []

theorem var_first {a b : Nat} {r r' : List UInt8} (h : varB a ++ r = varB b ++ r') : a = b ∧ r = r' := by
  have h1 := varTake_var ((varB a).length + (varB b).length) a r (by omega)
  have h2 := varTake_var ((varB a).length + (varB b).length) b r' (by omega)
  rw [h, h2] at h1
  have e := var_inj (Option.some.inj h1)
  subst e
  exact ⟨rfl, List.append_cancel_left h⟩
theorem starts_len (every : Nat) : ∀ (xs : List Cel) (i pos : Nat) (last : List UInt8), (startsB every i pos last xs).length % 2 = 0 ∧ (startsB every i pos last xs).length ≤ 2 * xs.length
  | [], i, pos, last => by simp [startsB]
  | x :: r, i, pos, last => by
    have ih := starts_len every r (i + 1) (pos + (entry every i last x).length) (celKey x)
    unfold startsB
    rw [List.length_append, List.length_cons]
    split
    · rw [fix_length]; omega
    · simp; omega
theorem share_take (every i : Nat) (last k : List UInt8) : k.take (shareOf every i last k) = last.take (shareOf every i last k) := by
  unfold shareOf
  split
  · simp
  · exact (shared_take last k).symm
theorem share_le (every i : Nat) (last k : List UInt8) : shareOf every i last k ≤ k.length := by
  unfold shareOf
  split
  · omega
  · exact shared_le_right last k
theorem size_told {x y : Cel} (h : sizeOf' x = sizeOf' y) : x.gone = y.gone ∧ x.value.size = y.value.size := by
  unfold sizeOf' at h
  cases hx : x.gone <;> cases hy : y.gone <;> rw [hx, hy] at h <;> simp at h <;> first | exact ⟨rfl, by omega⟩ | omega
/-- An entry is of one cell alone, and its end is told. -/
theorem entry_told {every i : Nat} {last : List UInt8} {x y : Cel} {r r' : List UInt8} (hx : cellOk x = true) (hy : cellOk y = true) (h : entry every i last x ++ r = entry every i last y ++ r') : x = y ∧ r = r' := by
  unfold entry at h
  simp only [List.append_assoc] at h
  obtain ⟨e1, h⟩ := var_first h
  obtain ⟨e2, h⟩ := var_first h
  obtain ⟨e3, h⟩ := var_first h
  have l1 := share_le every i last (celKey x)
  have l2 := share_le every i last (celKey y)
  have hlen : ((celKey x).drop (shareOf every i last (celKey x))).length = ((celKey y).drop (shareOf every i last (celKey y))).length := by rw [List.length_drop, List.length_drop]; exact e2
  obtain ⟨e4, h⟩ := List.append_inj h hlen
  obtain ⟨g1, g2⟩ := size_told e3
  obtain ⟨e5, e6⟩ := List.append_inj h (by simpa using g2)
  have hk : celKey x = celKey y := by
    rw [← List.take_append_drop (shareOf every i last (celKey x)) (celKey x), ← List.take_append_drop (shareOf every i last (celKey y)) (celKey y), share_take, share_take, e4, e1]
  unfold celKey at hk
  rw [keyOf_yes (cel_keyOk hx), keyOf_yes (cel_keyOk hy)] at hk
  obtain ⟨k1, k2, k3⟩ := key_inj (cel_keyOk hx) (cel_keyOk hy) hk
  refine ⟨?_, e6⟩
  obtain ⟨R, C, t, G, V⟩ := x
  obtain ⟨R', C', t', G', V'⟩ := y
  simp only at k1 k2 k3 g1 e5
  have ext : ∀ {a b : ByteArray}, a.data.toList = b.data.toList → a = b := fun {a b} h => by cases a; cases b; simp only at h; rw [Array.toList_inj.1 h]
  rw [ext k1, ext k2, k3, g1, ext e5]
theorem entries_told {every : Nat} : ∀ {xs ys : List Cel} {i : Nat} {last : List UInt8}, (∀ x ∈ xs, cellOk x = true) → (∀ y ∈ ys, cellOk y = true) → entries every i last xs = entries every i last ys → xs = ys
  | [], [], _, _, _, _, _ => rfl
  | [], y :: ys, i, last, _, _, h => by
    have := congrArg List.length h
    simp only [entries, entry, List.length_append, List.length_nil] at this
    have := var_ne (shareOf every i last (celKey y))
    have : 0 < (varB (shareOf every i last (celKey y))).length := List.length_pos_iff.2 this
    omega
  | x :: xs, [], i, last, _, _, h => by
    have := congrArg List.length h
    simp only [entries, entry, List.length_append, List.length_nil] at this
    have := var_ne (shareOf every i last (celKey x))
    have : 0 < (varB (shareOf every i last (celKey x))).length := List.length_pos_iff.2 this
    omega
  | x :: xs, y :: ys, i, last, hx, hy, h => by
    unfold entries at h
    obtain ⟨rfl, h2⟩ := entry_told (hx x (by simp)) (hy y (by simp)) h
    rw [entries_told (fun z hz => hx z (by simp [hz])) (fun z hz => hy z (by simp [hz])) h2]
/-- A block is of one list alone. -/
theorem block_told {xs ys : List Cel} {e : Nat} (lx : xs.length ≤ 50) (ly : ys.length ≤ 50) (hx : cellsOk xs = true) (hy : cellsOk ys = true) (h : block xs e = block ys e) : xs = ys := by
  have ax : ∀ x ∈ xs, cellOk x = true := fun x hm => by obtain ⟨j, hj⟩ := List.mem_iff_getElem?.1 hm; exact cells_ok hx hj
  have ay : ∀ y ∈ ys, cellOk y = true := fun y hm => by obtain ⟨j, hj⟩ := List.mem_iff_getElem?.1 hm; exact cells_ok hy hj
  obtain ⟨sx, tx⟩ := starts_len e xs 0 0 []
  obtain ⟨sy, ty⟩ := starts_len e ys 0 0 []
  unfold block at h
  have hl := congrArg List.length h
  simp only [List.length_append, fix_length] at hl
  have h' : (entries e 0 [] xs ++ startsB e 0 0 [] xs) ++ fixB ((startsB e 0 0 [] xs).length / 2) 2 = (entries e 0 [] ys ++ startsB e 0 0 [] ys) ++ fixB ((startsB e 0 0 [] ys).length / 2) 2 := by simpa using h
  obtain ⟨h1, h2⟩ := List.append_inj h' (by rw [List.length_append, List.length_append]; omega)
  have h3 := fix_inj h2
  rw [Nat.mod_eq_of_lt (by omega), Nat.mod_eq_of_lt (by omega)] at h3
  obtain ⟨h4, _⟩ := List.append_inj h1 (by omega)
  exact entries_told ax ay h4
theorem block_ne (xs : List Cel) (e : Nat) : block xs e ≠ [] := by
  intro h
  have := congrArg List.length h
  simp [block, fix_length] at this
theorem putBlock_told {xs ys : List Cel} {e : Int} (h : putBlock xs e = putBlock ys e) (hne : putBlock xs e ≠ []) : xs = ys := by
  unfold putBlock at h hne
  cases h1 : blockOk xs e
  · rw [if_neg (by simp [h1])] at hne
    exact absurd rfl hne
  · rw [if_pos h1] at h
    cases h2 : blockOk ys e
    · rw [if_neg (by simp [h2])] at h
      exact absurd h (block_ne _ _)
    · rw [if_pos h2] at h
      unfold blockOk at h1 h2
      simp only [Bool.and_eq_true, decide_eq_true_eq] at h1 h2
      exact block_told h1.1.1.1 h2.1.1.1 h1.1.1.2 h2.1.1.2 h
end Go.Proofs.Ytkomnnijnggbpaa
/- What is read from a block's entries: each cell, one behind the other. -/
namespace Go.Proofs.Ytkomnnijnggbpaa
open Go.RowKit
set_option linter.unusedVariables false

theorem size_half (x : Cel) : sizeOf' x / 2 = x.value.size ∧ (sizeOf' x % 2 = 1 ↔ x.gone = true) := by
  unfold sizeOf'
  cases x.gone <;> simp <;> omega
theorem key_small {x : Cel} (h : cellOk x = true) : (celKey x).length ≤ 38 := by
  have h1 := cel_keyOk h
  obtain ⟨a1, a2, _⟩ := keyOk_parts h1
  have n1 := (name_parts a1).2.2
  have n2 := (name_parts a2).2.2
  unfold celKey
  rw [keyOf_yes h1, key_len]
  omega
theorem value_small {x : Cel} (h : cellOk x = true) : x.value.size ≤ 30 := by
  unfold cellOk at h
  simp only [Bool.and_eq_true, decide_eq_true_eq] at h
  exact h.1.2
theorem share_left (every i : Nat) (last k : List UInt8) : shareOf every i last k ≤ last.length := by
  unfold shareOf
  split
  · omega
  · exact shared_le_left last k
/-- The parts of an entry, where it stands. -/
theorem entry_parts (every i : Nat) (last pre post : List UInt8) {x : Cel} (hx : cellOk x = true) {s m a1 a2 a3 : Nat} (hs : shareOf every i last (celKey x) = s) (hm : (celKey x).length - s = m)
    (h1 : pre.length + (varB s).length = a1) (h2 : a1 + (varB m).length = a2) (h3 : a2 + (varB (sizeOf' x)).length = a3) :
    getVarAt (pre ++ (entry every i last x ++ post)) pre.length = some (varB s) ∧ getVarAt (pre ++ (entry every i last x ++ post)) a1 = some (varB m) ∧ getVarAt (pre ++ (entry every i last x ++ post)) a2 = some (varB (sizeOf' x)) ∧
    ((pre ++ (entry every i last x ++ post)).drop a3).take m = (celKey x).drop s ∧ ((pre ++ (entry every i last x ++ post)).drop (a3 + m)).take x.value.size = x.value.data.toList ∧
    last.take s ++ (celKey x).drop s = celKey x ∧ s ≤ last.length ∧ a3 + m + x.value.size = pre.length + (entry every i last x).length := by
  have hk := key_small hx
  have hv := value_small hx
  have hle := share_le every i last (celKey x)
  have hll := share_left every i last (celKey x)
  have htk := share_take every i last (celKey x)
  rw [hs] at hle hll htk
  have hz : sizeOf' x ≤ 61 := by
    have := size_half x
    omega
  have hvl : x.value.data.toList.length = x.value.size := by simp
  have hdl : ((celKey x).drop s).length = m := by rw [List.length_drop]; exact hm
  have hE : entry every i last x = varB s ++ (varB m ++ (varB (sizeOf' x) ++ ((celKey x).drop s ++ x.value.data.toList))) := by
    unfold entry
    rw [hs, hm]
  refine ⟨?_, ?_, ?_, ?_, ?_, ?_, hll, ?_⟩
  · rw [hE]
    simp only [List.append_assoc]
    exact getVar_back s (by omega) pre _
  · have e : pre ++ (entry every i last x ++ post) = (pre ++ varB s) ++ (varB m ++ (varB (sizeOf' x) ++ ((celKey x).drop s ++ (x.value.data.toList ++ post)))) := by rw [hE]; simp
    rw [e, show (a1 : Int) = ((pre ++ varB s).length : Nat) by rw [List.length_append, h1]]
    exact getVar_back m (by omega) _ _
  · have e : pre ++ (entry every i last x ++ post) = (pre ++ varB s ++ varB m) ++ (varB (sizeOf' x) ++ ((celKey x).drop s ++ (x.value.data.toList ++ post))) := by rw [hE]; simp
    rw [e, show (a2 : Int) = ((pre ++ varB s ++ varB m).length : Nat) by rw [List.length_append, List.length_append, h1, h2]]
    exact getVar_back _ (by omega) _ _
  · have e : pre ++ (entry every i last x ++ post) = (pre ++ varB s ++ varB m ++ varB (sizeOf' x)) ++ ((celKey x).drop s ++ (x.value.data.toList ++ post)) := by rw [hE]; simp
    have hl : (pre ++ varB s ++ varB m ++ varB (sizeOf' x)).length = a3 := by rw [List.length_append, List.length_append, List.length_append, h1, h2, h3]
    rw [e, ← hl, List.drop_left, ← hdl, List.take_left]
  · have e : pre ++ (entry every i last x ++ post) = (pre ++ varB s ++ varB m ++ varB (sizeOf' x) ++ (celKey x).drop s) ++ (x.value.data.toList ++ post) := by rw [hE]; simp
    have hl : (pre ++ varB s ++ varB m ++ varB (sizeOf' x) ++ (celKey x).drop s).length = a3 + m := by rw [List.length_append, List.length_append, List.length_append, List.length_append, h1, h2, h3, hdl]
    rw [e, ← hl, List.drop_left, ← hvl, List.take_left]
  · rw [← htk, List.take_append_drop]
  · rw [hE]
    simp only [List.length_append, hdl, hvl]
    omega
/-- Entries, parted at one of them. -/
theorem entries_at (every : Nat) : ∀ (xs : List Cel) (i : Nat) (last : List UInt8) (k : Nat) (x : Cel), xs[k]? = some x → ∃ pre post l, entries every i last xs = pre ++ (entry every (i + k) l x ++ post) ∧ pre = entries every i last (xs.take k) ∧ (k = 0 → l = last) ∧ (∀ y, 0 < k → xs[k - 1]? = some y → l = celKey y)
  | [], i, last, k, x, h => by simp at h
  | y :: ys, i, last, 0, x, h => by
    simp at h
    subst h
    exact ⟨[], entries every (i + 1) (celKey y) ys, last, by simp [entries], by simp [entries], fun _ => rfl, fun y h => by omega⟩
  | y :: ys, i, last, k + 1, x, h => by
    obtain ⟨pre, post, l, e1, e2, e3, e4⟩ := entries_at every ys (i + 1) (celKey y) k x (by simpa using h)
    refine ⟨entry every i last y ++ pre, post, l, ?_, ?_, fun h => by omega, fun z _ hz => ?_⟩
    · unfold entries
      rw [e1, show i + 1 + k = i + (k + 1) by omega]
      simp
    · rw [List.take_succ_cons, entries, e2]
    · cases k with
      | zero =>
        have hz' : y = z := by simpa using hz
        rw [e3 rfl, hz']
      | succ k => exact e4 z (by omega) (by simpa using hz)
end Go.Proofs.Ytkomnnijnggbpaa
/- Cells in memory: five values in a block. -/
namespace Go.Proofs.Ytkomnnijnggbpaa
open Go.RowKit
set_option linter.unusedVariables false

theorem sizeCel : (Try.prog.info? 36).map (·.size) = some 5 := by kernel_rfl
theorem alloc_at (w : World) (o : Obj) : (w.alloc o).heap[w.heap.size]? = some o := by
  show (w.heap.push o)[w.heap.size]? = some o
  simp
theorem alloc_old (w : World) (o : Obj) {i : Nat} (h : i < w.heap.size) : (w.alloc o).heap[i]? = w.heap[i]? := by
  show (w.heap.push o)[i]? = w.heap[i]?
  rw [Array.getElem?_push, if_neg (Nat.ne_of_lt h)]
theorem alloc_at2 (w : World) (o o' : Obj) : ((w.alloc o).alloc o').heap[w.heap.size + 1]? = some o' := by
  have := alloc_at (w.alloc o) o'
  rwa [World.size_alloc] at this
theorem alloc_at3 (w : World) (o o' o'' : Obj) : (((w.alloc o).alloc o').alloc o'').heap[w.heap.size + 1]? = some o' := by
  rw [alloc_old _ _ (by simp)]
  exact alloc_at2 w o o'
/-- Five values laid over a block of five. -/
theorem set5 {w : World} {r T : Nat} {fz : Nat × Nat} {a b c d e : Value} (h : w.heap[r]? = some (.cells #[a, b, c, d, e] T fz)) (v0 v1 v2 v3 v4 : Value) :
    (((((w.setCell ⟨r, 0, none⟩ v0).setCell ⟨r, 1, none⟩ v1).setCell ⟨r, 2, none⟩ v2).setCell ⟨r, 3, none⟩ v3).setCell ⟨r, 4, none⟩ v4).heap[r]? = some (.cells #[v0, v1, v2, v3, v4] T fz) := by
  rw [set_block _ (set_block _ (set_block _ (set_block _ (set_block (w := w) _ h))))]
  rfl
theorem set5_below {B : Nat} {w0 w : World} (h : Below B w0 w) {r : Nat} (hr : B ≤ r) (v0 v1 v2 v3 v4 : Value) :
    Below B w0 (((((w.setCell ⟨r, 0, none⟩ v0).setCell ⟨r, 1, none⟩ v1).setCell ⟨r, 2, none⟩ v2).setCell ⟨r, 3, none⟩ v3).setCell ⟨r, 4, none⟩ v4) :=
  ((((h.setCell hr _).setCell hr _).setCell hr _).setCell hr _).setCell hr _
/-- An answer of a struct in a block and a truth in a slot. -/
theorem res_cell_bool {P : Program} {fn : Func} {p q : Tmp} {ty : TypeId} {b : Bool} (h : fn.results = #[.cell p ty, .tmp q]) (tmps : Array Value) (w : World) (g : Nat) (t : TypeId) (cs : Array Value) (fr : Nat × Nat) (d : TypeDesc)
    (hp : tmps.getD p undef = .pointer (some ⟨g, 0, none⟩)) (hq : tmps.getD q undef = .bool b) (hg : w.heap[g]? = some (.cells cs t fr))
    (hu : P.underlying ty = some d) (hd : (match d with | .struct _ | .array _ _ => true | _ => false) = true) (hi : (P.info? ty).map (·.size) = some cs.size) :
    (results fn tmps).run P w = .ok (.tuple #[.agg cs, .bool b]) w := by
  have hp' : tmps[p]?.getD undef = .pointer (some ⟨g, 0, none⟩) := by simpa using hp
  have hq' : tmps[q]?.getD undef = .bool b := by simpa using hq
  simp [results, h, hp', hq', asAddr, run_loadVar_row w g t ty cs fr d hg hu hd hi]
theorem one_below (w : World) (o : Obj) : Below w.heap.size w (w.alloc o) := (Below.refl _ w).alloc (Nat.le_refl _) o
theorem two_below0 (w : World) (o o' : Obj) : Below w.heap.size w ((w.alloc o).alloc o') := ((Below.refl _ w).alloc (Nat.le_refl _) o).alloc (by simp) o'
theorem two_below (w : World) (o o' : Obj) (n : Nat) : Below w.heap.size w (((w.alloc o).alloc o').drewN n) := (two_below0 w o o').trans (below_draws n)
/-- Two blocks of five values each. -/
def Two5 (A B : Nat) (a0 a1 a2 a3 a4 b0 b1 b2 b3 b4 : Value) (w : World) : Prop :=
  w.cell? ⟨A, 0, none⟩ = some a0 ∧ w.cell? ⟨A, 1, none⟩ = some a1 ∧ w.cell? ⟨A, 2, none⟩ = some a2 ∧ w.cell? ⟨A, 3, none⟩ = some a3 ∧ w.cell? ⟨A, 4, none⟩ = some a4 ∧
  w.cell? ⟨B, 0, none⟩ = some b0 ∧ w.cell? ⟨B, 1, none⟩ = some b1 ∧ w.cell? ⟨B, 2, none⟩ = some b2 ∧ w.cell? ⟨B, 3, none⟩ = some b3 ∧ w.cell? ⟨B, 4, none⟩ = some b4
theorem Two5.lt {A B : Nat} {a0 a1 a2 a3 a4 b0 b1 b2 b3 b4 : Value} {w : World} (h : Two5 A B a0 a1 a2 a3 a4 b0 b1 b2 b3 b4 w) : A < w.heap.size ∧ B < w.heap.size := ⟨cell_lt h.1, cell_lt h.2.2.2.2.2.1⟩
theorem Two5.below {A B : Nat} {a0 a1 a2 a3 a4 b0 b1 b2 b3 b4 : Value} {w w' : World} (h : Two5 A B a0 a1 a2 a3 a4 b0 b1 b2 b3 b4 w) (hb : Below w.heap.size w w') : Two5 A B a0 a1 a2 a3 a4 b0 b1 b2 b3 b4 w' := by
  obtain ⟨hA, hB⟩ := h.lt
  obtain ⟨h0, h1, h2, h3, h4, k0, k1, k2, k3, k4⟩ := h
  exact ⟨(hb.cell (p := ⟨A, 0, none⟩) hA).trans h0, (hb.cell (p := ⟨A, 1, none⟩) hA).trans h1, (hb.cell (p := ⟨A, 2, none⟩) hA).trans h2, (hb.cell (p := ⟨A, 3, none⟩) hA).trans h3, (hb.cell (p := ⟨A, 4, none⟩) hA).trans h4,
    (hb.cell (p := ⟨B, 0, none⟩) hB).trans k0, (hb.cell (p := ⟨B, 1, none⟩) hB).trans k1, (hb.cell (p := ⟨B, 2, none⟩) hB).trans k2, (hb.cell (p := ⟨B, 3, none⟩) hB).trans k3, (hb.cell (p := ⟨B, 4, none⟩) hB).trans k4⟩
theorem two5_new (w : World) (a0 a1 a2 a3 a4 b0 b1 b2 b3 b4 : Value) (T T' : Nat) : Two5 w.heap.size (w.heap.size + 1) a0 a1 a2 a3 a4 b0 b1 b2 b3 b4 ((w.alloc (.cells #[a0, a1, a2, a3, a4] T)).alloc (.cells #[b0, b1, b2, b3, b4] T')) := by
  have hA := (alloc_old (w.alloc (.cells #[a0, a1, a2, a3, a4] T)) (.cells #[b0, b1, b2, b3, b4] T') (i := w.heap.size) (by simp)).trans (alloc_at w _)
  have hB := alloc_at2 w (.cells #[a0, a1, a2, a3, a4] T) (.cells #[b0, b1, b2, b3, b4] T')
  refine ⟨?_, ?_, ?_, ?_, ?_, ?_, ?_, ?_, ?_, ?_⟩
  all_goals first | (simp only [World.cell?, hA]; rfl) | (simp only [World.cell?, hB]; rfl)
end Go.Proofs.Ytkomnnijnggbpaa
/- One block of five values. -/
namespace Go.Proofs.Ytkomnnijnggbpaa
open Go.RowKit
set_option linter.unusedVariables false

/-- A block of five values. -/
def One5 (A : Nat) (a0 a1 a2 a3 a4 : Value) (w : World) : Prop :=
  w.cell? ⟨A, 0, none⟩ = some a0 ∧ w.cell? ⟨A, 1, none⟩ = some a1 ∧ w.cell? ⟨A, 2, none⟩ = some a2 ∧ w.cell? ⟨A, 3, none⟩ = some a3 ∧ w.cell? ⟨A, 4, none⟩ = some a4
theorem One5.below {A : Nat} {a0 a1 a2 a3 a4 : Value} {w w' : World} (h : One5 A a0 a1 a2 a3 a4 w) (hb : Below w.heap.size w w') : One5 A a0 a1 a2 a3 a4 w' := by
  have hA := cell_lt h.1
  obtain ⟨h0, h1, h2, h3, h4⟩ := h
  exact ⟨(hb.cell (p := ⟨A, 0, none⟩) hA).trans h0, (hb.cell (p := ⟨A, 1, none⟩) hA).trans h1, (hb.cell (p := ⟨A, 2, none⟩) hA).trans h2, (hb.cell (p := ⟨A, 3, none⟩) hA).trans h3, (hb.cell (p := ⟨A, 4, none⟩) hA).trans h4⟩
theorem one5_new (w : World) (a0 a1 a2 a3 a4 : Value) (T : Nat) : One5 w.heap.size a0 a1 a2 a3 a4 (w.alloc (.cells #[a0, a1, a2, a3, a4] T)) := by
  have hA := alloc_at w (.cells #[a0, a1, a2, a3, a4] T)
  refine ⟨?_, ?_, ?_, ?_, ?_⟩
  all_goals (simp only [World.cell?, hA]; rfl)
end Go.Proofs.Ytkomnnijnggbpaa
/- A block of five values: its cells, none of them frozen. -/
namespace Go.Proofs.Ytkomnnijnggbpaa
open Go.RowKit
set_option linter.unusedVariables false

theorem blk5 {w : World} {g T : Nat} {a0 a1 a2 a3 a4 : Value} (h : w.heap[g]? = some (.cells #[a0, a1, a2, a3, a4] T (0, 0))) : One5 g a0 a1 a2 a3 a4 w ∧ w.frozen? ⟨g, 0, none⟩ = false ∧ w.frozen? ⟨g, 1, none⟩ = false ∧ w.frozen? ⟨g, 2, none⟩ = false ∧ w.frozen? ⟨g, 3, none⟩ = false ∧ w.frozen? ⟨g, 4, none⟩ = false := by
  refine ⟨⟨?_, ?_, ?_, ?_, ?_⟩, ?_, ?_, ?_, ?_, ?_⟩
  all_goals first | (simp only [World.cell?, h]; rfl) | simp [World.frozen?, h]
end Go.Proofs.Ytkomnnijnggbpaa
/- Lists of cells in memory, five values a cell. -/
namespace Go.Proofs.Ytkomnnijnggbpaa
open Go.RowKit
set_option linter.unusedVariables false

/-- A cell's five values in a block. -/
def Cel5 (w : World) (g k : Nat) (y : Cel) : Prop :=
  w.cell? ⟨g, k * 5, none⟩ = some (.string y.row) ∧ w.cell? ⟨g, k * 5 + 1, none⟩ = some (.string y.col) ∧ w.cell? ⟨g, k * 5 + 2, none⟩ = some (.int .i64 y.time) ∧ w.cell? ⟨g, k * 5 + 3, none⟩ = some (.bool y.gone) ∧ w.cell? ⟨g, k * 5 + 4, none⟩ = some (.string y.value)
theorem Cel5.below {w w' : World} {g k : Nat} {y : Cel} (h : Cel5 w g k y) (hb : Below w.heap.size w w') : Cel5 w' g k y := by
  have hA := cell_lt h.1
  obtain ⟨h0, h1, h2, h3, h4⟩ := h
  exact ⟨(hb.cell (p := ⟨g, k * 5, none⟩) hA).trans h0, (hb.cell (p := ⟨g, k * 5 + 1, none⟩) hA).trans h1, (hb.cell (p := ⟨g, k * 5 + 2, none⟩) hA).trans h2, (hb.cell (p := ⟨g, k * 5 + 3, none⟩) hA).trans h3, (hb.cell (p := ⟨g, k * 5 + 4, none⟩) hA).trans h4⟩
theorem Cel5.lt {w : World} {g k : Nat} {y : Cel} (h : Cel5 w g k y) : g < w.heap.size := cell_lt h.1
/-- A list of cells in a block. -/
def CelRow (w : World) (a : Option Addr) (n c : Nat) (xs : List Cel) : Prop := xs.length = n ∧ n ≤ c ∧ ∀ (k : Nat) (y : Cel), xs[k]? = some y → ∃ g, a = some ⟨g, 0, none⟩ ∧ Cel5 w g k y
theorem CelRow.below {w w' : World} {a : Option Addr} {n c : Nat} {xs : List Cel} (h : CelRow w a n c xs) (hb : Below w.heap.size w w') : CelRow w' a n c xs :=
  ⟨h.1, h.2.1, fun k y hk => by obtain ⟨g, e, hc⟩ := h.2.2 k y hk; exact ⟨g, e, hc.below hb⟩⟩
theorem CelRow.drewN {w : World} {a : Option Addr} {n c : Nat} {xs : List Cel} (h : CelRow w a n c xs) (m : Nat) : CelRow (w.drewN m) a n c xs := h
/-- Cells whose texts are no longer than texts may be. -/
def Fit (xs : List Cel) : Prop := ∀ y ∈ xs, y.row.size ≤ maxLen ∧ y.col.size ≤ maxLen ∧ y.value.size ≤ maxLen
theorem Fit.at {xs : List Cel} (h : Fit xs) {k : Nat} {y : Cel} (hk : xs[k]? = some y) : y.row.size ≤ maxLen ∧ y.col.size ≤ maxLen ∧ y.value.size ≤ maxLen := h y (List.mem_of_getElem? hk)

/-- A cell's values. -/
def celCells (y : Cel) : List Value := [.string y.row, .string y.col, .int .i64 y.time, .bool y.gone, .string y.value]
def zeroC : Cel := ⟨⟨#[]⟩, ⟨#[]⟩, 0, false, ⟨#[]⟩⟩
theorem infoCel : (Try.prog.info? 36).map (fun i => (i.zero, i.size, i.bytes)) = some (some (.agg #[.string ⟨#[]⟩, .string ⟨#[]⟩, .int .i64 0, .bool false, .string ⟨#[]⟩]), 5, 64) := by kernel_rfl
theorem celCells_len (xs : List Cel) : (xs.flatMap celCells).length = xs.length * 5 := by
  induction xs with
  | nil => rfl
  | cons t xs ih => rw [List.flatMap_cons, List.length_append, ih, List.length_cons]; simp [celCells]; omega
theorem cel_cell (xs : List Cel) : ∀ (k j : Nat) (y : Cel), xs[k]? = some y → j < 5 → (xs.flatMap celCells)[k * 5 + j]? = (celCells y)[j]? := by
  induction xs with
  | nil => intro k j y h; simp at h
  | cons a l ih =>
    intro k j y h hj
    rw [List.flatMap_cons]
    cases k with
    | zero =>
      simp at h
      subst h
      rw [Nat.zero_mul, Nat.zero_add, List.getElem?_append_left (by simp [celCells]; omega)]
    | succ k =>
      have ha : (celCells a).length = 5 := rfl
      rw [List.getElem?_append_right (by rw [ha]; omega), ha, show (k + 1) * 5 + j - 5 = k * 5 + j by omega]
      exact ih k j y (by simpa using h) hj
/-- Five values laid over those of a cell. -/
theorem cel_set (y : Cel) : ∀ (xs : List Cel) (i : Nat), i < xs.length → (((((xs.flatMap celCells).set (i * 5) (.string y.row)).set (i * 5 + 1) (.string y.col)).set (i * 5 + 2) (.int .i64 y.time)).set (i * 5 + 3) (.bool y.gone)).set (i * 5 + 4) (.string y.value) = (xs.set i y).flatMap celCells
  | [], i, h => by simp at h
  | a :: l, 0, _ => by simp [celCells]
  | a :: l, i + 1, h => by
    have ih := cel_set y l i (by simpa using h)
    have e : ∀ j, (i + 1) * 5 + j = (celCells a).length + (i * 5 + j) := fun j => by simp [celCells]; omega
    have e0 : (i + 1) * 5 = (celCells a).length + (i * 5) := by simp [celCells]; omega
    rw [List.flatMap_cons, List.set_cons_succ, List.flatMap_cons, e 1, e 2, e 3, e 4, e0]
    simp only [List.set_append_right _ _ (Nat.le_add_right _ _), Nat.add_sub_cancel_left]
    rw [ih]
/-- Cells in a block of their own, from its head. -/
def CelBlock (w : World) (g : Nat) (xs : List Cel) : Prop := w.heap[g]? = some (.cells (xs.flatMap celCells).toArray 36 (0, 0))
theorem CelBlock.cell {w : World} {g : Nat} {xs : List Cel} (h : CelBlock w g xs) {k : Nat} {y : Cel} (hk : xs[k]? = some y) : Cel5 w g k y := by
  have hc : ∀ j, j < 5 → w.cell? ⟨g, k * 5 + j, none⟩ = (celCells y)[j]? := fun j hj => by
    have h1 := cel_cell xs k j y hk hj
    unfold CelBlock at h
    simp only [World.cell?, h]
    simpa using h1
  exact ⟨hc 0 (by omega), hc 1 (by omega), hc 2 (by omega), hc 3 (by omega), hc 4 (by omega)⟩
theorem CelBlock.frozen {w : World} {g : Nat} {xs : List Cel} (h : CelBlock w g xs) (j : Nat) : w.frozen? ⟨g, j, none⟩ = false := by
  unfold CelBlock at h
  simp [World.frozen?, h]
theorem CelBlock.row {w : World} {g : Nat} {xs : List Cel} (h : CelBlock w g xs) {n : Nat} (hn : xs.length = n) : CelRow w (some ⟨g, 0, none⟩) n n xs := ⟨hn, Nat.le_refl _, fun k y hk => ⟨g, rfl, h.cell hk⟩⟩
theorem CelBlock.below {w w' : World} {g : Nat} {xs : List Cel} (h : CelBlock w g xs) (hb : Below w.heap.size w w') : CelBlock w' g xs := (hb.block g (Array.getElem?_eq_some_iff.1 h).1).trans h
theorem CelBlock.set {w : World} {g : Nat} {xs : List Cel} (h : CelBlock w g xs) (y : Cel) {i : Nat} (hi : i < xs.length) :
    CelBlock (((((w.setCell ⟨g, i * 5, none⟩ (.string y.row)).setCell ⟨g, i * 5 + 1, none⟩ (.string y.col)).setCell ⟨g, i * 5 + 2, none⟩ (.int .i64 y.time)).setCell ⟨g, i * 5 + 3, none⟩ (.bool y.gone)).setCell ⟨g, i * 5 + 4, none⟩ (.string y.value)) g (xs.set i y) := by
  unfold CelBlock at h ⊢
  rw [set_block _ (set_block _ (set_block _ (set_block _ (set_block (w := w) _ h)))), ← cel_set y xs i hi]
  simp
theorem set5i_below {B : Nat} {w0 w : World} (h : Below B w0 w) {r : Nat} (hr : B ≤ r) (k : Nat) (v0 v1 v2 v3 v4 : Value) :
    Below B w0 (((((w.setCell ⟨r, k, none⟩ v0).setCell ⟨r, k + 1, none⟩ v1).setCell ⟨r, k + 2, none⟩ v2).setCell ⟨r, k + 3, none⟩ v3).setCell ⟨r, k + 4, none⟩ v4) :=
  ((((h.setCell hr _).setCell hr _).setCell hr _).setCell hr _).setCell hr _
theorem cels_made (n : Nat) (w : World) (hn : n ≤ 1048576) : ∃ W, (Instr.makeSlice 24 (.int .i64 n) (.int .i64 n)).run Try.prog w = .ok (.slice (some ⟨w.heap.size, 0, none⟩) n n) W ∧ CelBlock W w.heap.size (List.replicate n zeroC) ∧ Below w.heap.size w W := by
  obtain ⟨ti, hti, hz0, hz1, hz2⟩ := info_parts infoCel
  have h := run_makeSlice (P := Try.prog) w 24 36 ti (.agg #[.string ⟨#[]⟩, .string ⟨#[]⟩, .int .i64 0, .bool false, .string ⟨#[]⟩]) Try.underlying24 hti hz0 .i64 .i64 n n (by omega) (by omega) (by rw [hz1]; simp; omega) (by rw [hz2]; omega) (by omega)
  rw [hz1, Int.toNat_natCast] at h
  have e : (Value.agg #[.string ⟨#[]⟩, .string ⟨#[]⟩, .int .i64 0, .bool false, .string ⟨#[]⟩]).cells = (celCells zeroC).toArray := rfl
  have e2 : madeCells (celCells zeroC).toArray (n * 5) = ((List.replicate n zeroC).flatMap celCells).toArray := by
    apply Array.ext_getElem?
    intro j
    by_cases hj : j < n * 5
    · have h1 := cel_cell (List.replicate n zeroC) (j / 5) (j % 5) zeroC (by rw [List.getElem?_replicate, if_pos (by omega)]) (by omega)
      rw [show j / 5 * 5 + j % 5 = j by omega] at h1
      have h5 : j % 5 < 5 := by omega
      simp only [List.getElem?_toArray, h1]
      simp [madeCells, hj, celCells, h5]
    · rw [Array.getElem?_eq_none (by simp [madeCells]; omega), Array.getElem?_eq_none (by simp only [List.size_toArray, celCells_len, List.length_replicate]; omega)]
  rw [e, e2] at h
  exact ⟨_, h, alloc_at w _, one_below w _⟩
end Go.Proofs.Ytkomnnijnggbpaa
