/- Plain mathematics of sums of 32 bits: one step turns linearly, nothing but nought goes to nought; some bits in a row that were turned are told. -/
namespace Go.Proofs.Ytkhpgomgaimhkaa
set_option linter.unusedVariables false

/-- What a sum is turned by where a one went. -/
def poly : Nat := 2197175160
/-- One bit moved out of a sum. -/
def stp (x : Nat) : Nat := (x / 2) ^^^ (if x % 2 = 1 then poly else 0)
def stN : Nat → Nat → Nat
  | 0, x => x
  | n + 1, x => stN n (stp x)

theorem st_xor (x y : Nat) : stp (x ^^^ y) = stp x ^^^ stp y := by
  unfold stp
  have h1 : (x ^^^ y) / 2 = x / 2 ^^^ y / 2 := by
    have := Nat.xor_div_two_pow (a := x) (b := y) (n := 1); simpa using this
  have h2 : (x ^^^ y) % 2 = (x % 2) ^^^ (y % 2) := by
    have := Nat.xor_mod_two_pow (a := x) (b := y) (n := 1); simpa using this
  rw [h1, h2]
  have ax : x % 2 = 0 ∨ x % 2 = 1 := by omega
  have ay : y % 2 = 0 ∨ y % 2 = 1 := by omega
  rcases ax with ax | ax <;> rcases ay with ay | ay <;> simp [ax, ay]
  · exact Nat.xor_assoc _ _ _
  · rw [Nat.xor_assoc, Nat.xor_comm (y / 2), ← Nat.xor_assoc]
  · rw [Nat.xor_comm (y / 2) poly, ← Nat.xor_assoc, Nat.xor_assoc (x / 2), Nat.xor_self, Nat.xor_zero]

theorem stN_xor (n : Nat) : ∀ x y, stN n (x ^^^ y) = stN n x ^^^ stN n y := by
  induction n with
  | zero => intro x y; rfl
  | succ n ih => intro x y; simp only [stN]; rw [st_xor, ih]

theorem st_two (z : Nat) : stp (2 * z) = z := by
  unfold stp
  have h1 : 2 * z / 2 = z := by omega
  have h2 : 2 * z % 2 = 0 := by omega
  rw [h1, h2]; simp

theorem stN_pow (n : Nat) : ∀ z, stN n (2 ^ n * z) = z := by
  induction n with
  | zero => intro z; simp [stN]
  | succ n ih =>
    intro z
    simp only [stN]
    have : 2 ^ (n + 1) * z = 2 * (2 ^ n * z) := by rw [Nat.pow_succ]; rw [Nat.mul_comm (2 ^ n) 2, Nat.mul_assoc]
    rw [this, st_two, ih]

theorem stN_add (m n : Nat) : ∀ x, stN (m + n) x = stN n (stN m x) := by
  induction m with
  | zero => intro x; simp [stN]
  | succ m ih => intro x; rw [Nat.succ_add]; simp only [stN]; exact ih _

theorem st_lt {x : Nat} (h : x < 4294967296) : stp x < 4294967296 := by
  unfold stp
  have : (x / 2) ^^^ (if x % 2 = 1 then poly else 0) < 2 ^ 32 := by
    apply Nat.xor_lt_two_pow
    · omega
    · split <;> simp [poly]
  exact this

theorem stN_lt (n : Nat) : ∀ {x : Nat}, x < 4294967296 → stN n x < 4294967296 := by
  induction n with
  | zero => intro x h; exact h
  | succ n ih => intro x h; exact ih (st_lt h)

theorem xor_eq_zero {a b : Nat} (h : a ^^^ b = 0) : a = b := by
  have : a ^^^ b ^^^ b = 0 ^^^ b := by rw [h]
  rw [Nat.xor_assoc, Nat.xor_self, Nat.xor_zero, Nat.zero_xor] at this
  exact this

theorem st_ne {x : Nat} (h : x < 4294967296) (h0 : x ≠ 0) : stp x ≠ 0 := by
  unfold stp
  intro e
  have := xor_eq_zero e
  split at this
  · unfold poly at this; omega
  · omega

theorem stN_ne (n : Nat) : ∀ {x : Nat}, x < 4294967296 → x ≠ 0 → stN n x ≠ 0 := by
  induction n with
  | zero => intro x h h0; exact h0
  | succ n ih => intro x h h0; exact ih (st_lt h) (st_ne h h0)

theorem split_bits (n x : Nat) : x = (x % 2 ^ n) ^^^ (2 ^ n * (x / 2 ^ n)) := by
  apply Nat.eq_of_testBit_eq
  intro i
  rw [Nat.testBit_xor, Nat.testBit_mod_two_pow, Nat.testBit_two_pow_mul, Nat.testBit_div_two_pow]
  by_cases h : i < n
  · have : ¬ i ≥ n := by omega
    simp [h, this]
  · have h' : n ≤ i := by omega
    have e : i - n + n = i := by omega
    simp [h, h', e]

/-- Many bits moved out at once: the highest ones stay, turned by what the lowest ones come to. -/
theorem stN_split (n x : Nat) : stN n x = stN n (x % 2 ^ n) ^^^ x / 2 ^ n := by
  have h := split_bits n x
  have e := congrArg (stN n) h
  rw [stN_xor, stN_pow] at e
  exact e

/-- A byte taken into a sum. -/
def crcB (x : Nat) (c : UInt8) : Nat := stN 8 (x ^^^ c.toNat)
/-- The table's way: the sum's lowest eight bits and the byte are looked up, the others moved down. -/
theorem crcB_table (x : Nat) (c : UInt8) : crcB x c = x / 256 ^^^ stN 8 ((x % 256) ^^^ c.toNat) := by
  unfold crcB
  rw [stN_split 8]
  have hc := c.toNat_lt
  have e1 : (x ^^^ c.toNat) % 2 ^ 8 = (x % 256) ^^^ c.toNat := by
    rw [Nat.xor_mod_two_pow]
    congr 1
    exact Nat.mod_eq_of_lt (by simpa using hc)
  have e2 : (x ^^^ c.toNat) / 2 ^ 8 = x / 256 := by
    rw [Nat.xor_div_two_pow]
    have : c.toNat / 2 ^ 8 = 0 := Nat.div_eq_of_lt (by simpa using hc)
    rw [this, Nat.xor_zero]
  rw [e1, e2, Nat.xor_comm]

theorem crcB_lt {x : Nat} {c : UInt8} (h : x < 4294967296) : crcB x c < 4294967296 := by
  unfold crcB
  apply stN_lt
  have hc := c.toNat_lt
  have : x ^^^ c.toNat < 2 ^ 32 := Nat.xor_lt_two_pow h (by omega)
  exact this

/-- The sum of bytes, ahead of its last turn. -/
def crcF (x : Nat) (l : List UInt8) : Nat := l.foldl crcB x
theorem crcF_lt (l : List UInt8) : ∀ {x : Nat}, x < 4294967296 → crcF x l < 4294967296 := by
  induction l with
  | nil => intro x h; exact h
  | cons c l ih => intro x h; exact ih (crcB_lt h)
theorem crcF_snoc (x : Nat) (l : List UInt8) (c : UInt8) : crcF x (l ++ [c]) = crcB (crcF x l) c := by simp [crcF]

/-- The sum of bytes. -/
def crc (l : List UInt8) : Nat := 4294967295 - crcF 4294967295 l
theorem crc_lt (l : List UInt8) : crc l < 4294967296 := by unfold crc; omega
theorem crc_inj {l m : List UInt8} (h : crc l = crc m) : crcF 4294967295 l = crcF 4294967295 m := by
  have h1 := crcF_lt l (x := 4294967295) (by omega)
  have h2 := crcF_lt m (x := 4294967295) (by omega)
  unfold crc at h
  omega

/-- Bytes of which those of a number were turned. -/
def Bent (E : Nat) : List UInt8 → List UInt8 → Prop
  | [], [] => True
  | a :: l, b :: m => b.toNat = a.toNat ^^^ (E % 256) ∧ Bent (E / 256) l m
  | _, _ => False

theorem bent_sum (l : List UInt8) : ∀ (m : List UInt8) (E d x : Nat), Bent E l m →
    ∃ d', crcF (x ^^^ d) m = crcF x l ^^^ d' ∧ d' ^^^ E / 2 ^ (8 * l.length) = stN (8 * l.length) (d ^^^ E) := by
  induction l with
  | nil =>
    intro m E d x h
    cases m with
    | nil => exact ⟨d, rfl, by simp [stN]⟩
    | cons => cases h
  | cons a l ih =>
    intro m E d x h
    cases m with
    | nil => cases h
    | cons b m =>
      obtain ⟨h1, h2⟩ := h
      have e : crcB (x ^^^ d) b = crcB x a ^^^ stN 8 (d ^^^ E % 256) := by
        unfold crcB
        rw [h1, ← stN_xor]
        congr 1
        ac_rfl
      obtain ⟨d', h3, h4⟩ := ih m (E / 256) (stN 8 (d ^^^ E % 256)) (crcB x a) h2
      refine ⟨d', ?_, ?_⟩
      · simp only [crcF, List.foldl_cons] at h3 ⊢
        rw [e]; exact h3
      · have p1 : E / 2 ^ (8 * (a :: l).length) = E / 256 / 2 ^ (8 * l.length) := by
          rw [Nat.div_div_eq_div_mul]
          congr 1
          rw [List.length_cons, Nat.mul_add, Nat.pow_add, Nat.mul_comm]
        rw [p1, h4]
        have p2 : 8 * (a :: l).length = 8 + 8 * l.length := by rw [List.length_cons]; omega
        rw [p2, stN_add]
        congr 1
        have := stN_split 8 E
        rw [stN_xor, stN_xor, this, Nat.xor_assoc]

/-- Bits in a row that were turned, 32 at most, are told by the sum. -/
theorem bent_told (l m : List UInt8) (f k : Nat) (h : Bent (2 ^ f * k) l m) (hf : f ≤ 8 * l.length) (h0 : k % 2 ^ (8 * l.length - f) ≠ 0) (hk : k < 4294967296) : crc m ≠ crc l := by
  intro e
  have e1 := crc_inj e
  obtain ⟨d', h1, h2⟩ := bent_sum l m _ 0 4294967295 h
  rw [Nat.xor_zero] at h1
  rw [Nat.zero_xor] at h2
  have hd : d' = 0 := by
    rw [h1] at e1
    have : crcF 4294967295 l ^^^ (crcF 4294967295 l ^^^ d') = crcF 4294967295 l ^^^ crcF 4294967295 l := by rw [e1]
    rw [← Nat.xor_assoc, Nat.xor_self, Nat.zero_xor] at this
    exact this
  rw [hd, Nat.zero_xor, stN_split] at h2
  have h3 : stN (8 * l.length) ((2 ^ f * k) % 2 ^ (8 * l.length)) = 0 := by
    have : ∀ a b : Nat, b = a ^^^ b → a = 0 := by
      intro a b h
      have h' : b ^^^ b = a ^^^ b ^^^ b := by rw [← h]
      rw [Nat.xor_assoc, Nat.xor_self, Nat.xor_zero] at h'
      exact h'.symm
    exact this _ _ h2
  have p : 2 ^ (8 * l.length) = 2 ^ f * 2 ^ (8 * l.length - f) := by rw [← Nat.pow_add]; congr 1; omega
  rw [p, Nat.mul_mod_mul_left] at h3
  have q : 8 * l.length = f + (8 * l.length - f) := by omega
  rw [q, stN_add, stN_pow] at h3
  have e2 : f + (8 * l.length - f) - f = 8 * l.length - f := by omega
  rw [e2] at h3
  exact stN_ne _ (Nat.lt_of_le_of_lt (Nat.mod_le _ _) hk) h0 h3
end Go.Proofs.Ytkhpgomgaimhkaa
