/- Plain mathematics of numbers in bytes. -/
namespace Go.Proofs.Ytejoiaijlaaekaa
set_option linter.unusedVariables false

/-- The lowest k bytes of a number, the lowest ones first. -/
def fixB (n k : Nat) : List UInt8 := (List.range k).map fun i => UInt8.ofNat (n / 2 ^ (8 * i))
theorem fix_length (n k : Nat) : (fixB n k).length = k := by simp [fixB]
theorem fix_succ (n k : Nat) : fixB n (k + 1) = fixB n k ++ [UInt8.ofNat (n / 2 ^ (8 * k))] := by simp [fixB, List.range_succ]
/-- The number of bytes, the lowest ones first. -/
def fixVal : List UInt8 → Nat
  | [] => 0
  | c :: l => c.toNat + 256 * fixVal l
theorem fixVal_snoc (l : List UInt8) (c : UInt8) : fixVal (l ++ [c]) = fixVal l + 2 ^ (8 * l.length) * c.toNat := by
  induction l with
  | nil => simp [fixVal]
  | cons a l ih =>
    simp only [List.cons_append, fixVal, ih, List.length_cons]
    have : 2 ^ (8 * (l.length + 1)) = 256 * 2 ^ (8 * l.length) := by rw [Nat.mul_add, Nat.pow_add]; omega
    rw [this, Nat.mul_add, Nat.mul_assoc]; omega
theorem fixVal_lt (l : List UInt8) : fixVal l < 2 ^ (8 * l.length) := by
  induction l with
  | nil => simp [fixVal]
  | cons a l ih =>
    simp only [fixVal, List.length_cons]
    have : 2 ^ (8 * (l.length + 1)) = 256 * 2 ^ (8 * l.length) := by rw [Nat.mul_add, Nat.pow_add]; omega
    have ha := a.toNat_lt
    omega
theorem fixVal_fix (n k : Nat) : fixVal (fixB n k) = n % 2 ^ (8 * k) := by
  induction k with
  | zero => simp [fixB, fixVal, Nat.mod_one]
  | succ k ih =>
    rw [fix_succ, fixVal_snoc, ih, fix_length]
    have e : 2 ^ (8 * (k + 1)) = 2 ^ (8 * k) * 256 := by rw [Nat.mul_add, Nat.pow_add]
    rw [e, Nat.mod_mul]
    simp
theorem fix_cons (n k : Nat) : fixB n (k + 1) = UInt8.ofNat n :: fixB (n / 256) k := by
  unfold fixB
  rw [List.range_succ_eq_map]
  simp only [List.map_cons, List.map_map, Nat.mul_zero, Nat.pow_zero, Nat.div_one]
  congr 1
  apply List.map_congr_left
  intro i hi
  simp only [Function.comp]
  congr 1
  rw [Nat.div_div_eq_div_mul]
  congr 1
  rw [Nat.succ_eq_add_one, Nat.mul_add, Nat.pow_add]; omega
theorem fix_fixVal (l : List UInt8) : fixB (fixVal l) l.length = l := by
  induction l with
  | nil => rfl
  | cons a l ih =>
    have ha := a.toNat_lt
    rw [List.length_cons, fix_cons, fixVal]
    have e1 : (a.toNat + 256 * fixVal l) / 256 = fixVal l := by omega
    rw [e1, ih]
    congr 1
    apply UInt8.toNat_inj.1
    rw [UInt8.toNat_ofNat']
    omega
theorem fix_add (n a b : Nat) : fixB n (a + b) = fixB n a ++ fixB (n / 2 ^ (8 * a)) b := by
  induction b with
  | zero => simp [fixB]
  | succ b ih =>
    rw [← Nat.add_assoc, fix_succ, ih, fix_succ, List.append_assoc]
    congr 3
    rw [Nat.div_div_eq_div_mul, Nat.mul_add, Nat.pow_add]
theorem fix_inj {n m k : Nat} (h : fixB n k = fixB m k) : n % 2 ^ (8 * k) = m % 2 ^ (8 * k) := by rw [← fixVal_fix, ← fixVal_fix, h]

/-- PutFix. -/
def putFix (n b : Int) : List UInt8 := if 0 ≤ n ∧ 1 ≤ b ∧ b ≤ 4 then fixB n.toNat b.toNat else []
/-- GetFix. -/
def getFix (l : List UInt8) (at_ b : Int) : Int := if 1 ≤ b ∧ b ≤ 4 ∧ 0 ≤ at_ ∧ at_ + b ≤ l.length then fixVal ((l.drop at_.toNat).take b.toNat) else -1

/-- The groups of seven bits of a number, the lowest ones first. -/
def varB (n : Nat) : List UInt8 := if h : n < 128 then [UInt8.ofNat n] else UInt8.ofNat (n % 128 + 128) :: varB (n / 128)
termination_by n
decreasing_by omega
theorem var_small {n : Nat} (h : n < 128) : varB n = [UInt8.ofNat n] := by rw [varB, dif_pos h]
theorem var_step {n : Nat} (h : 128 ≤ n) : varB n = UInt8.ofNat (n % 128 + 128) :: varB (n / 128) := by rw [varB, dif_neg (by omega)]
theorem var_ne (n : Nat) : varB n ≠ [] := by
  by_cases h : n < 128
  · rw [var_small h]; simp
  · rw [var_step (by omega)]; simp
/-- The number of groups. -/
def varVal : List UInt8 → Nat
  | [] => 0
  | c :: l => c.toNat % 128 + 128 * varVal l
theorem varVal_var (n : Nat) : varVal (varB n) = n := by
  induction n using Nat.strongRecOn with
  | _ n ih =>
    by_cases h : n < 128
    · rw [var_small h]; simp [varVal]; omega
    · rw [var_step (by omega), varVal, ih (n / 128) (by omega)]
      simp only [UInt8.toNat_ofNat']
      omega
theorem var_inj {n m : Nat} (h : varB n = varB m) : n = m := by rw [← varVal_var n, ← varVal_var m, h]
theorem var_len_mono (n : Nat) : ∀ m, n ≤ m → (varB n).length ≤ (varB m).length := by
  induction n using Nat.strongRecOn with
  | _ n ih =>
    intro m hm
    by_cases h : n < 128
    · rw [var_small h]
      have := List.length_pos_iff.2 (var_ne m)
      simp only [List.length_cons, List.length_nil]; omega
    · rw [var_step (n := n) (by omega), var_step (n := m) (by omega)]
      simp only [List.length_cons]
      have := ih (n / 128) (by omega) (m / 128) (by omega)
      omega
theorem var_len_le (k : Nat) : ∀ n, n < 2 ^ (7 * (k + 1)) → (varB n).length ≤ k + 1 := by
  induction k with
  | zero => intro n h; rw [var_small (by simpa using h)]; simp
  | succ k ih =>
    intro n h
    by_cases h1 : n < 128
    · rw [var_small h1]; simp
    · rw [var_step (by omega)]
      have e : 2 ^ (7 * (k + 1 + 1)) = 128 * 2 ^ (7 * (k + 1)) := by rw [Nat.mul_add 7 (k + 1) 1, Nat.pow_add]; omega
      have := ih (n / 128) (by omega)
      simp only [List.length_cons]
      omega
theorem var_shift {n : Nat} (h : 0 < n) : (varB (128 * n)).length = (varB n).length + 1 := by
  rw [var_step (by omega)]
  have e : 128 * n / 128 = n := by omega
  rw [e]; simp

/-- The groups at the beginning of bytes: as far as the first one without more behind it, so many at most. -/
def varTake : Nat → List UInt8 → Option (List UInt8)
  | 0, _ => none
  | _, [] => none
  | k + 1, c :: l => if c.toNat < 128 then some [c] else (varTake k l).map (c :: ·)
theorem varTake_var (k : Nat) : ∀ (n : Nat) (r : List UInt8), (varB n).length ≤ k → varTake k (varB n ++ r) = some (varB n) := by
  induction k with
  | zero => intro n r h; have := List.length_pos_iff.2 (var_ne n); omega
  | succ k ih =>
    intro n r h
    by_cases h1 : n < 128
    · rw [var_small h1]
      have : (UInt8.ofNat n).toNat < 128 := by rw [UInt8.toNat_ofNat']; omega
      rw [List.singleton_append, varTake, if_pos this]
    · rw [var_step (by omega)] at h ⊢
      have : ¬ (UInt8.ofNat (n % 128 + 128)).toNat < 128 := by rw [UInt8.toNat_ofNat']; omega
      rw [List.cons_append, varTake, if_neg this, ih (n / 128) r (by simpa using h)]
      rfl
/-- Each group but the last one says that there is more. -/
def Groups : List UInt8 → Prop
  | [] => False
  | [c] => c.toNat < 128
  | c :: d :: l => 128 ≤ c.toNat ∧ Groups (d :: l)
theorem groups_var (n : Nat) : Groups (varB n) := by
  induction n using Nat.strongRecOn with
  | _ n ih =>
    by_cases h : n < 128
    · rw [var_small h]; simp only [Groups, UInt8.toNat_ofNat']; omega
    · have := ih (n / 128) (by omega)
      rw [var_step (by omega)]
      cases hv : varB (n / 128) with
      | nil => exact absurd hv (var_ne _)
      | cons d l =>
        rw [hv] at this
        refine ⟨?_, this⟩
        rw [UInt8.toNat_ofNat']; omega
/-- Groups are those of their number, but where the last one is nought behind others. -/
theorem var_varVal : ∀ (l : List UInt8), Groups l → (l.length = 1 ∨ l.getLast? ≠ some 0) → varB (varVal l) = l ∧ (l.length = 1 ∨ 1 ≤ varVal l)
  | [], h, _ => h.elim
  | [c], h, _ => by
    simp only [Groups] at h
    have e : varVal [c] = c.toNat := by simp only [varVal]; omega
    rw [e, var_small h]
    exact ⟨by simp, Or.inl rfl⟩
  | c :: d :: l, h, h0 => by
    obtain ⟨h1, h2⟩ := h
    have hc := c.toNat_lt
    have h0' : (d :: l).getLast? ≠ some 0 := by
      rcases h0 with h0 | h0
      · simp at h0
      · simpa [List.getLast?_cons_cons] using h0
    have ih := var_varVal (d :: l) h2 (Or.inr h0')
    have hpos : 1 ≤ varVal (d :: l) := by
      rcases ih.2 with h3 | h3
      · have hl : l = [] := by simpa using h3
        subst hl
        simp only [Groups] at h2
        have : d.toNat ≠ 0 := by
          intro e
          apply h0'
          have : d = 0 := UInt8.toNat_inj.1 (by simpa using e)
          simp [this]
        simp only [varVal]; omega
      · exact h3
    have e : varVal (c :: d :: l) = c.toNat % 128 + 128 * varVal (d :: l) := rfl
    refine ⟨?_, Or.inr (by rw [e]; omega)⟩
    rw [e, var_step (by omega)]
    have e1 : (c.toNat % 128 + 128 * varVal (d :: l)) / 128 = varVal (d :: l) := by omega
    have e2 : (c.toNat % 128 + 128 * varVal (d :: l)) % 128 + 128 = c.toNat := by omega
    rw [e1, ih.1, e2]
    simp
theorem groups_zero : ∀ (l : List UInt8), Groups l → 2 ≤ l.length → l.getLast? = some 0 → varB (varVal l) ≠ l := by
  intro l hg h2 h0 e
  have : ∀ n, 2 ≤ (varB n).length → (varB n).getLast? ≠ some 0 := by
    intro n
    induction n using Nat.strongRecOn with
    | _ n ih =>
      intro hl
      by_cases h : n < 128
      · rw [var_small h] at hl; simp at hl
      · rw [var_step (by omega)] at hl ⊢
        by_cases h3 : n / 128 < 128
        · rw [var_small h3]
          simp only [List.getLast?_cons_cons, List.getLast?_singleton, ne_eq, Option.some.injEq]
          intro e
          have := congrArg UInt8.toNat e
          rw [UInt8.toNat_ofNat'] at this
          simp at this
          omega
        · have h4 : 2 ≤ (varB (n / 128)).length := by
            rw [var_step (n := n / 128) (by omega)]
            have := List.length_pos_iff.2 (var_ne (n / 128 / 128))
            simp only [List.length_cons]; omega
          have := ih (n / 128) (by omega) h4
          cases hv : varB (n / 128) with
          | nil => exact absurd hv (var_ne _)
          | cons d l => rw [hv] at this; rw [List.getLast?_cons_cons]; exact this
  exact this (varVal l) (by rw [e]; exact h2) (by rw [e]; exact h0)
/-- PutVar. -/
def putVar (n : Int) : List UInt8 := if 0 ≤ n ∧ n ≤ 4611686018427387903 then varB n.toNat else []
/-- The groups in bytes from a place on that are those of a number. -/
def getVarAt (l : List UInt8) (at_ : Int) : Option (List UInt8) :=
  if 0 ≤ at_ ∧ at_ ≤ l.length then (varTake 9 (l.drop at_.toNat)).filter (fun g => putVar (varVal g) == g) else none
/-- GetVar: the number, the place behind. -/
def getVar1 (l : List UInt8) (at_ : Int) : Int := match getVarAt l at_ with | some g => varVal g | none => 0
def getVar2 (l : List UInt8) (at_ : Int) : Int := match getVarAt l at_ with | some g => at_ + g.length | none => -1

theorem varVal_snoc (l : List UInt8) (c : UInt8) : varVal (l ++ [c]) = varVal l + 2 ^ (7 * l.length) * (c.toNat % 128) := by
  induction l with
  | nil => simp [varVal]
  | cons a l ih =>
    simp only [List.cons_append, varVal, ih, List.length_cons]
    have : 2 ^ (7 * (l.length + 1)) = 128 * 2 ^ (7 * l.length) := by rw [Nat.mul_add, Nat.pow_add]; omega
    rw [this, Nat.mul_add, Nat.mul_assoc]; omega
theorem varVal_lt (l : List UInt8) : varVal l < 2 ^ (7 * l.length) := by
  induction l with
  | nil => simp [varVal]
  | cons a l ih =>
    simp only [varVal, List.length_cons]
    have : 2 ^ (7 * (l.length + 1)) = 128 * 2 ^ (7 * l.length) := by rw [Nat.mul_add, Nat.pow_add]; omega
    omega
/-- So many bytes, each of which says that there is more. -/
def More (L : List UInt8) (i : Nat) : Prop := i ≤ L.length ∧ ∀ c ∈ L.take i, 128 ≤ c.toNat
theorem More.succ {L : List UInt8} {i : Nat} {c : UInt8} (h : More L i) (hc : L[i]? = some c) (h1 : 128 ≤ c.toNat) : More L (i + 1) := by
  obtain ⟨hi, e⟩ := List.getElem?_eq_some_iff.1 hc
  refine ⟨by omega, fun d hd => ?_⟩
  rw [List.take_succ_eq_append_getElem hi, List.mem_append] at hd
  rcases hd with hd | hd
  · exact h.2 d hd
  · simp at hd; rw [hd, e]; exact h1
theorem varTake_run (i : Nat) : ∀ (k : Nat) (L : List UInt8), More L i → i ≤ k → varTake k L = (varTake (k - i) (L.drop i)).map (L.take i ++ ·) := by
  induction i with
  | zero => intro k L _ _; simp
  | succ i ih =>
    intro k L h hk
    cases L with
    | nil => have := h.1; simp at this
    | cons c L =>
      cases k with
      | zero => omega
      | succ k =>
        have hc := h.2 c (by simp)
        have hm : More L i := ⟨by have := h.1; simp at this; omega, fun d hd => h.2 d (by simp [hd])⟩
        rw [varTake, if_neg (by omega), ih k L hm (by omega)]
        have e : k + 1 - (i + 1) = k - i := by omega
        rw [e, List.drop_succ_cons, List.take_succ_cons]
        cases varTake (k - i) (L.drop i) <;> simp
theorem varTake_found {L : List UInt8} {i k : Nat} {c : UInt8} (h : More L i) (hk : i < k) (hc : L[i]? = some c) (h1 : c.toNat < 128) : varTake k L = some (L.take (i + 1)) := by
  obtain ⟨hi, e⟩ := List.getElem?_eq_some_iff.1 hc
  rw [varTake_run i k L h (by omega), List.drop_eq_getElem_cons hi, List.take_succ_eq_append_getElem hi, e]
  obtain ⟨m, hm⟩ : ∃ m, k - i = m + 1 := ⟨k - i - 1, by omega⟩
  rw [hm, varTake, if_pos h1]
  rfl
theorem varTake_ended {L : List UInt8} {i k : Nat} (h : More L i) (hk : i ≤ k) (he : L.length ≤ i ∨ i = k) : varTake k L = none := by
  rw [varTake_run i k L h hk]
  rcases he with he | he
  · rw [List.drop_of_length_le he]
    cases k - i <;> rfl
  · rw [he, Nat.sub_self]; rfl
theorem groups_run (l : List UInt8) (c : UInt8) (h : ∀ d ∈ l, 128 ≤ d.toNat) (hc : c.toNat < 128) : Groups (l ++ [c]) := by
  induction l with
  | nil => exact hc
  | cons a l ih =>
    have ih := ih (fun d hd => h d (by simp [hd]))
    have ha := h a (by simp)
    cases l with
    | nil => exact ⟨ha, hc⟩
    | cons b l => exact ⟨ha, ih⟩

theorem putVar_big {n : Nat} (h : 4611686018427387903 < n) : putVar n = [] := by unfold putVar; rw [if_neg (by omega)]
theorem putVar_in {n : Nat} (h : n ≤ 4611686018427387903) : putVar n = varB n := by unfold putVar; rw [if_pos (by omega), Int.toNat_natCast]
/-- A number was read: its groups. -/
theorem getVar_yes {l : List UInt8} {a i : Nat} {c : UInt8} (ha : a ≤ l.length) (h : More (l.drop a) i) (hk : i < 9) (hc : (l.drop a)[i]? = some c) (h1 : c.toNat < 128)
    (h2 : ¬ (c.toNat = 0 ∧ 0 < i)) (h3 : varVal ((l.drop a).take (i + 1)) ≤ 4611686018427387903) : getVarAt l a = some ((l.drop a).take (i + 1)) ∧ varB (varVal ((l.drop a).take (i + 1))) = (l.drop a).take (i + 1) := by
  obtain ⟨hi, e⟩ := List.getElem?_eq_some_iff.1 hc
  have hg : Groups ((l.drop a).take (i + 1)) := by rw [List.take_succ_eq_append_getElem hi, e]; exact groups_run _ _ h.2 h1
  have hv := (var_varVal _ hg (by
    rw [List.take_succ_eq_append_getElem hi, e]
    by_cases h0 : i = 0
    · left; subst h0; simp
    · right
      simp only [List.getLast?_append, List.getLast?_singleton, Option.some_or, ne_eq, Option.some.injEq]
      intro e2; rw [e2] at h2; exact h2 ⟨rfl, by omega⟩)).1
  refine ⟨?_, hv⟩
  unfold getVarAt
  rw [if_pos (by omega), Int.toNat_natCast, varTake_found h hk hc h1]
  have hp : putVar (varVal ((l.drop a).take (i + 1))) = (l.drop a).take (i + 1) := by rw [putVar_in h3, hv]
  simp [Option.filter, hp]
theorem getVar_bad {l : List UInt8} {a i : Nat} {c : UInt8} (ha : a ≤ l.length) (h : More (l.drop a) i) (hk : i < 9) (hc : (l.drop a)[i]? = some c) (h1 : c.toNat < 128)
    (h2 : (c.toNat = 0 ∧ 0 < i) ∨ 4611686018427387903 < varVal ((l.drop a).take (i + 1))) : getVarAt l a = none := by
  obtain ⟨hi, e⟩ := List.getElem?_eq_some_iff.1 hc
  have hg : Groups ((l.drop a).take (i + 1)) := by rw [List.take_succ_eq_append_getElem hi, e]; exact groups_run _ _ h.2 h1
  unfold getVarAt
  rw [if_pos (by omega), Int.toNat_natCast, varTake_found h hk hc h1]
  simp only [Option.filter]
  rw [if_neg]
  intro hp
  have hp : putVar (varVal ((l.drop a).take (i + 1))) = (l.drop a).take (i + 1) := by simpa using hp
  have hne : (l.drop a).take (i + 1) ≠ [] := by rw [List.take_succ_eq_append_getElem hi]; simp
  by_cases hb : 4611686018427387903 < varVal ((l.drop a).take (i + 1))
  · rw [putVar_big hb] at hp; exact hne hp.symm
  · rw [putVar_in (by omega)] at hp
    rcases h2 with ⟨h4, h5⟩ | h4
    · refine groups_zero _ hg ?_ ?_ hp
      · rw [List.length_take]; omega
      · rw [List.take_succ_eq_append_getElem hi, e]
        simp only [List.getLast?_append, List.getLast?_singleton, Option.some_or, Option.some.injEq]
        exact UInt8.toNat_inj.1 (by simpa using h4)
    · exact hb h4
theorem getVar_none {l : List UInt8} {a i : Nat} (ha : a ≤ l.length) (h : More (l.drop a) i) (hk : i ≤ 9) (he : (l.drop a).length ≤ i ∨ i = 9) : getVarAt l a = none := by
  unfold getVarAt
  rw [if_pos (by omega), Int.toNat_natCast, varTake_ended h hk he]; rfl
theorem getVar_out {l : List UInt8} {a : Int} (h : a < 0 ∨ l.length < a) : getVarAt l a = none := by unfold getVarAt; rw [if_neg (by omega)]
theorem getVar_some {l g : List UInt8} {a : Int} (h : getVarAt l a = some g) : ∃ n : Nat, a = n ∧ n ≤ l.length ∧ putVar (varVal g) = g ∧ varVal g ≤ 4611686018427387903 ∧ g.length ≤ 9 ∧ g = (l.drop n).take g.length ∧ n + g.length ≤ l.length := by
  unfold getVarAt at h
  split at h
  · rename_i hc
    obtain ⟨n, rfl⟩ := Int.eq_ofNat_of_zero_le hc.1
    rw [Int.toNat_natCast, Option.filter_eq_some_iff] at h
    obtain ⟨h1, h2⟩ := h
    have h2 : putVar (varVal g) = g := by simpa using h2
    have pre : ∀ (k : Nat) (L g : List UInt8), varTake k L = some g → g.length ≤ k ∧ g = L.take g.length ∧ g.length ≤ L.length ∧ g ≠ [] := by
      intro k
      induction k with
      | zero => intro L g h; cases h
      | succ k ih =>
        intro L g h
        cases L with
        | nil => cases h
        | cons c L =>
          rw [varTake] at h
          split at h
          · cases h; simp
          · cases hv : varTake k L with
            | none => rw [hv] at h; cases h
            | some g' =>
              rw [hv] at h
              cases h
              obtain ⟨i1, i2, i3, i4⟩ := ih L g' hv
              refine ⟨by simp; omega, ?_, by simp; omega, by simp⟩
              simp only [List.length_cons, List.take_succ_cons]
              rw [← i2]
    obtain ⟨p1, p2, p3, p4⟩ := pre _ _ _ h1
    refine ⟨n, rfl, by omega, h2, ?_, p1, p2, by rw [List.length_drop] at p3; omega⟩
    by_cases hb : varVal g ≤ 4611686018427387903
    · exact hb
    · rw [putVar_big (by omega)] at h2; exact absurd h2.symm p4
  · cases h
/-- A number's groups are read wherever they stand. -/
theorem getVar_back (n : Nat) (h : n ≤ 4611686018427387903) (l r : List UInt8) : getVarAt (l ++ (varB n ++ r)) l.length = some (varB n) := by
  have hl : (varB n).length ≤ 9 := var_len_le 8 n (by omega)
  unfold getVarAt
  rw [if_pos (by simp; omega), Int.toNat_natCast, List.drop_left, varTake_var 9 n r hl]
  have hp : putVar (varVal (varB n)) = varB n := by rw [varVal_var, putVar_in h]
  simp [Option.filter, hp]
end Go.Proofs.Ytejoiaijlaaekaa
