/- Small facts that the other texts share: endings, bytes of a text, new blocks. -/
import Derived.WalkKit
import Derived.WalkSpells
import Derived.WalkLawsBesides
import Derived.Deep.QuietTactic
import Derived.BigQuiet
import Derived.Lib.Hide
import Derived.Maps.AppendAt
import GoSem.Op.String
import Derived.Laws.BitsAllLaws
import Derived.Test.YtkomnnijnggbpaaProg
namespace Go.Proofs.Ytkomnnijnggbpaa
open Go.RowKit
set_option linter.unusedVariables false

theorem ret_int {k : IntKind} {a b : Int} (h : a = b) : Ending.returned (.int k a) = .returned (.int k b) := by rw [h]
theorem ret_bool {a b : Bool} (h : a = b) : Ending.returned (.bool a) = .returned (.bool b) := by rw [h]
theorem ret_text {a b : List UInt8} (h : a = b) : Ending.returned (.string ⟨a.toArray⟩) = .returned (.string ⟨b.toArray⟩) := by rw [h]

theorem byte_at (s : ByteArray) (k : Nat) (h : k < s.size) : s.data.toList[k]? = some s[k] := by
  rw [List.getElem?_eq_getElem (by simpa using h)]; rfl
theorem take_snoc (s : ByteArray) (k : Nat) (h : k < s.size) : s.data.toList.take (k + 1) = s.data.toList.take k ++ [s[k]] := by
  rw [List.take_succ_eq_append_getElem (by simpa using h)]; rfl
theorem bytes_ext {a b : ByteArray} (h : a.data.toList = b.data.toList) : a = b := by
  cases a; cases b; simp only at h; rw [Array.toList_inj.1 h]

theorem bne_of_beq {a b : Int} (h : (a == b) = true) : (a != b) = false := by simpa using h
theorem bne_of_nbeq {a b : Int} (h : (a == b) = false) : (a != b) = true := by simpa using h

theorem set_block {w : World} {p k T : Nat} {cs : Array Value} {fz : Nat × Nat} (v : Value) (h : w.heap[p]? = some (.cells cs T fz)) : (w.setCell ⟨p, k, none⟩ v).heap[p]? = some (.cells (cs.setIfInBounds k v) T fz) := by
  simp [World.setCell, Array.getElem?_modify, h]
theorem grown_set (w : World) (p k : Nat) (v : Value) : w.grownBy (w.setCell ⟨p, k, none⟩ v) (some p) :=
  ⟨rfl, rfl, rfl, by simp [World.setCell], fun j hj hne => Below.heap_setCell _ _ _ _ (fun e => hne (by rw [e]))⟩
theorem grown_drewN (w : World) (n : Nat) (row : Option Nat) : w.grownBy (w.drewN n) row := ⟨rfl, rfl, rfl, Nat.le_refl _, fun _ _ _ => rfl⟩
theorem grown_refl (w : World) (row : Option Nat) : w.grownBy w row := ⟨rfl, rfl, rfl, Nat.le_refl _, fun _ _ _ => rfl⟩

theorem cell_lt {w : World} {a : Addr} {v : Value} (h : w.cell? a = some v) : a.block < w.heap.size := by
  unfold World.cell? at h
  by_cases hb : a.block < w.heap.size
  · exact hb
  · rw [Array.getElem?_eq_none (by omega)] at h; cases h

/-- What is drawn turns nothing. -/
theorem below_draws {w : World} {B : Nat} (n : Nat) : Below B w (w.drewN n) := ⟨rfl, rfl, rfl, Nat.le_refl _, fun _ _ => rfl⟩

theorem draws_below {w w' : World} (h : ∃ n, w' = w.drewN n) (B : Nat) : Below B w w' := by obtain ⟨n, rfl⟩ := h; exact below_draws n

theorem below_new {w w1 w2 : World} (g0 : w.grownBy w1 none) (g1 : w1.grownBy w2 (some w.heap.size)) : Below w.heap.size w w2 :=
  ⟨g1.os.trans g0.os, g1.tape.trans g0.tape, g1.output.trans g0.output, Nat.le_trans g0.size g1.size, fun k hk => (g1.block k (by have := g0.size; omega) (by simp; omega)).trans (g0.block k hk (by simp))⟩

/-- A slice of integers that came in: nil; or it leads to a row of cells that hold numbers of their kind. -/
def IsRow (k : IntKind) (w : World) (a : Option Addr) (len cap : Nat) (zs : List Int) : Prop :=
  (a = none ∧ len = 0 ∧ cap = 0 ∧ zs = []) ∨
  ∃ x, a = some x ∧ len ≤ cap ∧ cap ≤ maxLen ∧ zs.length = cap ∧ (∀ i, i < zs.length → w.cell? (x.add i) = some (.int k (zs.getD i 0))) ∧ ∀ n ∈ zs, (Lit.int k n).wf = true

theorem wf_u8 {n : Int} (h : (Lit.int .u8 n).wf = true) : 0 ≤ n ∧ n ≤ 255 := by
  simp [Lit.wf, IntKind.min, IntKind.max, IntKind.signed, IntKind.bits] at h; omega
end Go.Proofs.Ytkomnnijnggbpaa
/- Plain mathematics of texts: how many bytes two lists begin alike with, and which of two stands ahead. No condition. -/
namespace Go.Proofs.Ytkomnnijnggbpaa

def shared : List UInt8 → List UInt8 → Nat
  | a :: us, b :: bs => if a = b then shared us bs + 1 else 0
  | _, _ => 0

theorem shared_le_left : ∀ a b : List UInt8, shared a b ≤ a.length
  | [], _ => by simp [shared]
  | a :: us, [] => by simp [shared]
  | a :: us, b :: bs => by
    have := shared_le_left us bs
    unfold shared
    split <;> simp <;> omega

theorem shared_le_right : ∀ a b : List UInt8, shared a b ≤ b.length
  | [], _ => by simp [shared]
  | a :: us, [] => by simp [shared]
  | a :: us, b :: bs => by
    have := shared_le_right us bs
    unfold shared
    split <;> simp <;> omega

/-- A count is 'shared' where all ahead of it is alike and there it ends or parts. -/
theorem shared_eq : ∀ (k : Nat) (a b : List UInt8), k ≤ a.length → k ≤ b.length → (∀ i, i < k → a[i]? = b[i]?) →
    (k = a.length ∨ k = b.length ∨ a[k]? ≠ b[k]?) → shared a b = k
  | 0, a, b, _, _, _, he => by
    match a, b with
    | [], _ => simp [shared]
    | _ :: _, [] => simp [shared]
    | x :: us, y :: bs =>
      simp at he
      simp [shared, he]
  | k + 1, a, b, ha, hb, hl, he => by
    match a, b with
    | [], _ => simp at ha
    | _ :: _, [] => simp at hb
    | x :: us, y :: bs =>
      have h0 := hl 0 (by omega)
      simp at h0
      subst h0
      have := shared_eq k us bs (by simpa using ha) (by simpa using hb) (fun i hi => by simpa using hl (i + 1) (by omega)) (by simpa using he)
      simp [shared, this]

/-- Which of two lists stands ahead, by how far they begin alike. -/
def ahead (a b : List UInt8) : Bool :=
  if shared a b < a.length ∧ shared a b < b.length then decide ((a.getD (shared a b) 0).toNat < (b.getD (shared a b) 0).toNat) else decide (a.length < b.length)

theorem ahead_def (a b : List UInt8) : ahead a b = if shared a b < a.length ∧ shared a b < b.length then decide ((a.getD (shared a b) 0).toNat < (b.getD (shared a b) 0).toNat) else decide (a.length < b.length) := rfl

theorem ahead_less : ∀ a b : List UInt8, Op.bytesLess a b = ahead a b
  | [], [] => by simp [Op.bytesLess, ahead]
  | a :: us, [] => by simp [Op.bytesLess, ahead]
  | [], b :: bs => by simp [Op.bytesLess, ahead]
  | a :: us, b :: bs => by
    have ih := ahead_less us bs
    unfold Op.bytesLess
    by_cases h : a = b
    · subst h
      rw [ih]
      unfold ahead
      have e : shared (a :: us) (a :: bs) = shared us bs + 1 := by simp [shared]
      rw [e]
      simp [UInt8.lt_irrefl]
    · have e : shared (a :: us) (b :: bs) = 0 := by simp [shared, h]
      simp [ahead, e, h, UInt8.lt_iff_toNat_lt]

theorem less_irrefl : ∀ a : List UInt8, Op.bytesLess a a = false
  | [] => by simp [Op.bytesLess]
  | a :: us => by simp [Op.bytesLess, less_irrefl us]

theorem less_asymm : ∀ a b : List UInt8, Op.bytesLess a b = true → Op.bytesLess b a = false
  | [], [], h => by simp [Op.bytesLess] at h
  | a :: us, [], h => by simp [Op.bytesLess] at h
  | [], b :: bs, _ => by simp [Op.bytesLess]
  | a :: us, b :: bs, h => by
    simp only [Op.bytesLess, Bool.or_eq_true, decide_eq_true_eq, Bool.and_eq_true, beq_iff_eq] at h
    simp only [Op.bytesLess, Bool.or_eq_false_iff, decide_eq_false_iff_not, Bool.and_eq_false_iff]
    rcases h with h | ⟨rfl, h⟩
    · rw [UInt8.lt_iff_toNat_lt] at h
      refine ⟨by rw [UInt8.lt_iff_toNat_lt]; omega, Or.inl ?_⟩
      simp only [beq_eq_false_iff_ne, ne_eq]
      rintro rfl
      omega
    · exact ⟨by rw [UInt8.lt_iff_toNat_lt]; omega, Or.inr (less_asymm us bs h)⟩

theorem less_total : ∀ a b : List UInt8, a ≠ b → Op.bytesLess a b = false → Op.bytesLess b a = true
  | [], [], h, _ => absurd rfl h
  | a :: us, [], _, _ => by simp [Op.bytesLess]
  | [], b :: bs, _, h => by simp [Op.bytesLess] at h
  | a :: us, b :: bs, hne, h => by
    simp only [Op.bytesLess, Bool.or_eq_false_iff, decide_eq_false_iff_not, Bool.and_eq_false_iff, beq_eq_false_iff_ne] at h
    simp only [Op.bytesLess, Bool.or_eq_true, decide_eq_true_eq, Bool.and_eq_true, beq_iff_eq]
    by_cases e : a = b
    · subst e
      refine Or.inr ⟨rfl, less_total us bs (fun e => hne (by rw [e])) ?_⟩
      rcases h.2 with h2 | h2
      · exact absurd rfl h2
      · exact h2
    · have h1 := h.1
      rw [UInt8.lt_iff_toNat_lt] at h1
      rw [UInt8.lt_iff_toNat_lt]
      have : a.toNat ≠ b.toNat := fun e2 => e (UInt8.toNat_inj.1 e2)
      exact Or.inl (by omega)

theorem less_more : ∀ (a : List UInt8) (x : UInt8) (xs : List UInt8), Op.bytesLess a (a ++ x :: xs) = true
  | [], x, xs => by simp [Op.bytesLess]
  | a :: us, x, xs => by simp [Op.bytesLess, less_more us x xs]

theorem ahead_more (a : List UInt8) (x : UInt8) : ahead a (a ++ [x]) = true ∧ ahead (a ++ [x]) a = false := by
  rw [← ahead_less, ← ahead_less]
  exact ⟨less_more a x [], less_asymm _ _ (less_more a x [])⟩

/-- Of two texts one is ahead, or they are one. -/
theorem ahead_three (a b : List UInt8) : (ahead a b = true ∧ ahead b a = false ∧ a ≠ b) ∨ (ahead a b = false ∧ ahead b a = true ∧ a ≠ b) ∨ (ahead a b = false ∧ ahead b a = false ∧ a = b) := by
  rw [← ahead_less, ← ahead_less]
  by_cases e : a = b
  · subst e; exact Or.inr (Or.inr ⟨less_irrefl a, less_irrefl a, rfl⟩)
  · cases h : Op.bytesLess a b
    · exact Or.inr (Or.inl ⟨rfl, less_total a b e h, e⟩)
    · exact Or.inl ⟨rfl, less_asymm a b h, e⟩

theorem shared_self : ∀ a : List UInt8, shared a a = a.length
  | [] => by simp [shared]
  | a :: us => by simp [shared, shared_self us]
theorem shared_comm : ∀ a b : List UInt8, shared a b = shared b a
  | [], [] => rfl
  | a :: us, [] => by simp [shared]
  | [], b :: bs => by simp [shared]
  | a :: us, b :: bs => by
    unfold shared
    by_cases e : a = b
    · subst e; simp [shared_comm us bs]
    · rw [if_neg e, if_neg (fun h => e h.symm)]
theorem shared_more : ∀ a b : List UInt8, shared (a ++ b) a = a.length
  | [], [] => rfl
  | [], b :: bs => by simp [shared]
  | a :: us, b => by simp [shared, shared_more us b]
theorem shared_take : ∀ a b : List UInt8, a.take (shared a b) = b.take (shared a b)
  | [], [] => rfl
  | a :: us, [] => by simp [shared]
  | [], b :: bs => by simp [shared]
  | a :: us, b :: bs => by
    unfold shared
    by_cases e : a = b
    · subst e; simp [shared_take us bs]
    · rw [if_neg e]; simp
theorem shared_part : ∀ a b : List UInt8, shared a b < a.length → shared a b < b.length → a.getD (shared a b) 0 ≠ b.getD (shared a b) 0
  | [], [], h, _ => by simp at h
  | a :: us, [], _, h => by simp at h
  | [], b :: bs, h, _ => by simp at h
  | a :: us, b :: bs, h1, h2 => by
    unfold shared at h1 h2 ⊢
    by_cases e : a = b
    · subst e
      simp only [if_true] at h1 h2 ⊢
      simpa using shared_part us bs (by simpa using h1) (by simpa using h2)
    · rw [if_neg e]; simpa using e

end Go.Proofs.Ytkomnnijnggbpaa
/- Texts that begin alike: where they part, and where one ends. -/
namespace Go.Proofs.Ytkomnnijnggbpaa
open Go.RowKit
set_option linter.unusedVariables false

theorem alike_succ {a b : ByteArray} {k : Nat} (h1 : k < a.size) (h2 : k < b.size) (h : ∀ j, j < k → a.data.toList[j]? = b.data.toList[j]?)
    (hk : ((a[k].toNat : Int) != (b[k].toNat : Int)) = false) : ∀ j, j < k + 1 → a.data.toList[j]? = b.data.toList[j]? := by
  intro j hj
  by_cases e : j = k
  · subst e
    have : a[j] = b[j] := by
      have : a[j].toNat = b[j].toNat := by simp at hk; omega
      exact UInt8.toNat_inj.1 this
    rw [byte_at a j h1, byte_at b j h2, this]
  · exact h j (by omega)

theorem sharedParts {a b : ByteArray} {k : Nat} (h1 : k < a.size) (h2 : k < b.size) (h : ∀ j, j < k → a.data.toList[j]? = b.data.toList[j]?)
    (hk : ((a[k].toNat : Int) != (b[k].toNat : Int)) = true) : shared a.data.toList b.data.toList = k := by
  refine shared_eq k _ _ (by simp; omega) (by simp; omega) h (Or.inr (Or.inr ?_))
  rw [byte_at a k h1, byte_at b k h2]
  intro e
  simp only [Option.some.injEq] at e
  rw [e] at hk
  simp at hk

theorem sharedEnds {a b : ByteArray} {k : Nat} (h1 : k ≤ a.size) (h2 : k ≤ b.size) (h : ∀ j, j < k → a.data.toList[j]? = b.data.toList[j]?)
    (hk : ¬ (k < a.size ∧ k < b.size)) : shared a.data.toList b.data.toList = k := by
  refine shared_eq k _ _ (by simp; omega) (by simp; omega) h ?_
  simp only [Array.length_toList, ByteArray.size_data]
  omega
end Go.Proofs.Ytkomnnijnggbpaa
/- Bits of numbers of 64 bits that are not below nought. -/
namespace Go.Proofs.Ytkomnnijnggbpaa
open Go.RowKit
set_option linter.unusedVariables false

theorem ofInt_i64 (a : Nat) (ha : a < 9223372036854775808) : (BitVec.ofInt 64 (a : Int)).toNat = a := by
  rw [BitVec.ofInt_natCast, BitVec.toNat_ofNat]; exact Nat.mod_eq_of_lt (by omega)
theorem i64_or_nat (a b : Nat) (ha : a < 9223372036854775808) (hb : b < 9223372036854775808) : bits .or .i64 (a : Int) (b : Int) = ((a ||| b : Nat) : Int) := by
  have hx : a ||| b < 2 ^ 63 := Nat.or_lt_two_pow (by omega) (by omega)
  show IntKind.i64.wrap ((BitVec.ofInt 64 (a : Int) ||| BitVec.ofInt 64 (b : Int)).toNat : Int) = _
  rw [BitVec.toNat_or, ofInt_i64 a ha, ofInt_i64 b hb, IntKind.wrap_i64]
  omega
theorem i64_and_nat (a b : Nat) (ha : a < 9223372036854775808) (hb : b < 9223372036854775808) : bits .and .i64 (a : Int) (b : Int) = ((a &&& b : Nat) : Int) := by
  have hx : a &&& b < 2 ^ 63 := Nat.and_lt_two_pow _ (by omega)
  show IntKind.i64.wrap ((BitVec.ofInt 64 (a : Int) &&& BitVec.ofInt 64 (b : Int)).toNat : Int) = _
  rw [BitVec.toNat_and, ofInt_i64 a ha, ofInt_i64 b hb, IntKind.wrap_i64]
  omega
end Go.Proofs.Ytkomnnijnggbpaa
/- Plain mathematics of sums of 32 bits: one step turns linearly, nothing but nought goes to nought; some bits in a row that were turned are told. -/
namespace Go.Proofs.Ytkomnnijnggbpaa
set_option linter.unusedVariables false

/-- What a sum is turned by where a one went. -/
def poly : Nat := 2197175160
/-- One bit moved out of a sum. -/
def stp (x : Nat) : Nat := (x / 2) ^^^ (if x % 2 = 1 then poly else 0)
def stN : Nat → Nat → Nat
  | 0, x => x
  | n + 1, x => stN n (stp x)

theorem st_xor (x y : Nat) : stp (x ^^^ y) = stp x ^^^ stp y := by
  unfold stp
  have h1 : (x ^^^ y) / 2 = x / 2 ^^^ y / 2 := by
    have := Nat.xor_div_two_pow (a := x) (b := y) (n := 1); simpa using this
  have h2 : (x ^^^ y) % 2 = (x % 2) ^^^ (y % 2) := by
    have := Nat.xor_mod_two_pow (a := x) (b := y) (n := 1); simpa using this
  rw [h1, h2]
  have ax : x % 2 = 0 ∨ x % 2 = 1 := by omega
  have ay : y % 2 = 0 ∨ y % 2 = 1 := by omega
  rcases ax with ax | ax <;> rcases ay with ay | ay <;> simp [ax, ay]
  · exact Nat.xor_assoc _ _ _
  · rw [Nat.xor_assoc, Nat.xor_comm (y / 2), ← Nat.xor_assoc]
  · rw [Nat.xor_comm (y / 2) poly, ← Nat.xor_assoc, Nat.xor_assoc (x / 2), Nat.xor_self, Nat.xor_zero]

theorem stN_xor (n : Nat) : ∀ x y, stN n (x ^^^ y) = stN n x ^^^ stN n y := by
  induction n with
  | zero => intro x y; rfl
  | succ n ih => intro x y; simp only [stN]; rw [st_xor, ih]

theorem st_two (z : Nat) : stp (2 * z) = z := by
  unfold stp
  have h1 : 2 * z / 2 = z := by omega
  have h2 : 2 * z % 2 = 0 := by omega
  rw [h1, h2]; simp

theorem stN_pow (n : Nat) : ∀ z, stN n (2 ^ n * z) = z := by
  induction n with
  | zero => intro z; simp [stN]
  | succ n ih =>
    intro z
    simp only [stN]
    have : 2 ^ (n + 1) * z = 2 * (2 ^ n * z) := by rw [Nat.pow_succ]; rw [Nat.mul_comm (2 ^ n) 2, Nat.mul_assoc]
    rw [this, st_two, ih]

theorem stN_add (m n : Nat) : ∀ x, stN (m + n) x = stN n (stN m x) := by
  induction m with
  | zero => intro x; simp [stN]
  | succ m ih => intro x; rw [Nat.succ_add]; simp only [stN]; exact ih _

theorem st_lt {x : Nat} (h : x < 4294967296) : stp x < 4294967296 := by
  unfold stp
  have : (x / 2) ^^^ (if x % 2 = 1 then poly else 0) < 2 ^ 32 := by
    apply Nat.xor_lt_two_pow
    · omega
    · split <;> simp [poly]
  exact this

theorem stN_lt (n : Nat) : ∀ {x : Nat}, x < 4294967296 → stN n x < 4294967296 := by
  induction n with
  | zero => intro x h; exact h
  | succ n ih => intro x h; exact ih (st_lt h)

theorem xor_eq_zero {a b : Nat} (h : a ^^^ b = 0) : a = b := by
  have : a ^^^ b ^^^ b = 0 ^^^ b := by rw [h]
  rw [Nat.xor_assoc, Nat.xor_self, Nat.xor_zero, Nat.zero_xor] at this
  exact this

theorem st_ne {x : Nat} (h : x < 4294967296) (h0 : x ≠ 0) : stp x ≠ 0 := by
  unfold stp
  intro e
  have := xor_eq_zero e
  split at this
  · unfold poly at this; omega
  · omega

theorem stN_ne (n : Nat) : ∀ {x : Nat}, x < 4294967296 → x ≠ 0 → stN n x ≠ 0 := by
  induction n with
  | zero => intro x h h0; exact h0
  | succ n ih => intro x h h0; exact ih (st_lt h) (st_ne h h0)

theorem split_bits (n x : Nat) : x = (x % 2 ^ n) ^^^ (2 ^ n * (x / 2 ^ n)) := by
  apply Nat.eq_of_testBit_eq
  intro i
  rw [Nat.testBit_xor, Nat.testBit_mod_two_pow, Nat.testBit_two_pow_mul, Nat.testBit_div_two_pow]
  by_cases h : i < n
  · have : ¬ i ≥ n := by omega
    simp [h, this]
  · have h' : n ≤ i := by omega
    have e : i - n + n = i := by omega
    simp [h, h', e]

/-- Many bits moved out at once: the highest ones stay, turned by what the lowest ones come to. -/
theorem stN_split (n x : Nat) : stN n x = stN n (x % 2 ^ n) ^^^ x / 2 ^ n := by
  have h := split_bits n x
  have e := congrArg (stN n) h
  rw [stN_xor, stN_pow] at e
  exact e

/-- A byte taken into a sum. -/
def crcB (x : Nat) (c : UInt8) : Nat := stN 8 (x ^^^ c.toNat)
/-- The table's way: the sum's lowest eight bits and the byte are looked up, the others moved down. -/
theorem crcB_table (x : Nat) (c : UInt8) : crcB x c = x / 256 ^^^ stN 8 ((x % 256) ^^^ c.toNat) := by
  unfold crcB
  rw [stN_split 8]
  have hc := c.toNat_lt
  have e1 : (x ^^^ c.toNat) % 2 ^ 8 = (x % 256) ^^^ c.toNat := by
    rw [Nat.xor_mod_two_pow]
    congr 1
    exact Nat.mod_eq_of_lt (by simpa using hc)
  have e2 : (x ^^^ c.toNat) / 2 ^ 8 = x / 256 := by
    rw [Nat.xor_div_two_pow]
    have : c.toNat / 2 ^ 8 = 0 := Nat.div_eq_of_lt (by simpa using hc)
    rw [this, Nat.xor_zero]
  rw [e1, e2, Nat.xor_comm]

theorem crcB_lt {x : Nat} {c : UInt8} (h : x < 4294967296) : crcB x c < 4294967296 := by
  unfold crcB
  apply stN_lt
  have hc := c.toNat_lt
  have : x ^^^ c.toNat < 2 ^ 32 := Nat.xor_lt_two_pow h (by omega)
  exact this

/-- The sum of bytes, ahead of its last turn. -/
def crcF (x : Nat) (l : List UInt8) : Nat := l.foldl crcB x
theorem crcF_lt (l : List UInt8) : ∀ {x : Nat}, x < 4294967296 → crcF x l < 4294967296 := by
  induction l with
  | nil => intro x h; exact h
  | cons c l ih => intro x h; exact ih (crcB_lt h)
theorem crcF_snoc (x : Nat) (l : List UInt8) (c : UInt8) : crcF x (l ++ [c]) = crcB (crcF x l) c := by simp [crcF]

/-- The sum of bytes. -/
def crc (l : List UInt8) : Nat := 4294967295 - crcF 4294967295 l
theorem crc_lt (l : List UInt8) : crc l < 4294967296 := by unfold crc; omega
theorem crc_inj {l m : List UInt8} (h : crc l = crc m) : crcF 4294967295 l = crcF 4294967295 m := by
  have h1 := crcF_lt l (x := 4294967295) (by omega)
  have h2 := crcF_lt m (x := 4294967295) (by omega)
  unfold crc at h
  omega

/-- Bytes of which those of a number were turned. -/
def Bent (E : Nat) : List UInt8 → List UInt8 → Prop
  | [], [] => True
  | a :: l, b :: m => b.toNat = a.toNat ^^^ (E % 256) ∧ Bent (E / 256) l m
  | _, _ => False

theorem bent_sum (l : List UInt8) : ∀ (m : List UInt8) (E d x : Nat), Bent E l m →
    ∃ d', crcF (x ^^^ d) m = crcF x l ^^^ d' ∧ d' ^^^ E / 2 ^ (8 * l.length) = stN (8 * l.length) (d ^^^ E) := by
  induction l with
  | nil =>
    intro m E d x h
    cases m with
    | nil => exact ⟨d, rfl, by simp [stN]⟩
    | cons => cases h
  | cons a l ih =>
    intro m E d x h
    cases m with
    | nil => cases h
    | cons b m =>
      obtain ⟨h1, h2⟩ := h
      have e : crcB (x ^^^ d) b = crcB x a ^^^ stN 8 (d ^^^ E % 256) := by
        unfold crcB
        rw [h1, ← stN_xor]
        congr 1
        ac_rfl
      obtain ⟨d', h3, h4⟩ := ih m (E / 256) (stN 8 (d ^^^ E % 256)) (crcB x a) h2
      refine ⟨d', ?_, ?_⟩
      · simp only [crcF, List.foldl_cons] at h3 ⊢
        rw [e]; exact h3
      · have p1 : E / 2 ^ (8 * (a :: l).length) = E / 256 / 2 ^ (8 * l.length) := by
          rw [Nat.div_div_eq_div_mul]
          congr 1
          rw [List.length_cons, Nat.mul_add, Nat.pow_add, Nat.mul_comm]
        rw [p1, h4]
        have p2 : 8 * (a :: l).length = 8 + 8 * l.length := by rw [List.length_cons]; omega
        rw [p2, stN_add]
        congr 1
        have := stN_split 8 E
        rw [stN_xor, stN_xor, this, Nat.xor_assoc]

/-- Bits in a row that were turned, 32 at most, are told by the sum. -/
theorem bent_told (l m : List UInt8) (f k : Nat) (h : Bent (2 ^ f * k) l m) (hf : f ≤ 8 * l.length) (h0 : k % 2 ^ (8 * l.length - f) ≠ 0) (hk : k < 4294967296) : crc m ≠ crc l := by
  intro e
  have e1 := crc_inj e
  obtain ⟨d', h1, h2⟩ := bent_sum l m _ 0 4294967295 h
  rw [Nat.xor_zero] at h1
  rw [Nat.zero_xor] at h2
  have hd : d' = 0 := by
    rw [h1] at e1
    have : crcF 4294967295 l ^^^ (crcF 4294967295 l ^^^ d') = crcF 4294967295 l ^^^ crcF 4294967295 l := by rw [e1]
    rw [← Nat.xor_assoc, Nat.xor_self, Nat.zero_xor] at this
    exact this
  rw [hd, Nat.zero_xor, stN_split] at h2
  have h3 : stN (8 * l.length) ((2 ^ f * k) % 2 ^ (8 * l.length)) = 0 := by
    have : ∀ a b : Nat, b = a ^^^ b → a = 0 := by
      intro a b h
      have h' : b ^^^ b = a ^^^ b ^^^ b := by rw [← h]
      rw [Nat.xor_assoc, Nat.xor_self, Nat.xor_zero] at h'
      exact h'.symm
    exact this _ _ h2
  have p : 2 ^ (8 * l.length) = 2 ^ f * 2 ^ (8 * l.length - f) := by rw [← Nat.pow_add]; congr 1; omega
  rw [p, Nat.mul_mod_mul_left] at h3
  have q : 8 * l.length = f + (8 * l.length - f) := by omega
  rw [q, stN_add, stN_pow] at h3
  have e2 : f + (8 * l.length - f) - f = 8 * l.length - f := by omega
  rw [e2] at h3
  exact stN_ne _ (Nat.lt_of_le_of_lt (Nat.mod_le _ _) hk) h0 h3
end Go.Proofs.Ytkomnnijnggbpaa
/- Plain mathematics of numbers in bytes. -/
namespace Go.Proofs.Ytkomnnijnggbpaa
set_option linter.unusedVariables false

/-- The lowest k bytes of a number, the lowest ones first. -/
def fixB (n k : Nat) : List UInt8 := (List.range k).map fun i => UInt8.ofNat (n / 2 ^ (8 * i))
theorem fix_length (n k : Nat) : (fixB n k).length = k := by simp [fixB]
theorem fix_succ (n k : Nat) : fixB n (k + 1) = fixB n k ++ [UInt8.ofNat (n / 2 ^ (8 * k))] := by simp [fixB, List.range_succ]
/-- The number of bytes, the lowest ones first. -/
def fixVal : List UInt8 → Nat
  | [] => 0
  | c :: l => c.toNat + 256 * fixVal l
theorem fixVal_snoc (l : List UInt8) (c : UInt8) : fixVal (l ++ [c]) = fixVal l + 2 ^ (8 * l.length) * c.toNat := by
  induction l with
  | nil => simp [fixVal]
  | cons a l ih =>
    simp only [List.cons_append, fixVal, ih, List.length_cons]
    have : 2 ^ (8 * (l.length + 1)) = 256 * 2 ^ (8 * l.length) := by rw [Nat.mul_add, Nat.pow_add]; omega
    rw [this, Nat.mul_add, Nat.mul_assoc]; omega
theorem fixVal_lt (l : List UInt8) : fixVal l < 2 ^ (8 * l.length) := by
  induction l with
  | nil => simp [fixVal]
  | cons a l ih =>
    simp only [fixVal, List.length_cons]
    have : 2 ^ (8 * (l.length + 1)) = 256 * 2 ^ (8 * l.length) := by rw [Nat.mul_add, Nat.pow_add]; omega
    have ha := a.toNat_lt
    omega
theorem fixVal_fix (n k : Nat) : fixVal (fixB n k) = n % 2 ^ (8 * k) := by
  induction k with
  | zero => simp [fixB, fixVal, Nat.mod_one]
  | succ k ih =>
    rw [fix_succ, fixVal_snoc, ih, fix_length]
    have e : 2 ^ (8 * (k + 1)) = 2 ^ (8 * k) * 256 := by rw [Nat.mul_add, Nat.pow_add]
    rw [e, Nat.mod_mul]
    simp
theorem fix_cons (n k : Nat) : fixB n (k + 1) = UInt8.ofNat n :: fixB (n / 256) k := by
  unfold fixB
  rw [List.range_succ_eq_map]
  simp only [List.map_cons, List.map_map, Nat.mul_zero, Nat.pow_zero, Nat.div_one]
  congr 1
  apply List.map_congr_left
  intro i hi
  simp only [Function.comp]
  congr 1
  rw [Nat.div_div_eq_div_mul]
  congr 1
  rw [Nat.succ_eq_add_one, Nat.mul_add, Nat.pow_add]; omega
theorem fix_fixVal (l : List UInt8) : fixB (fixVal l) l.length = l := by
  induction l with
  | nil => rfl
  | cons a l ih =>
    have ha := a.toNat_lt
    rw [List.length_cons, fix_cons, fixVal]
    have e1 : (a.toNat + 256 * fixVal l) / 256 = fixVal l := by omega
    rw [e1, ih]
    congr 1
    apply UInt8.toNat_inj.1
    rw [UInt8.toNat_ofNat']
    omega
theorem fix_add (n a b : Nat) : fixB n (a + b) = fixB n a ++ fixB (n / 2 ^ (8 * a)) b := by
  induction b with
  | zero => simp [fixB]
  | succ b ih =>
    rw [← Nat.add_assoc, fix_succ, ih, fix_succ, List.append_assoc]
    congr 3
    rw [Nat.div_div_eq_div_mul, Nat.mul_add, Nat.pow_add]
theorem fix_inj {n m k : Nat} (h : fixB n k = fixB m k) : n % 2 ^ (8 * k) = m % 2 ^ (8 * k) := by rw [← fixVal_fix, ← fixVal_fix, h]

/-- PutFix. -/
def putFix (n b : Int) : List UInt8 := if 0 ≤ n ∧ 1 ≤ b ∧ b ≤ 4 then fixB n.toNat b.toNat else []
/-- GetFix. -/
def getFix (l : List UInt8) (at_ b : Int) : Int := if 1 ≤ b ∧ b ≤ 4 ∧ 0 ≤ at_ ∧ at_ + b ≤ l.length then fixVal ((l.drop at_.toNat).take b.toNat) else -1

/-- The groups of seven bits of a number, the lowest ones first. -/
def varB (n : Nat) : List UInt8 := if h : n < 128 then [UInt8.ofNat n] else UInt8.ofNat (n % 128 + 128) :: varB (n / 128)
termination_by n
decreasing_by omega
theorem var_small {n : Nat} (h : n < 128) : varB n = [UInt8.ofNat n] := by rw [varB, dif_pos h]
theorem var_step {n : Nat} (h : 128 ≤ n) : varB n = UInt8.ofNat (n % 128 + 128) :: varB (n / 128) := by rw [varB, dif_neg (by omega)]
theorem var_ne (n : Nat) : varB n ≠ [] := by
  by_cases h : n < 128
  · rw [var_small h]; simp
  · rw [var_step (by omega)]; simp
/-- The number of groups. -/
def varVal : List UInt8 → Nat
  | [] => 0
  | c :: l => c.toNat % 128 + 128 * varVal l
theorem varVal_var (n : Nat) : varVal (varB n) = n := by
  induction n using Nat.strongRecOn with
  | _ n ih =>
    by_cases h : n < 128
    · rw [var_small h]; simp [varVal]; omega
    · rw [var_step (by omega), varVal, ih (n / 128) (by omega)]
      simp only [UInt8.toNat_ofNat']
      omega
theorem var_inj {n m : Nat} (h : varB n = varB m) : n = m := by rw [← varVal_var n, ← varVal_var m, h]
theorem var_len_mono (n : Nat) : ∀ m, n ≤ m → (varB n).length ≤ (varB m).length := by
  induction n using Nat.strongRecOn with
  | _ n ih =>
    intro m hm
    by_cases h : n < 128
    · rw [var_small h]
      have := List.length_pos_iff.2 (var_ne m)
      simp only [List.length_cons, List.length_nil]; omega
    · rw [var_step (n := n) (by omega), var_step (n := m) (by omega)]
      simp only [List.length_cons]
      have := ih (n / 128) (by omega) (m / 128) (by omega)
      omega
theorem var_len_le (k : Nat) : ∀ n, n < 2 ^ (7 * (k + 1)) → (varB n).length ≤ k + 1 := by
  induction k with
  | zero => intro n h; rw [var_small (by simpa using h)]; simp
  | succ k ih =>
    intro n h
    by_cases h1 : n < 128
    · rw [var_small h1]; simp
    · rw [var_step (by omega)]
      have e : 2 ^ (7 * (k + 1 + 1)) = 128 * 2 ^ (7 * (k + 1)) := by rw [Nat.mul_add 7 (k + 1) 1, Nat.pow_add]; omega
      have := ih (n / 128) (by omega)
      simp only [List.length_cons]
      omega
theorem var_shift {n : Nat} (h : 0 < n) : (varB (128 * n)).length = (varB n).length + 1 := by
  rw [var_step (by omega)]
  have e : 128 * n / 128 = n := by omega
  rw [e]; simp

/-- The groups at the beginning of bytes: as far as the first one without more behind it, so many at most. -/
def varTake : Nat → List UInt8 → Option (List UInt8)
  | 0, _ => none
  | _, [] => none
  | k + 1, c :: l => if c.toNat < 128 then some [c] else (varTake k l).map (c :: ·)
theorem varTake_var (k : Nat) : ∀ (n : Nat) (r : List UInt8), (varB n).length ≤ k → varTake k (varB n ++ r) = some (varB n) := by
  induction k with
  | zero => intro n r h; have := List.length_pos_iff.2 (var_ne n); omega
  | succ k ih =>
    intro n r h
    by_cases h1 : n < 128
    · rw [var_small h1]
      have : (UInt8.ofNat n).toNat < 128 := by rw [UInt8.toNat_ofNat']; omega
      rw [List.singleton_append, varTake, if_pos this]
    · rw [var_step (by omega)] at h ⊢
      have : ¬ (UInt8.ofNat (n % 128 + 128)).toNat < 128 := by rw [UInt8.toNat_ofNat']; omega
      rw [List.cons_append, varTake, if_neg this, ih (n / 128) r (by simpa using h)]
      rfl
/-- Each group but the last one says that there is more. -/
def Groups : List UInt8 → Prop
  | [] => False
  | [c] => c.toNat < 128
  | c :: d :: l => 128 ≤ c.toNat ∧ Groups (d :: l)
theorem groups_var (n : Nat) : Groups (varB n) := by
  induction n using Nat.strongRecOn with
  | _ n ih =>
    by_cases h : n < 128
    · rw [var_small h]; simp only [Groups, UInt8.toNat_ofNat']; omega
    · have := ih (n / 128) (by omega)
      rw [var_step (by omega)]
      cases hv : varB (n / 128) with
      | nil => exact absurd hv (var_ne _)
      | cons d l =>
        rw [hv] at this
        refine ⟨?_, this⟩
        rw [UInt8.toNat_ofNat']; omega
/-- Groups are those of their number, but where the last one is nought behind others. -/
theorem var_varVal : ∀ (l : List UInt8), Groups l → (l.length = 1 ∨ l.getLast? ≠ some 0) → varB (varVal l) = l ∧ (l.length = 1 ∨ 1 ≤ varVal l)
  | [], h, _ => h.elim
  | [c], h, _ => by
    simp only [Groups] at h
    have e : varVal [c] = c.toNat := by simp only [varVal]; omega
    rw [e, var_small h]
    exact ⟨by simp, Or.inl rfl⟩
  | c :: d :: l, h, h0 => by
    obtain ⟨h1, h2⟩ := h
    have hc := c.toNat_lt
    have h0' : (d :: l).getLast? ≠ some 0 := by
      rcases h0 with h0 | h0
      · simp at h0
      · simpa [List.getLast?_cons_cons] using h0
    have ih := var_varVal (d :: l) h2 (Or.inr h0')
    have hpos : 1 ≤ varVal (d :: l) := by
      rcases ih.2 with h3 | h3
      · have hl : l = [] := by simpa using h3
        subst hl
        simp only [Groups] at h2
        have : d.toNat ≠ 0 := by
          intro e
          apply h0'
          have : d = 0 := UInt8.toNat_inj.1 (by simpa using e)
          simp [this]
        simp only [varVal]; omega
      · exact h3
    have e : varVal (c :: d :: l) = c.toNat % 128 + 128 * varVal (d :: l) := rfl
    refine ⟨?_, Or.inr (by rw [e]; omega)⟩
    rw [e, var_step (by omega)]
    have e1 : (c.toNat % 128 + 128 * varVal (d :: l)) / 128 = varVal (d :: l) := by omega
    have e2 : (c.toNat % 128 + 128 * varVal (d :: l)) % 128 + 128 = c.toNat := by omega
    rw [e1, ih.1, e2]
    simp
theorem groups_zero : ∀ (l : List UInt8), Groups l → 2 ≤ l.length → l.getLast? = some 0 → varB (varVal l) ≠ l := by
  intro l hg h2 h0 e
  have : ∀ n, 2 ≤ (varB n).length → (varB n).getLast? ≠ some 0 := by
    intro n
    induction n using Nat.strongRecOn with
    | _ n ih =>
      intro hl
      by_cases h : n < 128
      · rw [var_small h] at hl; simp at hl
      · rw [var_step (by omega)] at hl ⊢
        by_cases h3 : n / 128 < 128
        · rw [var_small h3]
          simp only [List.getLast?_cons_cons, List.getLast?_singleton, ne_eq, Option.some.injEq]
          intro e
          have := congrArg UInt8.toNat e
          rw [UInt8.toNat_ofNat'] at this
          simp at this
          omega
        · have h4 : 2 ≤ (varB (n / 128)).length := by
            rw [var_step (n := n / 128) (by omega)]
            have := List.length_pos_iff.2 (var_ne (n / 128 / 128))
            simp only [List.length_cons]; omega
          have := ih (n / 128) (by omega) h4
          cases hv : varB (n / 128) with
          | nil => exact absurd hv (var_ne _)
          | cons d l => rw [hv] at this; rw [List.getLast?_cons_cons]; exact this
  exact this (varVal l) (by rw [e]; exact h2) (by rw [e]; exact h0)
/-- PutVar. -/
def putVar (n : Int) : List UInt8 := if 0 ≤ n ∧ n ≤ 4611686018427387903 then varB n.toNat else []
/-- The groups in bytes from a place on that are those of a number. -/
def getVarAt (l : List UInt8) (at_ : Int) : Option (List UInt8) :=
  if 0 ≤ at_ ∧ at_ ≤ l.length then (varTake 9 (l.drop at_.toNat)).filter (fun g => putVar (varVal g) == g) else none
/-- GetVar: the number, the place behind. -/
def getVar1 (l : List UInt8) (at_ : Int) : Int := match getVarAt l at_ with | some g => varVal g | none => 0
def getVar2 (l : List UInt8) (at_ : Int) : Int := match getVarAt l at_ with | some g => at_ + g.length | none => -1

theorem varVal_snoc (l : List UInt8) (c : UInt8) : varVal (l ++ [c]) = varVal l + 2 ^ (7 * l.length) * (c.toNat % 128) := by
  induction l with
  | nil => simp [varVal]
  | cons a l ih =>
    simp only [List.cons_append, varVal, ih, List.length_cons]
    have : 2 ^ (7 * (l.length + 1)) = 128 * 2 ^ (7 * l.length) := by rw [Nat.mul_add, Nat.pow_add]; omega
    rw [this, Nat.mul_add, Nat.mul_assoc]; omega
theorem varVal_lt (l : List UInt8) : varVal l < 2 ^ (7 * l.length) := by
  induction l with
  | nil => simp [varVal]
  | cons a l ih =>
    simp only [varVal, List.length_cons]
    have : 2 ^ (7 * (l.length + 1)) = 128 * 2 ^ (7 * l.length) := by rw [Nat.mul_add, Nat.pow_add]; omega
    omega
/-- So many bytes, each of which says that there is more. -/
def More (L : List UInt8) (i : Nat) : Prop := i ≤ L.length ∧ ∀ c ∈ L.take i, 128 ≤ c.toNat
theorem More.succ {L : List UInt8} {i : Nat} {c : UInt8} (h : More L i) (hc : L[i]? = some c) (h1 : 128 ≤ c.toNat) : More L (i + 1) := by
  obtain ⟨hi, e⟩ := List.getElem?_eq_some_iff.1 hc
  refine ⟨by omega, fun d hd => ?_⟩
  rw [List.take_succ_eq_append_getElem hi, List.mem_append] at hd
  rcases hd with hd | hd
  · exact h.2 d hd
  · simp at hd; rw [hd, e]; exact h1
theorem varTake_run (i : Nat) : ∀ (k : Nat) (L : List UInt8), More L i → i ≤ k → varTake k L = (varTake (k - i) (L.drop i)).map (L.take i ++ ·) := by
  induction i with
  | zero => intro k L _ _; simp
  | succ i ih =>
    intro k L h hk
    cases L with
    | nil => have := h.1; simp at this
    | cons c L =>
      cases k with
      | zero => omega
      | succ k =>
        have hc := h.2 c (by simp)
        have hm : More L i := ⟨by have := h.1; simp at this; omega, fun d hd => h.2 d (by simp [hd])⟩
        rw [varTake, if_neg (by omega), ih k L hm (by omega)]
        have e : k + 1 - (i + 1) = k - i := by omega
        rw [e, List.drop_succ_cons, List.take_succ_cons]
        cases varTake (k - i) (L.drop i) <;> simp
theorem varTake_found {L : List UInt8} {i k : Nat} {c : UInt8} (h : More L i) (hk : i < k) (hc : L[i]? = some c) (h1 : c.toNat < 128) : varTake k L = some (L.take (i + 1)) := by
  obtain ⟨hi, e⟩ := List.getElem?_eq_some_iff.1 hc
  rw [varTake_run i k L h (by omega), List.drop_eq_getElem_cons hi, List.take_succ_eq_append_getElem hi, e]
  obtain ⟨m, hm⟩ : ∃ m, k - i = m + 1 := ⟨k - i - 1, by omega⟩
  rw [hm, varTake, if_pos h1]
  rfl
theorem varTake_ended {L : List UInt8} {i k : Nat} (h : More L i) (hk : i ≤ k) (he : L.length ≤ i ∨ i = k) : varTake k L = none := by
  rw [varTake_run i k L h hk]
  rcases he with he | he
  · rw [List.drop_of_length_le he]
    cases k - i <;> rfl
  · rw [he, Nat.sub_self]; rfl
theorem groups_run (l : List UInt8) (c : UInt8) (h : ∀ d ∈ l, 128 ≤ d.toNat) (hc : c.toNat < 128) : Groups (l ++ [c]) := by
  induction l with
  | nil => exact hc
  | cons a l ih =>
    have ih := ih (fun d hd => h d (by simp [hd]))
    have ha := h a (by simp)
    cases l with
    | nil => exact ⟨ha, hc⟩
    | cons b l => exact ⟨ha, ih⟩

theorem putVar_big {n : Nat} (h : 4611686018427387903 < n) : putVar n = [] := by unfold putVar; rw [if_neg (by omega)]
theorem putVar_in {n : Nat} (h : n ≤ 4611686018427387903) : putVar n = varB n := by unfold putVar; rw [if_pos (by omega), Int.toNat_natCast]
/-- A number was read: its groups. -/
theorem getVar_yes {l : List UInt8} {a i : Nat} {c : UInt8} (ha : a ≤ l.length) (h : More (l.drop a) i) (hk : i < 9) (hc : (l.drop a)[i]? = some c) (h1 : c.toNat < 128)
    (h2 : ¬ (c.toNat = 0 ∧ 0 < i)) (h3 : varVal ((l.drop a).take (i + 1)) ≤ 4611686018427387903) : getVarAt l a = some ((l.drop a).take (i + 1)) ∧ varB (varVal ((l.drop a).take (i + 1))) = (l.drop a).take (i + 1) := by
  obtain ⟨hi, e⟩ := List.getElem?_eq_some_iff.1 hc
  have hg : Groups ((l.drop a).take (i + 1)) := by rw [List.take_succ_eq_append_getElem hi, e]; exact groups_run _ _ h.2 h1
  have hv := (var_varVal _ hg (by
    rw [List.take_succ_eq_append_getElem hi, e]
    by_cases h0 : i = 0
    · left; subst h0; simp
    · right
      simp only [List.getLast?_append, List.getLast?_singleton, Option.some_or, ne_eq, Option.some.injEq]
      intro e2; rw [e2] at h2; exact h2 ⟨rfl, by omega⟩)).1
  refine ⟨?_, hv⟩
  unfold getVarAt
  rw [if_pos (by omega), Int.toNat_natCast, varTake_found h hk hc h1]
  have hp : putVar (varVal ((l.drop a).take (i + 1))) = (l.drop a).take (i + 1) := by rw [putVar_in h3, hv]
  simp [Option.filter, hp]
theorem getVar_bad {l : List UInt8} {a i : Nat} {c : UInt8} (ha : a ≤ l.length) (h : More (l.drop a) i) (hk : i < 9) (hc : (l.drop a)[i]? = some c) (h1 : c.toNat < 128)
    (h2 : (c.toNat = 0 ∧ 0 < i) ∨ 4611686018427387903 < varVal ((l.drop a).take (i + 1))) : getVarAt l a = none := by
  obtain ⟨hi, e⟩ := List.getElem?_eq_some_iff.1 hc
  have hg : Groups ((l.drop a).take (i + 1)) := by rw [List.take_succ_eq_append_getElem hi, e]; exact groups_run _ _ h.2 h1
  unfold getVarAt
  rw [if_pos (by omega), Int.toNat_natCast, varTake_found h hk hc h1]
  simp only [Option.filter]
  rw [if_neg]
  intro hp
  have hp : putVar (varVal ((l.drop a).take (i + 1))) = (l.drop a).take (i + 1) := by simpa using hp
  have hne : (l.drop a).take (i + 1) ≠ [] := by rw [List.take_succ_eq_append_getElem hi]; simp
  by_cases hb : 4611686018427387903 < varVal ((l.drop a).take (i + 1))
  · rw [putVar_big hb] at hp; exact hne hp.symm
  · rw [putVar_in (by omega)] at hp
    rcases h2 with ⟨h4, h5⟩ | h4
    · refine groups_zero _ hg ?_ ?_ hp
      · rw [List.length_take]; omega
      · rw [List.take_succ_eq_append_getElem hi, e]
        simp only [List.getLast?_append, List.getLast?_singleton, Option.some_or, Option.some.injEq]
        exact UInt8.toNat_inj.1 (by simpa using h4)
    · exact hb h4
theorem getVar_none {l : List UInt8} {a i : Nat} (ha : a ≤ l.length) (h : More (l.drop a) i) (hk : i ≤ 9) (he : (l.drop a).length ≤ i ∨ i = 9) : getVarAt l a = none := by
  unfold getVarAt
  rw [if_pos (by omega), Int.toNat_natCast, varTake_ended h hk he]; rfl
theorem getVar_out {l : List UInt8} {a : Int} (h : a < 0 ∨ l.length < a) : getVarAt l a = none := by unfold getVarAt; rw [if_neg (by omega)]
theorem getVar_some {l g : List UInt8} {a : Int} (h : getVarAt l a = some g) : ∃ n : Nat, a = n ∧ n ≤ l.length ∧ putVar (varVal g) = g ∧ varVal g ≤ 4611686018427387903 ∧ g.length ≤ 9 ∧ g = (l.drop n).take g.length ∧ n + g.length ≤ l.length := by
  unfold getVarAt at h
  split at h
  · rename_i hc
    obtain ⟨n, rfl⟩ := Int.eq_ofNat_of_zero_le hc.1
    rw [Int.toNat_natCast, Option.filter_eq_some_iff] at h
    obtain ⟨h1, h2⟩ := h
    have h2 : putVar (varVal g) = g := by simpa using h2
    have pre : ∀ (k : Nat) (L g : List UInt8), varTake k L = some g → g.length ≤ k ∧ g = L.take g.length ∧ g.length ≤ L.length ∧ g ≠ [] := by
      intro k
      induction k with
      | zero => intro L g h; cases h
      | succ k ih =>
        intro L g h
        cases L with
        | nil => cases h
        | cons c L =>
          rw [varTake] at h
          split at h
          · cases h; simp
          · cases hv : varTake k L with
            | none => rw [hv] at h; cases h
            | some g' =>
              rw [hv] at h
              cases h
              obtain ⟨i1, i2, i3, i4⟩ := ih L g' hv
              refine ⟨by simp; omega, ?_, by simp; omega, by simp⟩
              simp only [List.length_cons, List.take_succ_cons]
              rw [← i2]
    obtain ⟨p1, p2, p3, p4⟩ := pre _ _ _ h1
    refine ⟨n, rfl, by omega, h2, ?_, p1, p2, by rw [List.length_drop] at p3; omega⟩
    by_cases hb : varVal g ≤ 4611686018427387903
    · exact hb
    · rw [putVar_big (by omega)] at h2; exact absurd h2.symm p4
  · cases h
/-- A number's groups are read wherever they stand. -/
theorem getVar_back (n : Nat) (h : n ≤ 4611686018427387903) (l r : List UInt8) : getVarAt (l ++ (varB n ++ r)) l.length = some (varB n) := by
  have hl : (varB n).length ≤ 9 := var_len_le 8 n (by omega)
  unfold getVarAt
  rw [if_pos (by simp; omega), Int.toNat_natCast, List.drop_left, varTake_var 9 n r hl]
  have hp : putVar (varVal (varB n)) = varB n := by rw [varVal_var, putVar_in h]
  simp [Option.filter, hp]
end Go.Proofs.Ytkomnnijnggbpaa
/- Plain mathematics: a bit turned in bytes. -/
namespace Go.Proofs.Ytkomnnijnggbpaa
open Go.RowKit
set_option linter.unusedVariables false

theorem bent_len (l : List UInt8) : ∀ (m : List UInt8) (E : Nat), Bent E l m → m.length = l.length := by
  induction l with
  | nil => intro m E h; cases m with
    | nil => rfl
    | cons => cases h
  | cons a l ih => intro m E h; cases m with
    | nil => cases h
    | cons b m => simp only [List.length_cons]; rw [ih m _ h.2]
theorem bent_zero (l : List UInt8) : Bent 0 l l := by
  induction l with
  | nil => trivial
  | cons a l ih => exact ⟨by simp, by simpa using ih⟩

/-- The byte c with bit j turned. -/
def flip (c : UInt8) (j : Nat) : UInt8 := UInt8.ofNat (c.toNat ^^^ 2 ^ j)
theorem pow8 {j : Nat} (h : j < 8) : 2 ^ j < 256 := by
  have : 2 ^ j ≤ 2 ^ 7 := Nat.pow_le_pow_right (by omega) (by omega)
  omega
theorem flip_toNat (c : UInt8) (j : Nat) (h : j < 8) : (flip c j).toNat = c.toNat ^^^ 2 ^ j := by
  unfold flip
  rw [UInt8.toNat_ofNat']
  have h1 : c.toNat ^^^ 2 ^ j < 2 ^ 8 := Nat.xor_lt_two_pow c.toNat_lt (pow8 h)
  exact Nat.mod_eq_of_lt h1
theorem bent_flip (i : Nat) : ∀ (l m : List UInt8) (E j : Nat), Bent E l m → i < l.length → j < 8 → Bent (E ^^^ 2 ^ (8 * i + j)) l (m.set i (flip (m.getD i 0) j)) := by
  induction i with
  | zero =>
    intro l m E j h hi hj
    cases l with
    | nil => simp at hi
    | cons a l => cases m with
      | nil => cases h
      | cons b m =>
        have hp := pow8 hj
        refine ⟨?_, ?_⟩
        · rw [Nat.mul_zero, Nat.zero_add]
          simp only [List.getD_cons_zero]
          rw [flip_toNat _ _ hj, h.1]
          have e : (E ^^^ 2 ^ j) % 256 = E % 256 ^^^ 2 ^ j := by
            have := Nat.xor_mod_two_pow (a := E) (b := 2 ^ j) (n := 8)
            rw [show 2 ^ 8 = 256 from rfl] at this
            rw [this, Nat.mod_eq_of_lt hp]
          rw [e, Nat.xor_assoc]
        · rw [Nat.mul_zero, Nat.zero_add]
          have e : (E ^^^ 2 ^ j) / 256 = E / 256 := by
            have := Nat.xor_div_two_pow (a := E) (b := 2 ^ j) (n := 8)
            rw [show 2 ^ 8 = 256 from rfl] at this
            rw [this, Nat.div_eq_of_lt hp, Nat.xor_zero]
          rw [e]
          exact h.2
  | succ i ih =>
    intro l m E j h hi hj
    cases l with
    | nil => simp at hi
    | cons a l => cases m with
      | nil => cases h
      | cons b m =>
        have ep : 2 ^ (8 * (i + 1) + j) = 256 * 2 ^ (8 * i + j) := by rw [show 8 * (i + 1) + j = 8 + (8 * i + j) by omega, Nat.pow_add]
        have e1 : (E ^^^ 2 ^ (8 * (i + 1) + j)) % 256 = E % 256 := by
          have := Nat.xor_mod_two_pow (a := E) (b := 2 ^ (8 * (i + 1) + j)) (n := 8)
          rw [show 2 ^ 8 = 256 from rfl] at this
          rw [this, ep]
          have : 256 * 2 ^ (8 * i + j) % 256 = 0 := by omega
          rw [this, Nat.xor_zero]
        have e2 : (E ^^^ 2 ^ (8 * (i + 1) + j)) / 256 = E / 256 ^^^ 2 ^ (8 * i + j) := by
          have := Nat.xor_div_two_pow (a := E) (b := 2 ^ (8 * (i + 1) + j)) (n := 8)
          rw [show 2 ^ 8 = 256 from rfl] at this
          rw [this, ep]
          have : 256 * 2 ^ (8 * i + j) / 256 = 2 ^ (8 * i + j) := by omega
          rw [this]
        refine ⟨?_, ?_⟩
        · rw [e1]; exact h.1
        · rw [e2]
          have := ih l m (E / 256) j h.2 (by simpa using hi) hj
          simpa using this

theorem mul_xor (f a b : Nat) : 2 ^ f * (a ^^^ b) = 2 ^ f * a ^^^ 2 ^ f * b := by
  apply Nat.eq_of_testBit_eq
  intro i
  rw [Nat.testBit_xor, Nat.testBit_two_pow_mul, Nat.testBit_two_pow_mul, Nat.testBit_two_pow_mul, Nat.testBit_xor]
  by_cases h : i ≥ f <;> simp [h]
/-- One bit more of a mask. -/
theorem mask_more (f M k : Nat) (h : M / 2 ^ k % 2 = 1) : 2 ^ f * (M % 2 ^ (k + 1)) = 2 ^ f * (M % 2 ^ k) ^^^ 2 ^ (f + k) := by
  have e1 : M % 2 ^ (k + 1) = M % 2 ^ k + 2 ^ k := by
    rw [Nat.pow_succ, Nat.mod_mul, h, Nat.mul_one]
  have hl : M % 2 ^ k < 2 ^ k := Nat.mod_lt _ (Nat.pow_pos (by omega))
  have e2 : M % 2 ^ k + 2 ^ k = M % 2 ^ k ^^^ 2 ^ k := by
    apply Nat.eq_of_testBit_eq
    intro i
    have := Nat.two_pow_add_eq_or_of_lt hl 1
    rw [Nat.mul_one] at this
    rw [Nat.add_comm, this, Nat.testBit_or, Nat.testBit_xor, Nat.testBit_two_pow]
    by_cases hi : k = i
    · subst hi
      have : (M % 2 ^ k).testBit k = false := Nat.testBit_lt_two_pow hl
      simp [this]
    · simp [hi]
  rw [e1, e2, Nat.pow_add, mul_xor]
theorem mask_same (f M k : Nat) (h : M / 2 ^ k % 2 = 0) : 2 ^ f * (M % 2 ^ (k + 1)) = 2 ^ f * (M % 2 ^ k) := by
  rw [Nat.pow_succ, Nat.mod_mul, h, Nat.mul_zero, Nat.add_zero]
end Go.Proofs.Ytkomnnijnggbpaa
/- Plain mathematics of packed texts: runs, copies, tokens. -/
namespace Go.Proofs.Ytkomnnijnggbpaa
set_option linter.unusedVariables false

/-- How many bytes more stand alike, from n on. -/
def runFrom (l : List UInt8) (i far : Nat) : Nat → Nat → Nat
  | n, 0 => n
  | n, f + 1 => if i + n < l.length ∧ l[i + n]? = l[i + n - far]? then runFrom l i far (n + 1) f else n
/-- How many bytes from a place on stand as well far ahead of it, 67 at most. -/
def runLen (l : List UInt8) (i far : Nat) : Nat := runFrom l i far 0 67
/-- The best copy with Far of 1 .. f. -/
def bestTo (l : List UInt8) (i : Nat) : Nat → Nat × Nat
  | 0 => (0, 0)
  | f + 1 => if 4 ≤ runLen l i (f + 1) ∧ (bestTo l i f).1 < runLen l i (f + 1) then (runLen l i (f + 1), f + 1) else bestTo l i f
/-- The copy at a place; none has Len 0. -/
def copyAt (l : List UInt8) (i : Nat) : Nat × Nat := bestTo l i (min 255 i)

theorem runFrom_bd (l : List UInt8) (i far : Nat) : ∀ f n, n ≤ runFrom l i far n f ∧ runFrom l i far n f ≤ n + f
  | 0, n => by simp [runFrom]
  | f + 1, n => by
    rw [runFrom]
    split
    · have := runFrom_bd l i far f (n + 1); omega
    · omega
theorem runLen_le (l : List UInt8) (i far : Nat) : runLen l i far ≤ 67 := by have := runFrom_bd l i far 67 0; unfold runLen; omega
theorem runFrom_same (l : List UInt8) (i far : Nat) : ∀ f n j, n ≤ j → j < runFrom l i far n f → i + j < l.length ∧ l[i + j]? = l[i + j - far]?
  | 0, n, j, h1, h2 => by simp only [runFrom] at h2; omega
  | f + 1, n, j, h1, h2 => by
    rw [runFrom] at h2
    split at h2
    · rename_i hc
      by_cases e : j = n
      · subst e; exact hc
      · exact runFrom_same l i far f (n + 1) j (by omega) h2
    · omega
/-- The bytes of a run stand as well far ahead. -/
theorem runLen_same (l : List UInt8) (i far j : Nat) (h : j < runLen l i far) : i + j < l.length ∧ l[i + j]? = l[i + j - far]? := runFrom_same l i far 67 0 j (Nat.zero_le _) h
theorem runFrom_stop (l : List UInt8) (i far n f : Nat) (h : ¬ (i + n < l.length ∧ l[i + n]? = l[i + n - far]?)) : runFrom l i far n f = n := by
  cases f with
  | zero => rfl
  | succ f => rw [runFrom, if_neg h]

theorem bestTo_ok (l : List UInt8) (i : Nat) : ∀ f, (bestTo l i f = (0, 0)) ∨ (4 ≤ (bestTo l i f).1 ∧ 1 ≤ (bestTo l i f).2 ∧ (bestTo l i f).2 ≤ f ∧ (bestTo l i f).1 = runLen l i (bestTo l i f).2)
  | 0 => Or.inl rfl
  | f + 1 => by
    rw [bestTo]
    split
    · rename_i h
      exact Or.inr ⟨h.1, by simp, Nat.le_refl _, rfl⟩
    · rcases bestTo_ok l i f with h | ⟨h1, h2, h3, h4⟩
      · exact Or.inl h
      · exact Or.inr ⟨h1, h2, by omega, h4⟩
/-- A copy has Len of 4 .. 67 and Far of 1 .. 255, no farther than the place, and stays within the text. -/
theorem copyAt_ok (l : List UInt8) (i : Nat) (h : 0 < (copyAt l i).1) : 4 ≤ (copyAt l i).1 ∧ (copyAt l i).1 ≤ 67 ∧ 1 ≤ (copyAt l i).2 ∧ (copyAt l i).2 ≤ 255 ∧ (copyAt l i).2 ≤ i ∧ i + (copyAt l i).1 ≤ l.length ∧ (copyAt l i).1 = runLen l i (copyAt l i).2 := by
  unfold copyAt at *
  rcases bestTo_ok l i (min 255 i) with h0 | ⟨h1, h2, h3, h4⟩
  · rw [h0] at h; simp at h
  · have h5 := runLen_le l i (bestTo l i (min 255 i)).2
    have h6 := runLen_same l i (bestTo l i (min 255 i)).2 ((bestTo l i (min 255 i)).1 - 1) (by omega)
    refine ⟨h1, by omega, h2, by omega, by omega, by omega, h4⟩
theorem copyAt_none (l : List UInt8) (i : Nat) (h : ¬ 0 < (copyAt l i).1) : copyAt l i = (0, 0) := by
  unfold copyAt at *
  rcases bestTo_ok l i (min 255 i) with h0 | ⟨h1, _⟩
  · exact h0
  · omega

/-- A token: a text, or a copy. -/
structure Tok where
  text : List UInt8
  len : Nat
  far : Nat
deriving DecidableEq
/-- Bytes that were told, as a token, if there are any. -/
def flush (t : List UInt8) : List Tok := if t = [] then [] else [⟨t, 0, 0⟩]
/-- The tokens from a place on, some bytes being told already. -/
def toksFrom (l : List UInt8) (i : Nat) (t : List UInt8) : List Tok :=
  if h : i < l.length then
    if hc : 0 < (copyAt l i).1 then flush t ++ ⟨[], (copyAt l i).1, (copyAt l i).2⟩ :: toksFrom l (i + (copyAt l i).1) []
    else if t.length = 127 then ⟨t, 0, 0⟩ :: toksFrom l (i + 1) [l[i]]
    else toksFrom l (i + 1) (t ++ [l[i]])
  else flush t
termination_by l.length - i
/-- Tokens. -/
def tokens (l : List UInt8) : List Tok := if 2000 < l.length then [] else toksFrom l 0 []

/-- A token's bytes. -/
def encTok (t : Tok) : List UInt8 := if 0 < t.len then [UInt8.ofNat (124 + t.len), UInt8.ofNat t.far] else UInt8.ofNat t.text.length :: t.text
/-- Compress. -/
def compress (l : List UInt8) : List UInt8 := (tokens l).flatMap encTok

theorem flush_enc (t : List UInt8) : ((flush t).flatMap encTok).length ≤ t.length + 1 := by
  unfold flush
  split
  · simp
  · simp [encTok]
theorem enc_len (l : List UInt8) : ∀ (d i : Nat) (t : List UInt8), l.length - i ≤ d → ((toksFrom l i t).flatMap encTok).length ≤ t.length + 1 + 2 * (l.length - i) := by
  intro d
  induction d with
  | zero =>
    intro i t hd
    rw [toksFrom, dif_neg (by omega)]
    have := flush_enc t; omega
  | succ d ih =>
    intro i t hd
    rw [toksFrom]
    split
    · rename_i hi
      split
      · rename_i hc
        have hk := copyAt_ok l i hc
        have h1 := ih (i + (copyAt l i).1) [] (by omega)
        have h2 := flush_enc t
        have h3 : (encTok ⟨[], (copyAt l i).1, (copyAt l i).2⟩).length = 2 := by simp [encTok, hc]
        rw [List.flatMap_append, List.length_append, List.flatMap_cons, List.length_append, h3]
        simp only [List.length_nil] at h1
        omega
      · split
        · rename_i ht
          have h1 := ih (i + 1) [l[i]] (by omega)
          have h3 : (encTok ⟨t, 0, 0⟩).length = t.length + 1 := by simp [encTok]
          rw [List.flatMap_cons, List.length_append, h3]
          simp only [List.length_singleton] at h1
          omega
        · have h1 := ih (i + 1) (t ++ [l[i]]) (by omega)
          rw [List.length_append, List.length_singleton] at h1
          omega
    · have := flush_enc t; omega
theorem compress_len (l : List UInt8) : (compress l).length ≤ 4001 := by
  unfold compress tokens
  split
  · simp
  · have := enc_len l l.length 0 [] (by omega)
    simp only [List.length_nil] at this
    omega

/-- A token as the document wants it. -/
def TokOk (y : Tok) : Prop := (y.len = 0 ∧ y.far = 0 ∧ 1 ≤ y.text.length ∧ y.text.length ≤ 127) ∨ (y.text = [] ∧ 4 ≤ y.len ∧ y.len ≤ 67 ∧ 1 ≤ y.far ∧ y.far ≤ 255)
theorem flush_ok (t : List UInt8) (ht : t.length ≤ 127) : ∀ y ∈ flush t, TokOk y := by
  intro y hy
  unfold flush at hy
  split at hy
  · cases hy
  · rename_i hne
    simp only [List.mem_singleton] at hy
    subst hy
    exact Or.inl ⟨rfl, rfl, List.length_pos_iff.2 hne, ht⟩
theorem toks_ok (l : List UInt8) : ∀ (d i : Nat) (t : List UInt8), l.length - i ≤ d → t.length ≤ 127 → ∀ y ∈ toksFrom l i t, TokOk y := by
  intro d
  induction d with
  | zero =>
    intro i t hd ht y hy
    rw [toksFrom, dif_neg (by omega)] at hy
    exact flush_ok t ht y hy
  | succ d ih =>
    intro i t hd ht y hy
    rw [toksFrom] at hy
    split at hy
    · rename_i hi
      split at hy
      · rename_i hc
        have hk := copyAt_ok l i hc
        rcases List.mem_append.1 hy with hy | hy
        · exact flush_ok t ht y hy
        · rcases List.mem_cons.1 hy with rfl | hy
          · exact Or.inr ⟨rfl, hk.1, hk.2.1, hk.2.2.1, hk.2.2.2.1⟩
          · exact ih _ [] (by omega) (by simp) y hy
      · split at hy
        · rename_i h127
          rcases List.mem_cons.1 hy with rfl | hy
          · exact Or.inl ⟨rfl, rfl, by simp only; omega, by simp only; omega⟩
          · exact ih _ _ (by omega) (by simp) y hy
        · exact ih _ _ (by omega) (by rw [List.length_append, List.length_singleton]; omega) y hy
    · exact flush_ok t ht y hy
theorem tokens_ok (l : List UInt8) : ∀ y ∈ tokens l, TokOk y := by
  unfold tokens
  split
  · intro y hy; cases hy
  · exact toks_ok l l.length 0 [] (by omega) (by simp)

/-- So many bytes more, each as one stands far ahead. -/
def copyOut (out : List UInt8) (far : Nat) : Nat → List UInt8
  | 0 => out
  | n + 1 => copyOut out far n ++ [(copyOut out far n).getD ((copyOut out far n).length - far) 0]
theorem copyOut_len (out : List UInt8) (far n : Nat) : (copyOut out far n).length = out.length + n := by
  induction n with
  | zero => rfl
  | succ n ih => rw [copyOut, List.length_append, List.length_singleton, ih]; omega
/-- What packed bytes make, from a place on. -/
def decFrom (s : List UInt8) (i : Nat) (out : List UInt8) : Option (List UInt8) :=
  if h : i < s.length then
    if hb : 1 ≤ s[i].toNat ∧ s[i].toNat ≤ 127 then
      if i + 1 + s[i].toNat ≤ s.length then decFrom s (i + 1 + s[i].toNat) (out ++ (s.drop (i + 1)).take s[i].toNat) else none
    else if s[i].toNat = 0 ∨ s.length ≤ i + 1 ∨ (s.getD (i + 1) 0).toNat = 0 ∨ out.length < (s.getD (i + 1) 0).toNat ∨ 2000 < out.length then none
    else decFrom s (i + 2) (copyOut out (s.getD (i + 1) 0).toNat (s[i].toNat - 124))
  else some out
termination_by s.length - i
/-- Expand. -/
def expandB (s : List UInt8) : Option (List UInt8) := match decFrom s 0 [] with
  | some out => if compress out = s then some out else none
  | none => none
def expand1 (s : List UInt8) : List UInt8 := (expandB s).getD []
def expand2 (s : List UInt8) : Bool := (expandB s).isSome
end Go.Proofs.Ytkomnnijnggbpaa
/- Plain mathematics of packed texts: what is packed comes back. -/
namespace Go.Proofs.Ytkomnnijnggbpaa
set_option linter.unusedVariables false

/-- A token's bytes laid behind what is made. -/
def grow (out : List UInt8) (y : Tok) : List UInt8 := copyOut (out ++ y.text) y.far y.len
def mkAll (out : List UInt8) : List Tok → List UInt8
  | [] => out
  | y :: ys => mkAll (grow out y) ys
/-- Tokens that may stand behind what is made. -/
def Fits : List UInt8 → List Tok → Prop
  | _, [] => True
  | out, y :: ys => TokOk y ∧ (y.len = 0 ∨ y.far ≤ out.length) ∧ out.length ≤ 2000 ∧ Fits (grow out y) ys

theorem getD_take (l : List UInt8) (k j : Nat) (h : j < k) : (l.take k).getD j 0 = l.getD j 0 := by
  simp only [List.getD_eq_getElem?_getD, List.getElem?_take, if_pos h]
theorem take_more (l : List UInt8) (k : Nat) (h : k < l.length) : l.take (k + 1) = l.take k ++ [l.getD k 0] := by
  rw [List.take_add_one, List.getElem?_eq_getElem h, List.getD_eq_getElem?_getD, List.getElem?_eq_getElem h]; rfl
/-- A copy makes what stands there. -/
theorem copy_makes (l : List UInt8) (i f : Nat) (hf : 1 ≤ f) (hfi : f ≤ i) : ∀ n, n ≤ runLen l i f → i ≤ l.length → copyOut (l.take i) f n = l.take (i + n)
  | 0, _, _ => rfl
  | n + 1, h, hi => by
    have hs := runLen_same l i f n (by omega)
    have ih := copy_makes l i f hf hfi n (by omega) hi
    have hl : (l.take (i + n)).length = i + n := by rw [List.length_take]; omega
    rw [copyOut, ih, hl, getD_take _ _ _ (by omega), show i + (n + 1) = i + n + 1 by omega, take_more l (i + n) hs.1]
    simp only [List.getD_eq_getElem?_getD, hs.2]

theorem grow_text (out t : List UInt8) : grow out ⟨t, 0, 0⟩ = out ++ t := rfl
theorem fits_flush (out t : List UInt8) (ys : List Tok) (ht : t.length ≤ 127) (ho : out.length ≤ 2000) (h : Fits (out ++ t) ys) : Fits out (flush t ++ ys) ∧ mkAll out (flush t ++ ys) = mkAll (out ++ t) ys := by
  unfold flush
  split
  · rename_i e
    subst e
    simp at *
    exact h
  · rename_i e
    refine ⟨⟨Or.inl ⟨rfl, rfl, List.length_pos_iff.2 e, ht⟩, Or.inl rfl, ho, h⟩, rfl⟩
/-- Tokens make the text again. -/
theorem toks_make (l : List UInt8) (hl : l.length ≤ 2000) : ∀ (d i : Nat) (t out : List UInt8), l.length - i ≤ d → i ≤ l.length → t.length ≤ 127 → out ++ t = l.take i → Fits out (toksFrom l i t) ∧ mkAll out (toksFrom l i t) = l := by
  intro d
  induction d with
  | zero =>
    intro i t out hd hi ht ho
    have hlen := congrArg List.length ho
    simp only [List.length_append, List.length_take] at hlen
    rw [toksFrom, dif_neg (by omega)]
    have h := fits_flush out t [] ht (by omega) trivial
    rw [List.append_nil] at h
    refine ⟨h.1, h.2.trans ?_⟩
    rw [ho, show i = l.length by omega]
    exact List.take_length
  | succ d ih =>
    intro i t out hd hi ht ho
    have hlen := congrArg List.length ho
    simp only [List.length_append, List.length_take] at hlen
    rw [toksFrom]
    split
    · rename_i hil
      split
      · rename_i hc
        have hk := copyAt_ok l i hc
        have hm := copy_makes l i (copyAt l i).2 hk.2.2.1 hk.2.2.2.2.1 (copyAt l i).1 (Nat.le_of_eq hk.2.2.2.2.2.2) hi
        have h1 := ih (i + (copyAt l i).1) [] (l.take (i + (copyAt l i).1)) (by omega) hk.2.2.2.2.2.1 (by simp) (by simp)
        have hg : grow (out ++ t) ⟨[], (copyAt l i).1, (copyAt l i).2⟩ = l.take (i + (copyAt l i).1) := by
          unfold grow; rw [List.append_nil, ho]; exact hm
        have h2 := fits_flush out t (⟨[], (copyAt l i).1, (copyAt l i).2⟩ :: toksFrom l (i + (copyAt l i).1) []) ht (by omega) ⟨Or.inr ⟨rfl, hk.1, hk.2.1, hk.2.2.1, hk.2.2.2.1⟩, Or.inr (by rw [ho, List.length_take]; simp only; omega), by rw [ho, List.length_take]; omega, by rw [hg]; exact h1.1⟩
        refine ⟨h2.1, h2.2.trans ?_⟩
        rw [mkAll, hg]
        exact h1.2
      · have hone : l.take (i + 1) = l.take i ++ [l[i]] := by rw [take_more l i hil, List.getD_eq_getElem?_getD, List.getElem?_eq_getElem hil]; rfl
        split
        · rename_i h127
          have h1 := ih (i + 1) [l[i]] (l.take i) (by omega) (by omega) (by simp) hone.symm
          rw [← ho] at h1
          exact ⟨⟨Or.inl ⟨rfl, rfl, by simp only; omega, ht⟩, Or.inl rfl, by omega, h1.1⟩, h1.2⟩
        · exact ih (i + 1) (t ++ [l[i]]) out (by omega) (by omega) (by rw [List.length_append, List.length_singleton]; omega) (by rw [← List.append_assoc, ho, hone])
    · have h := fits_flush out t [] ht (by omega) trivial
      rw [List.append_nil] at h
      refine ⟨h.1, h.2.trans ?_⟩
      rw [ho, show i = l.length by omega]
      exact List.take_length
theorem tokens_make (l : List UInt8) (hl : l.length ≤ 2000) : Fits [] (tokens l) ∧ mkAll [] (tokens l) = l := by
  unfold tokens
  rw [if_neg (by omega)]
  exact toks_make l hl l.length 0 [] [] (by omega) (by omega) (by simp) (by simp)

theorem ofNat_small {n : Nat} (h : n < 256) : (UInt8.ofNat n).toNat = n := by simp [UInt8.toNat_ofNat']; omega
/-- One token is read back. -/
theorem dec_tok (pre suf out : List UInt8) (y : Tok) (hy : TokOk y) (hf : y.len = 0 ∨ y.far ≤ out.length) (ho : out.length ≤ 2000) : decFrom (pre ++ (encTok y ++ suf)) pre.length out = decFrom (pre ++ (encTok y ++ suf)) (pre.length + (encTok y).length) (grow out y) := by
  rcases hy with ⟨h1, h2, h3, h4⟩ | ⟨h1, h2, h3, h4, h5⟩
  · obtain ⟨t, n, f⟩ := y
    simp only at h1 h2 h3 h4
    subst h1 h2
    have e : encTok ⟨t, 0, 0⟩ = UInt8.ofNat t.length :: t := by simp [encTok]
    rw [e]
    have hlt : pre.length < (pre ++ (UInt8.ofNat t.length :: t ++ suf)).length := by simp
    have hb : (pre ++ (UInt8.ofNat t.length :: t ++ suf))[pre.length].toNat = t.length := by
      rw [List.getElem_append_right (Nat.le_refl _)]
      simp only [Nat.sub_self, List.cons_append, List.getElem_cons_zero]
      exact ofNat_small (by omega)
    rw [decFrom, dif_pos hlt, dif_pos (by rw [hb]; omega), if_pos (by rw [hb]; simp; omega)]
    rw [hb]
    congr 1
    · simp; omega
    · rw [grow_text]
      congr 1
      rw [List.drop_append, List.drop_eq_nil_of_le (show pre.length ≤ pre.length + 1 by omega)]
      simp
  · obtain ⟨t, n, f⟩ := y
    simp only at h1 h2 h3 h4 h5 hf
    subst h1
    have e : encTok ⟨[], n, f⟩ = [UInt8.ofNat (124 + n), UInt8.ofNat f] := by simp [encTok]; omega
    rw [e]
    have hlt : pre.length < (pre ++ ([UInt8.ofNat (124 + n), UInt8.ofNat f] ++ suf)).length := by simp
    have hb : (pre ++ ([UInt8.ofNat (124 + n), UInt8.ofNat f] ++ suf))[pre.length].toNat = 124 + n := by
      rw [List.getElem_append_right (Nat.le_refl _)]
      simp only [Nat.sub_self, List.cons_append, List.getElem_cons_zero]
      exact ofNat_small (by omega)
    have hb2 : ((pre ++ ([UInt8.ofNat (124 + n), UInt8.ofNat f] ++ suf)).getD (pre.length + 1) 0).toNat = f := by
      rw [List.getD_eq_getElem?_getD, List.getElem?_append_right (by omega), show pre.length + 1 - pre.length = 1 by omega]
      simp only [List.cons_append, List.getElem?_cons_succ, List.getElem?_cons_zero, Option.getD_some]
      exact ofNat_small (by omega)
    rw [decFrom, dif_pos hlt, dif_neg (by rw [hb]; omega), if_neg (by rw [hb, hb2]; simp; omega), hb, hb2]
    rw [show 124 + n - 124 = n by omega]
    unfold grow
    simp
/-- Tokens are read back. -/
theorem dec_toks (suf : List UInt8) : ∀ (ys : List Tok) (pre out : List UInt8), Fits out ys → decFrom (pre ++ (ys.flatMap encTok ++ suf)) pre.length out = decFrom (pre ++ (ys.flatMap encTok ++ suf)) (pre.length + (ys.flatMap encTok).length) (mkAll out ys)
  | [], pre, out, _ => by simp [mkAll]
  | y :: ys, pre, out, h => by
    obtain ⟨h1, h2, h3, h4⟩ := h
    have ih := dec_toks suf ys (pre ++ encTok y) (grow out y) h4
    have e : pre ++ ((y :: ys).flatMap encTok ++ suf) = pre ++ (encTok y ++ (ys.flatMap encTok ++ suf)) := by simp
    rw [e, dec_tok pre _ out y h1 h2 h3]
    rw [List.append_assoc, List.length_append] at ih
    rw [ih, mkAll]
    congr 1
    simp; omega
/-- What is packed comes back. -/
theorem dec_compress (l : List UInt8) (hl : l.length ≤ 2000) : decFrom (compress l) 0 [] = some l := by
  obtain ⟨h1, h2⟩ := tokens_make l hl
  have h := dec_toks [] (tokens l) [] [] h1
  simp only [List.nil_append, List.append_nil, List.length_nil, Nat.zero_add] at h
  unfold compress
  rw [h, h2, decFrom, dif_neg (by omega)]
theorem expand_compress (l : List UInt8) (hl : l.length ≤ 2000) : expand1 (compress l) = l ∧ expand2 (compress l) = true := by
  unfold expand1 expand2 expandB
  rw [dec_compress l hl]
  simp
/-- A zero behind it: read as no text. -/
theorem expand_more (l : List UInt8) (hl : l.length ≤ 2000) : expand2 (compress l ++ [0]) = false := by
  obtain ⟨h1, h2⟩ := tokens_make l hl
  have h := dec_toks [0] (tokens l) [] [] h1
  simp only [List.nil_append, List.length_nil, Nat.zero_add] at h
  have hn : decFrom (compress l ++ [0]) 0 [] = none := by
    unfold compress
    have hlt : ((tokens l).flatMap encTok).length < ((tokens l).flatMap encTok ++ [0]).length := by simp
    have hb : ((tokens l).flatMap encTok ++ [0])[((tokens l).flatMap encTok).length] = 0 := by rw [List.getElem_append_right (Nat.le_refl _)]; simp
    rw [h, decFrom, dif_pos hlt, dif_neg (by rw [hb]; decide), if_pos (Or.inl (by rw [hb]; rfl))]
  unfold expand2 expandB
  rw [hn]
  rfl
theorem encTok_len (y : Tok) : 1 ≤ (encTok y).length := by unfold encTok; split <;> simp
/-- A token that is cut is read as none. -/
theorem dec_tok_cut (pre out : List UInt8) (y : Tok) (hy : TokOk y) : decFrom (pre ++ (encTok y).dropLast) pre.length out = none ∨ (encTok y).dropLast = [] := by
  rcases hy with ⟨h1, h2, h3, h4⟩ | ⟨h1, h2, h3, h4, h5⟩
  · obtain ⟨t, n, f⟩ := y
    simp only at h1 h2 h3 h4
    subst h1 h2
    left
    obtain ⟨t', b, rfl⟩ : ∃ t' b, t = t' ++ [b] := ⟨t.dropLast, t.getLast (by intro h; rw [h] at h3; simp at h3), (List.dropLast_concat_getLast _).symm⟩
    have e : (encTok ⟨t' ++ [b], 0, 0⟩).dropLast = UInt8.ofNat (t'.length + 1) :: t' := by
      have : encTok ⟨t' ++ [b], 0, 0⟩ = (UInt8.ofNat (t'.length + 1) :: t') ++ [b] := by simp [encTok]
      rw [this, List.dropLast_concat]
    rw [List.length_append, List.length_singleton] at h3 h4
    rw [e]
    have hlt : pre.length < (pre ++ (UInt8.ofNat (t'.length + 1) :: t')).length := by simp
    have hb : (pre ++ (UInt8.ofNat (t'.length + 1) :: t'))[pre.length].toNat = t'.length + 1 := by
      rw [List.getElem_append_right (Nat.le_refl _)]
      simp only [Nat.sub_self, List.getElem_cons_zero]
      exact ofNat_small (by omega)
    rw [decFrom, dif_pos hlt, dif_pos (by rw [hb]; omega), if_neg (by rw [hb]; simp)]
  · obtain ⟨t, n, f⟩ := y
    simp only at h1 h2 h3 h4 h5
    subst h1
    left
    have e : (encTok ⟨[], n, f⟩).dropLast = [UInt8.ofNat (124 + n)] := by
      have : encTok ⟨[], n, f⟩ = [UInt8.ofNat (124 + n), UInt8.ofNat f] := by simp [encTok]; omega
      rw [this]; rfl
    rw [e]
    have hlt : pre.length < (pre ++ [UInt8.ofNat (124 + n)]).length := by simp
    have hb : (pre ++ [UInt8.ofNat (124 + n)])[pre.length].toNat = 124 + n := by
      rw [List.getElem_append_right (Nat.le_refl _)]
      simp only [Nat.sub_self, List.getElem_cons_zero]
      exact ofNat_small (by omega)
    rw [decFrom, dif_pos hlt, dif_neg (by rw [hb]; omega), if_pos (Or.inr (Or.inl (by simp)))]
theorem enc_two (y : Tok) (hy : TokOk y) : 2 ≤ (encTok y).length := by
  rcases hy with ⟨h1, h2, h3, h4⟩ | ⟨h1, h2, h3, h4, h5⟩
  · unfold encTok; rw [if_neg (by omega)]; simp only [List.length_cons]; omega
  · unfold encTok; rw [if_pos (by omega)]; simp
theorem dec_less : ∀ (ys : List Tok) (pre out : List UInt8), ys ≠ [] → Fits out ys → decFrom (pre ++ (ys.flatMap encTok).dropLast) pre.length out = none
  | [], _, _, h, _ => absurd rfl h
  | [y], pre, out, _, h => by
    have h2 := enc_two y h.1
    have e : ([y] : List Tok).flatMap encTok = encTok y := by simp
    rw [e]
    rcases dec_tok_cut pre out y h.1 with h3 | h3
    · exact h3
    · have := congrArg List.length h3
      rw [List.length_dropLast] at this
      simp at this
      omega
  | y :: z :: ys, pre, out, _, h => by
    obtain ⟨h1, h2, h3, h4⟩ := h
    have ih := dec_less (z :: ys) (pre ++ encTok y) (grow out y) (by simp) h4
    have hz := enc_two z h4.1
    have hne : (z :: ys).flatMap encTok ≠ [] := by
      intro h
      have := congrArg List.length h
      rw [List.flatMap_cons, List.length_append, List.length_nil] at this
      omega
    rw [List.flatMap_cons, List.dropLast_append_of_ne_nil hne, dec_tok pre _ out y h1 h2 h3]
    rw [List.append_assoc, List.length_append] at ih
    exact ih
/-- The last byte struck: read as no text. -/
theorem expand_less (l : List UInt8) (hl : l.length ≤ 2000) (h0 : l ≠ []) : expand2 ((compress l).dropLast) = false := by
  obtain ⟨h1, h2⟩ := tokens_make l hl
  have hne : tokens l ≠ [] := by intro h; rw [h] at h2; exact h0 h2.symm
  have hn := dec_less (tokens l) [] [] hne h1
  simp only [List.nil_append, List.length_nil] at hn
  unfold expand2 expandB compress
  rw [hn]
  rfl
/-- What is read is no longer than a text may be, and is packed so. -/
theorem expand_ok (s : List UInt8) (h : expand2 s = true) : compress (expand1 s) = s ∧ (expand1 s).length ≤ 2000 := by
  unfold expand2 expandB at h
  unfold expand1 expandB
  cases hd : decFrom s 0 [] with
  | none => rw [hd] at h; cases h
  | some out =>
    rw [hd] at h
    by_cases hc : compress out = s
    · simp only [if_pos hc, Option.getD_some]
      refine ⟨hc, ?_⟩
      by_cases hl : out.length ≤ 2000
      · exact hl
      · have : compress out = [] := by unfold compress tokens; rw [if_pos (by omega)]; rfl
        rw [hc] at this
        subst this
        rw [decFrom, dif_neg (by simp)] at hd
        cases hd
        simp
    · simp [if_neg hc] at h
theorem expand_no (s : List UInt8) (h : expand2 s = false) : expand1 s = [] := by
  unfold expand2 at h
  unfold expand1
  cases hd : expandB s with
  | none => rfl
  | some out => rw [hd] at h; cases h
theorem flush_len (t : List UInt8) : ((flush t).flatMap encTok).length = if t = [] then 0 else t.length + 1 := by
  unfold flush
  split
  · rfl
  · simp [encTok]
/-- What is packed is hardly longer than it was. -/
theorem toks_len (l : List UInt8) : ∀ (d i : Nat) (t : List UInt8), l.length - i ≤ d → t.length ≤ 127 → ((toksFrom l i t).flatMap encTok).length ≤ (l.length - i + t.length) + 1 + (l.length - i + t.length) / 127 := by
  intro d
  induction d with
  | zero =>
    intro i t hd ht
    rw [toksFrom, dif_neg (by omega), flush_len]
    split <;> omega
  | succ d ih =>
    intro i t hd ht
    rw [toksFrom]
    split
    · rename_i hi
      split
      · rename_i hc
        have hk := copyAt_ok l i hc
        have h1 := ih (i + (copyAt l i).1) [] (by omega) (by simp)
        have h3 : (encTok ⟨[], (copyAt l i).1, (copyAt l i).2⟩).length = 2 := by simp [encTok, hc]
        rw [List.flatMap_append, List.length_append, List.flatMap_cons, List.length_append, h3, flush_len]
        simp only [List.length_nil] at h1
        split
        · rename_i e; subst e; simp only [List.length_nil] at *; omega
        · omega
      · split
        · rename_i h127
          have h1 := ih (i + 1) [l[i]] (by omega) (by simp)
          have h3 : (encTok ⟨t, 0, 0⟩).length = t.length + 1 := by simp [encTok]
          rw [List.flatMap_cons, List.length_append, h3]
          simp only [List.length_singleton] at h1
          omega
        · have h1 := ih (i + 1) (t ++ [l[i]]) (by omega) (by rw [List.length_append, List.length_singleton]; omega)
          rw [List.length_append, List.length_singleton] at h1
          omega
    · rw [flush_len]
      split <;> omega
theorem compress_hardly (l : List UInt8) : (compress l).length ≤ l.length + 1 + l.length / 5 + l.length / 127 := by
  unfold compress tokens
  split
  · simp
  · have := toks_len l l.length 0 [] (by omega) (by simp)
    simp only [List.length_nil] at this
    omega

/-- A byte that stands nowhere ahead is told. -/
theorem run_none (l : List UInt8) (i far : Nat) (h : l[i]? ≠ l[i - far]?) : runLen l i far = 0 := by
  unfold runLen
  exact runFrom_stop l i far 0 67 (fun hc => h (by simpa using hc.2))
theorem best_none (l : List UInt8) (i : Nat) : ∀ f, f ≤ i → (∀ g, 1 ≤ g → g ≤ f → runLen l i g < 4) → bestTo l i f = (0, 0)
  | 0, _, _ => rfl
  | f + 1, hf, h => by
    rw [bestTo, if_neg (by have := h (f + 1) (by omega) (by omega); omega)]
    exact best_none l i f (by omega) (fun g h1 h2 => h g h1 (by omega))
theorem copy_none (l : List UInt8) (i : Nat) (h : ∀ j, j < i → l[i]? ≠ l[j]?) : copyAt l i = (0, 0) := by
  unfold copyAt
  exact best_none l i _ (by omega) (fun g h1 h2 => by rw [run_none l i g (h (i - g) (by omega))]; decide)
/-- The best copy of those up to a Far stays, where none farther is longer. -/
theorem best_stays (l : List UInt8) (i f : Nat) : ∀ d, (∀ g, f < g → g ≤ f + d → runLen l i g ≤ (bestTo l i f).1) → bestTo l i (f + d) = bestTo l i f
  | 0, _ => rfl
  | d + 1, h => by
    have ih := best_stays l i f d (fun g h1 h2 => h g h1 (by omega))
    rw [show f + (d + 1) = f + d + 1 by omega, bestTo, ih, if_neg (by have := h (f + d + 1) (by omega) (by omega); omega)]
theorem best_is (l : List UInt8) (i f m n : Nat) (hf : 1 ≤ f) (hm : f ≤ m) (hn : 4 ≤ n) (h1 : ∀ g, 1 ≤ g → g < f → runLen l i g < n) (h2 : runLen l i f = n) (h3 : ∀ g, f < g → g ≤ m → runLen l i g ≤ n) : bestTo l i m = (n, f) := by
  obtain ⟨e, rfl⟩ : ∃ e, f = e + 1 := ⟨f - 1, by omega⟩
  have hb : (bestTo l i e).1 < n := by
    rcases bestTo_ok l i e with h | ⟨_, h5, h6, h7⟩
    · rw [h]; simp only; omega
    · rw [h7]; exact h1 _ h5 (by omega)
  have h0 : bestTo l i (e + 1) = (n, e + 1) := by rw [bestTo, h2, if_pos ⟨hn, hb⟩]
  obtain ⟨d, rfl⟩ : ∃ d, m = e + 1 + d := ⟨m - (e + 1), by omega⟩
  rw [best_stays l i (e + 1) d (fun g h4 h5 => by rw [h0]; exact h3 g h4 h5), h0]
/-- A run, as long as may be. -/
theorem runFrom_all (l : List UInt8) (i far : Nat) : ∀ f n m, n ≤ m → m ≤ n + f → (∀ j, n ≤ j → j < m → i + j < l.length ∧ l[i + j]? = l[i + j - far]?) → (m = n + f ∨ ¬ (i + m < l.length ∧ l[i + m]? = l[i + m - far]?)) → runFrom l i far n f = m
  | 0, n, m, h1, h2, _, _ => by simp only [runFrom]; omega
  | f + 1, n, m, h1, h2, h3, h4 => by
    by_cases e : n = m
    · subst e
      rcases h4 with h4 | h4
      · omega
      · exact runFrom_stop l i far n (f + 1) h4
    · rw [runFrom, if_pos (h3 n (Nat.le_refl _) (by omega))]
      exact runFrom_all l i far f (n + 1) m (by omega) (by omega) (fun j h5 h6 => h3 j (by omega) h6) (by rcases h4 with h4 | h4; exact Or.inl (by omega); exact Or.inr h4)
theorem runLen_is (l : List UInt8) (i far m : Nat) (hm : m ≤ 67) (h : ∀ j, j < m → i + j < l.length ∧ l[i + j]? = l[i + j - far]?) (he : m = 67 ∨ i + m = l.length ∨ l[i + m]? ≠ l[i + m - far]?) : runLen l i far = m := by
  unfold runLen
  refine runFrom_all l i far 67 0 m (by omega) (by omega) (fun j _ hj => h j hj) ?_
  rcases he with h | h | h
  · exact Or.inl (by omega)
  · exact Or.inr (by omega)
  · exact Or.inr (fun hc => h hc.2)
theorem runLen_end (l : List UInt8) (i far : Nat) (hi : i ≤ l.length) : runLen l i far ≤ l.length - i := by
  cases h : runLen l i far with
  | zero => omega
  | succ n => have := (runLen_same l i far n (by omega)).1; omega
/-- Bytes that stand nowhere ahead are told, one behind the other. -/
theorem toks_told (l : List UInt8) (m : Nat) (hm : m ≤ 127) (hml : m ≤ l.length) (h : ∀ i, i < m → copyAt l i = (0, 0)) : ∀ d i, m - i = d → i ≤ m → toksFrom l i (l.take i) = toksFrom l m (l.take m)
  | 0, i, hd, hi => by rw [show i = m by omega]
  | d + 1, i, hd, hi => by
    have hil : i < l.length := by omega
    have hone : l.take (i + 1) = l.take i ++ [l[i]] := by rw [take_more l i hil, List.getD_eq_getElem?_getD, List.getElem?_eq_getElem hil]; rfl
    rw [toksFrom, dif_pos hil, dif_neg (by rw [h i (by omega)]; decide), if_neg (by rw [List.length_take]; omega), ← hone]
    exact toks_told l m hm hml h d (i + 1) (by omega) (by omega)
end Go.Proofs.Ytkomnnijnggbpaa
/- Plain mathematics of the program's way to pack: where four bytes stood last, told bytes cut at 127, what is read token by token. -/
namespace Go.Proofs.Ytkomnnijnggbpaa
set_option linter.unusedVariables false

theorem runFrom_ends (l : List UInt8) (i far : Nat) : ∀ f n, runFrom l i far n f = n + f ∨ ¬ (i + runFrom l i far n f < l.length ∧ l[i + runFrom l i far n f]? = l[i + runFrom l i far n f - far]?)
  | 0, n => Or.inl rfl
  | f + 1, n => by
    rw [runFrom]
    split
    · rename_i h
      rcases runFrom_ends l i far f (n + 1) with h1 | h1
      · left; omega
      · exact Or.inr h1
    · rename_i h
      exact Or.inr h
theorem runLen_in (l : List UInt8) (i far : Nat) (hi : i ≤ l.length) : i + runLen l i far ≤ l.length := by
  by_cases h : runLen l i far = 0
  · omega
  · have := (runLen_same l i far (runLen l i far - 1) (by omega)).1
    omega
/-- How far a text begins alike with what stands far ahead of it. -/
theorem shared_run (l : List UInt8) (i far : Nat) (h1 : 1 ≤ far) (hf : far ≤ i) (hi : i ≤ l.length) : shared (l.drop (i - far)) ((l.drop i).take 67) = runLen l i far := by
  have h67 := runLen_le l i far
  have hin := runLen_in l i far hi
  refine shared_eq _ _ _ (by rw [List.length_drop]; omega) (by rw [List.length_take, List.length_drop]; omega) (fun j hj => ?_) ?_
  · have h := (runLen_same l i far j hj).2
    rw [List.getElem?_drop, List.getElem?_take, if_pos (by omega), List.getElem?_drop, h]
    congr 1
    omega
  · rcases runFrom_ends l i far 67 0 with h | h
    · right; left
      rw [List.length_take, List.length_drop]
      have : runLen l i far = 67 := by unfold runLen; omega
      omega
    · change ¬ (i + runLen l i far < l.length ∧ l[i + runLen l i far]? = l[i + runLen l i far - far]?) at h
      by_cases h2 : i + runLen l i far < l.length
      · right
        by_cases h3 : runLen l i far = 67
        · left
          rw [List.length_take, List.length_drop]; omega
        · right
          rw [List.getElem?_drop, List.getElem?_take, if_pos (by omega), List.getElem?_drop]
          intro e
          apply h
          refine ⟨h2, ?_⟩
          rw [← e]
          congr 1
          omega
      · right; left
        rw [List.length_take, List.length_drop]; omega

/-- Four bytes from a place on. -/
def four (l : List UInt8) (p : Nat) : List UInt8 := (l.drop p).take 4
theorem run_four (l : List UInt8) (i far : Nat) (hf : far ≤ i) (h : 4 ≤ runLen l i far) : four l (i - far) = four l i := by
  unfold four
  apply List.ext_getElem?
  intro j
  rw [List.getElem?_take, List.getElem?_take]
  split
  · have h2 := (runLen_same l i far j (by omega)).2
    rw [List.getElem?_drop, List.getElem?_drop, h2]
    congr 1
    omega
  · rfl
theorem best_nil (l : List UInt8) (i : Nat) : ∀ f, (∀ g, 1 ≤ g → g ≤ f → runLen l i g < 4) → bestTo l i f = (0, 0)
  | 0, _ => rfl
  | f + 1, h => by
    rw [bestTo, if_neg (fun hc => by have := h (f + 1) (by omega) (by omega); omega)]
    exact best_nil l i f (fun g h1 h2 => h g h1 (by omega))
/-- Behind the nearest place of the same four bytes no copy begins. -/
theorem best_near (l : List UInt8) (i f : Nat) (hf : f ≤ i) (h : ∀ p, i - f ≤ p → p < i → four l p ≠ four l i) : bestTo l i f = (0, 0) := by
  refine best_nil l i f (fun g h1 h2 => ?_)
  by_cases h4 : 4 ≤ runLen l i g
  · exact absurd (run_four l i g (by omega) h4) (h (i - g) (by omega) (by omega))
  · omega
theorem copy_end (l : List UInt8) (i : Nat) (hi : i ≤ l.length) (h : l.length < i + 4) : ¬ 0 < (copyAt l i).1 := by
  intro hc
  have := copyAt_ok l i hc
  omega
/-- Nothing longer than what is left, or than 67. -/
theorem best_full (l : List UInt8) (i : Nat) (hi : i ≤ l.length) (f : Nat) (h : (bestTo l i f).1 = min 67 (l.length - i)) : ∀ d, bestTo l i (f + d) = bestTo l i f
  | 0 => rfl
  | d + 1 => by
    have ih := best_full l i hi f h d
    have h67 := runLen_le l i (f + d + 1)
    have hin := runLen_in l i (f + d + 1) hi
    rw [← Nat.add_assoc, bestTo, ih, if_neg (fun hc => by omega)]

/-- Told bytes, cut at 127. -/
def chunks (t : List UInt8) : List Tok := if h : t.length ≤ 127 then flush t else ⟨t.take 127, 0, 0⟩ :: chunks (t.drop 127)
termination_by t.length
decreasing_by rw [List.length_drop]; omega
theorem chunks_few {t : List UInt8} (h : t.length ≤ 127) : chunks t = flush t := by rw [chunks, dif_pos h]
theorem chunks_more {t : List UInt8} (h : ¬ t.length ≤ 127) : chunks t = ⟨t.take 127, 0, 0⟩ :: chunks (t.drop 127) := by rw [chunks, dif_neg h]
theorem chunks_len : ∀ (n : Nat) (t : List UInt8), t.length ≤ n → (chunks t).length ≤ t.length
  | 0, t, h => by rw [chunks_few (by omega)]; unfold flush; split <;> simp_all
  | n + 1, t, h => by
    by_cases h1 : t.length ≤ 127
    · rw [chunks_few h1]; unfold flush; split
      · simp
      · rename_i h2; have := List.length_pos_iff.2 h2; simp; omega
    · rw [chunks_more h1]
      have := chunks_len n (t.drop 127) (by rw [List.length_drop]; omega)
      rw [List.length_drop] at this
      rw [List.length_cons]; omega
/-- Where no copy begins bytes are told. -/
theorem toks_chunks (l : List UInt8) (rest : List Tok) (j : Nat) (hj : j ≤ l.length) (hend : ∀ t, toksFrom l j t = flush t ++ rest) : ∀ (d i : Nat) (t : List UInt8), j - i ≤ d → i ≤ j → t.length ≤ 127 → (∀ p, i ≤ p → p < j → ¬ 0 < (copyAt l p).1) → toksFrom l i t = chunks (t ++ (l.drop i).take (j - i)) ++ rest := by
  intro d
  induction d with
  | zero =>
    intro i t hd hi ht hn
    obtain rfl : i = j := by omega
    rw [hend, show i - i = 0 by omega, List.take_zero, List.append_nil, chunks_few ht]
  | succ d ih =>
    intro i t hd hi ht hn
    by_cases e : i = j
    · subst e
      rw [hend, show i - i = 0 by omega, List.take_zero, List.append_nil, chunks_few ht]
    · have hil : i < l.length := by omega
      have hnc := hn i (Nat.le_refl _) (by omega)
      have hd1 : (l.drop i).take (j - i) = l[i] :: (l.drop (i + 1)).take (j - (i + 1)) := by
        rw [List.drop_eq_getElem_cons hil, show j - i = (j - (i + 1)) + 1 by omega, List.take_succ_cons]
      rw [toksFrom, dif_pos hil, dif_neg hnc]
      split
      · rename_i h127
        rw [ih (i + 1) [l[i]] (by omega) (by omega) (by simp) (fun p h1 h2 => hn p (by omega) h2), hd1]
        rw [chunks_more (t := t ++ l[i] :: (l.drop (i + 1)).take (j - (i + 1))) (by rw [List.length_append, List.length_cons]; omega)]
        have e1 : ∀ x : List UInt8, (t ++ x).take 127 = t := fun x => by rw [← h127]; exact List.take_left ..
        have e2 : ∀ x : List UInt8, (t ++ x).drop 127 = x := fun x => by rw [← h127]; exact List.drop_left ..
        rw [e1, e2]
        rfl
      · rename_i h127
        rw [ih (i + 1) (t ++ [l[i]]) (by omega) (by omega) (by rw [List.length_append, List.length_singleton]; omega) (fun p h1 h2 => hn p (by omega) h2), hd1, List.append_assoc]
        rfl
theorem toks_copied (l : List UInt8) (i j : Nat) (hi : i ≤ j) (hj : j < l.length) (hn : ∀ p, i ≤ p → p < j → ¬ 0 < (copyAt l p).1) (hc : 0 < (copyAt l j).1) : toksFrom l i [] = chunks ((l.drop i).take (j - i)) ++ (⟨[], (copyAt l j).1, (copyAt l j).2⟩ :: toksFrom l (j + (copyAt l j).1) []) := by
  have := toks_chunks l (⟨[], (copyAt l j).1, (copyAt l j).2⟩ :: toksFrom l (j + (copyAt l j).1) []) j (by omega) (fun t => by rw [toksFrom, dif_pos hj, dif_pos hc]) (j - i) i [] (by omega) hi (by simp) hn
  simpa using this
theorem toks_left (l : List UInt8) (i : Nat) (hi : i ≤ l.length) (hn : ∀ p, i ≤ p → p < l.length → ¬ 0 < (copyAt l p).1) : toksFrom l i [] = chunks (l.drop i) := by
  have := toks_chunks l [] l.length (Nat.le_refl _) (fun t => by rw [toksFrom, dif_neg (by omega)]; simp) (l.length - i) i [] (by omega) hi (by simp) hn
  rw [List.append_nil, List.nil_append, List.take_of_length_le (by rw [List.length_drop]; omega)] at this
  exact this
end Go.Proofs.Ytkomnnijnggbpaa
/- Plain mathematics of reading token by token, as the program does. -/
namespace Go.Proofs.Ytkomnnijnggbpaa
set_option linter.unusedVariables false

/-- A token read at a place, and the place behind it. -/
def readTok (l : List UInt8) (a : Nat) : Option (Tok × Nat) :=
  if (l.getD a 0).toNat = 0 ∨ 191 < (l.getD a 0).toNat then none
  else if (l.getD a 0).toNat ≤ 127 then
    if a + 1 + (l.getD a 0).toNat ≤ l.length then some (⟨(l.drop (a + 1)).take (l.getD a 0).toNat, 0, 0⟩, a + 1 + (l.getD a 0).toNat) else none
  else if a + 1 < l.length ∧ (l.getD (a + 1) 0).toNat ≠ 0 then some (⟨[], (l.getD a 0).toNat - 124, (l.getD (a + 1) 0).toNat⟩, a + 2) else none


theorem getD_lt (l : List UInt8) (a : Nat) (h : (l.getD a 0).toNat ≠ 0) : a < l.length := by
  by_cases hl : a < l.length
  · exact hl
  · exact absurd (by rw [List.getD_eq_getElem?_getD, List.getElem?_eq_none (by omega)]; rfl) h
theorem readTok_ok {l : List UInt8} {a b : Nat} {y : Tok} (h : readTok l a = some (y, b)) : TokOk y ∧ a < b ∧ b ≤ l.length := by
  unfold readTok at h
  split at h
  · cases h
  · rename_i h0
    have hl := getD_lt l a (fun e => h0 (.inl e))
    split at h
    · rename_i h127
      split at h
      · rename_i hf
        cases h
        refine ⟨.inl ⟨rfl, rfl, ?_, ?_⟩, by omega, hf⟩ <;> (simp only; rw [List.length_take, List.length_drop]; omega)
      · cases h
    · rename_i h127
      split at h
      · rename_i hf
        cases h
        have := (l.getD (a + 1) 0).toNat_lt
        exact ⟨.inr ⟨rfl, by simp only; omega, by simp only; omega, by simp only; omega, by simp only; omega⟩, by omega, by omega⟩
      · cases h
theorem getD_drop (l : List UInt8) (a : Nat) (c : UInt8) (r : List UInt8) (h : l.drop a = c :: r) : l.getD a 0 = c ∧ a < l.length ∧ l.drop (a + 1) = r := by
  have hl : a < l.length := by
    by_cases hl : a < l.length
    · exact hl
    · rw [List.drop_eq_nil_of_le (by omega)] at h; cases h
  rw [List.drop_eq_getElem_cons hl] at h
  cases h
  exact ⟨by rw [List.getD_eq_getElem?_getD, List.getElem?_eq_getElem hl]; rfl, hl, rfl⟩
/-- A token's bytes are read as that token. -/
theorem read_enc (l : List UInt8) (a : Nat) (y : Tok) (r : List UInt8) (hy : TokOk y) (h : l.drop a = encTok y ++ r) : readTok l a = some (y, a + (encTok y).length) ∧ l.drop (a + (encTok y).length) = r := by
  have hd : l.drop (a + (encTok y).length) = r := by rw [← List.drop_drop, h]; exact List.drop_left ..
  refine ⟨?_, hd⟩
  rcases hy with ⟨h1, h2, h3, h4⟩ | ⟨h1, h2, h3, h4, h5⟩
  · obtain ⟨t, n, f⟩ := y
    simp only at h1 h2 h3 h4
    subst h1 h2
    have e : encTok ⟨t, 0, 0⟩ = UInt8.ofNat t.length :: t := by simp [encTok]
    rw [e] at h ⊢
    obtain ⟨g1, g2, g3⟩ := getD_drop l a _ (t ++ r) h
    have g4 : (l.getD a 0).toNat = t.length := by rw [g1]; exact ofNat_small (by omega)
    have g5 : a + 1 + t.length ≤ l.length := by
      have := congrArg List.length g3
      rw [List.length_drop, List.length_append] at this
      omega
    unfold readTok
    rw [g4, if_neg (by omega), if_pos h4, if_pos g5, g3]
    rw [List.take_left]
    simp only [List.length_cons]
    rw [show a + 1 + t.length = a + (t.length + 1) by omega]
  · obtain ⟨t, n, f⟩ := y
    simp only at h1 h2 h3 h4 h5
    subst h1
    have e : encTok ⟨[], n, f⟩ = [UInt8.ofNat (124 + n), UInt8.ofNat f] := by simp [encTok]; omega
    rw [e] at h ⊢
    obtain ⟨g1, g2, g3⟩ := getD_drop l a _ _ h
    obtain ⟨k1, k2, k3⟩ := getD_drop l (a + 1) _ _ g3
    have g4 : (l.getD a 0).toNat = 124 + n := by rw [g1]; exact ofNat_small (by omega)
    have k4 : (l.getD (a + 1) 0).toNat = f := by rw [k1]; exact ofNat_small (by omega)
    unfold readTok
    rw [g4, if_neg (by omega), if_neg (by omega), k4, if_pos ⟨k2, by omega⟩]
    simp

/-- A text of which these are the packed bytes. -/
def Packs (l x : List UInt8) : Prop := x.length ≤ 2000 ∧ compress x = l
/-- What is left to read makes, behind what is made, any text of which these are the packed bytes. -/
def TokLeft (l : List UInt8) (a : Nat) (out : List UInt8) : Prop := ∀ x, Packs l x → ∃ ys, l.drop a = ys.flatMap encTok ∧ Fits out ys ∧ mkAll out ys = x
theorem left_new (l : List UInt8) : TokLeft l 0 [] := by
  rintro x ⟨h1, rfl⟩
  exact ⟨tokens x, rfl, tokens_make x h1⟩
theorem left_step {l out : List UInt8} {a : Nat} (h : TokLeft l a out) (ha : a < l.length) (x : List UInt8) (hx : Packs l x) : ∃ y ys, readTok l a = some (y, a + (encTok y).length) ∧ l.drop (a + (encTok y).length) = ys.flatMap encTok ∧ Fits out (y :: ys) ∧ mkAll out (y :: ys) = x := by
  obtain ⟨ys, h1, h2, h3⟩ := h x hx
  cases ys with
  | nil =>
    have := congrArg List.length h1
    rw [List.length_drop] at this
    simp at this
    omega
  | cons y ys =>
    rw [List.flatMap_cons] at h1
    obtain ⟨k1, k2⟩ := read_enc l a y _ h2.1 h1
    exact ⟨y, ys, k1, k2, h2, h3⟩
theorem left_none {l out : List UInt8} {a : Nat} (h : TokLeft l a out) (ha : a < l.length) (hr : readTok l a = none) (x : List UInt8) : ¬ Packs l x := by
  intro hx
  obtain ⟨y, ys, h1, _⟩ := left_step h ha x hx
  rw [hr] at h1
  cases h1
theorem left_far {l out : List UInt8} {a b : Nat} {y : Tok} (h : TokLeft l a out) (ha : a < l.length) (hr : readTok l a = some (y, b)) (hf : out.length < y.far) (x : List UInt8) : ¬ Packs l x := by
  intro hx
  obtain ⟨y', ys, h1, _, h2, _⟩ := left_step h ha x hx
  rw [hr] at h1
  cases h1
  obtain ⟨k1, k2, _⟩ := h2
  rcases k1 with ⟨_, k, _⟩ | ⟨_, k, _⟩ <;> omega
theorem left_next {l out : List UInt8} {a b : Nat} {y : Tok} (h : TokLeft l a out) (ha : a < l.length) (hr : readTok l a = some (y, b)) : TokLeft l b (grow out y) := by
  intro x hx
  obtain ⟨y', ys, h1, h2, h3, h4⟩ := left_step h ha x hx
  rw [hr] at h1
  cases h1
  exact ⟨ys, h2, h3.2.2.2, h4⟩
theorem grow_len (out : List UInt8) (y : Tok) : (grow out y).length = out.length + y.text.length + y.len := by unfold grow; rw [copyOut_len, List.length_append]
theorem mkAll_ge : ∀ (ys : List Tok) (out : List UInt8), out.length ≤ (mkAll out ys).length
  | [], out => Nat.le_refl _
  | y :: ys, out => by
    have h1 := mkAll_ge ys (grow out y)
    have h2 := grow_len out y
    rw [mkAll]; omega
theorem left_long {l out : List UInt8} {a : Nat} (h : TokLeft l a out) (hl : 2000 < out.length) (x : List UInt8) : ¬ Packs l x := by
  intro hx
  obtain ⟨ys, _, _, h3⟩ := h x hx
  have h1 := mkAll_ge ys out
  rw [h3] at h1
  have := hx.1
  omega
theorem left_end {l out : List UInt8} {a : Nat} (h : TokLeft l a out) (ha : ¬ a < l.length) (x : List UInt8) (hx : Packs l x) : out = x := by
  obtain ⟨ys, h1, h2, h3⟩ := h x hx
  cases ys with
  | nil => exact h3
  | cons y ys =>
    have h4 := congrArg List.length h1
    have h5 := encTok_len y
    rw [List.length_drop, List.flatMap_cons, List.length_append] at h4
    omega
/-- Expand by what is packed of which text. -/
theorem expand_yes {l x : List UInt8} (h : Packs l x) : expand1 l = x ∧ expand2 l = true := by
  obtain ⟨h1, rfl⟩ := h
  exact expand_compress x h1
theorem expand_not {l : List UInt8} (h : ∀ x, ¬ Packs l x) : expand1 l = [] ∧ expand2 l = false := by
  have h2 : expand2 l = false := by
    cases he : expand2 l
    · rfl
    · have := expand_ok l he
      exact absurd ⟨this.2, this.1⟩ (h _)
  exact ⟨expand_no l h2, h2⟩
end Go.Proofs.Ytkomnnijnggbpaa
/- Texts under a name. -/
namespace Go.Proofs.Ytkomnnijnggbpaa
open Go.RowKit
set_option linter.unusedVariables false

/-- This very text; nothing that lay there has turned. -/
def Same (w : World) (A : ByteArray) (e : Ending) (w' : World) : Prop := e = .returned (.string A) ∧ Below w.heap.size w w'
theorem as_text {A : ByteArray} {l : List UInt8} (h : A.data.toList = l) : (⟨l.toArray⟩ : ByteArray) = A := bytes_ext (by rw [h])
theorem text_of (l : List UInt8) : ∃ A : ByteArray, A.data.toList = l ∧ A.size = l.length := ⟨⟨l.toArray⟩, rfl, by simp [ByteArray.size]⟩
theorem same_beq (A : ByteArray) : (A.toList == A.toList) = true := by simp
theorem other_beq {A B : ByteArray} (h : A.data.toList ≠ B.data.toList) : (A.toList == B.toList) = false := by rw [ByteArray.toList_eq, ByteArray.toList_eq]; simpa using h
end Go.Proofs.Ytkomnnijnggbpaa
/- The model's draws, as plain functions, and what a cursor is in memory. -/
namespace Go.Proofs.Ytkomnnijnggbpaa
open Go.RowKit
set_option linter.unusedVariables false

/-- The next number of a draw. -/
def lcg (h : Int) : Int := wrap64 (wrap64 (h * 6364136223846793005) + 1442695040888963407)
/-- Eight bits of it. -/
def mix (h : Int) : Int := bits .and .i64 (bits .xor .i64 (h / 8589934592) (h / 35184372088832)) 255
/-- A byte that is drawn, and the cursor behind it. -/
def gByte (len : Nat) (zs : List Int) (i : Nat) (h : Int) : Int := if i < len then bits .and .i64 (mix (lcg h) + zs.getD i 0) 255 else mix (lcg h)
def gNext (len : Nat) (i : Nat) : Nat := if i < len then i + 1 else i

theorem and255 (x : Int) : bits .and .i64 x 255 = x % 256 := by
  show IntKind.i64.wrap ((BitVec.ofInt 64 x &&& BitVec.ofInt 64 255).toNat : Int) = _
  rw [BitVec.toNat_and]
  have e : (BitVec.ofInt 64 255).toNat = 2 ^ 8 - 1 := by decide
  rw [e, Nat.and_two_pow_sub_one_eq_mod, IntKind.wrap_i64]
  have : ((BitVec.ofInt 64 x).toNat : Int) = x % 18446744073709551616 := by
    rw [BitVec.toNat_ofInt]; simp; omega
  omega

theorem mix_bd (h : Int) : 0 ≤ mix h ∧ mix h ≤ 255 := by unfold mix; rw [and255]; omega
theorem gByte_bd (len : Nat) (zs : List Int) (i : Nat) (h : Int) : 0 ≤ gByte len zs i h ∧ gByte len zs i h ≤ 255 := by
  unfold gByte
  split
  · rw [and255]; omega
  · exact mix_bd _
theorem gNext_le {len i : Nat} (h : i ≤ len) : gNext len i ≤ len := by unfold gNext; split <;> omega
theorem lcg_bd (h : Int) : -9223372036854775808 ≤ lcg h ∧ lcg h ≤ 9223372036854775807 := by unfold lcg wrap64; omega

/-- A row of bytes that can be read, away from block p. -/
def Bytes (w : World) (p : Nat) (a : Option Addr) (len : Nat) (zs : List Int) : Prop :=
  len ≤ maxLen ∧ ∀ k, k < len → ∃ b off, a = some ⟨b, off, none⟩ ∧ b < w.heap.size ∧ b ≠ p ∧ w.cell? ⟨b, off + k, none⟩ = some (.int .u8 (zs.getD k 0)) ∧ 0 ≤ zs.getD k 0 ∧ zs.getD k 0 ≤ 255

/-- A cursor at block p, over a row of bytes. -/
structure CurAt (w : World) (T p : Nat) (a : Option Addr) (len cap : Nat) (zs : List Int) (i : Nat) (h : Int) : Prop where
  block : w.heap[p]? = some (.cells #[.slice a len cap, .int .i64 i, .int .i64 h] T (0, 0))
  bytes : Bytes w p a len zs
  le : i ≤ len

theorem Bytes.kept {w w' : World} {p len : Nat} {a : Option Addr} {zs : List Int} (h : Bytes w p a len zs) (hg : w.grownBy w' (some p)) : Bytes w' p a len zs := by
  refine ⟨h.1, fun k hk => ?_⟩
  obtain ⟨b, off, ha, hb, hne, hc, hr⟩ := h.2 k hk
  exact ⟨b, off, ha, Nat.lt_of_lt_of_le hb hg.size, hne, (World.cell?_of_block (w := w) (hg.block b hb (by simpa using hne))).trans hc, hr⟩

theorem CurAt.lt {w : World} {T p : Nat} {a : Option Addr} {len cap : Nat} {zs : List Int} {i : Nat} {h : Int} (c : CurAt w T p a len cap zs i h) : p < w.heap.size := (Array.getElem?_eq_some_iff.1 c.block).1

theorem CurAt.cells {w : World} {T p : Nat} {a : Option Addr} {len cap : Nat} {zs : List Int} {i : Nat} {h : Int} (c : CurAt w T p a len cap zs i h) :
    w.cell? ⟨p, 0, none⟩ = some (.slice a len cap) ∧ w.cell? ⟨p, 1, none⟩ = some (.int .i64 i) ∧ w.cell? ⟨p, 2, none⟩ = some (.int .i64 h) ∧ w.frozen? ⟨p, 1, none⟩ = false ∧ w.frozen? ⟨p, 2, none⟩ = false := by
  have hb := c.block
  refine ⟨?_, ?_, ?_, ?_, ?_⟩ <;> simp [World.cell?, World.frozen?, hb]



/-- The cursor moved on: its number alone. -/
theorem CurAt.seth {w : World} {T p : Nat} {a : Option Addr} {len cap : Nat} {zs : List Int} {i : Nat} {h : Int} (c : CurAt w T p a len cap zs i h) (h' : Int) : CurAt (w.setCell ⟨p, 2, none⟩ (.int .i64 h')) T p a len cap zs i h' := by
  refine ⟨?_, c.bytes.kept (grown_set _ _ _ _), c.le⟩
  rw [set_block _ c.block]
  rfl
/-- Its place. -/
theorem CurAt.seti {w : World} {T p : Nat} {a : Option Addr} {len cap : Nat} {zs : List Int} {i : Nat} {h : Int} (c : CurAt w T p a len cap zs i h) (hi : i < len) (v : Value) (hv : v = .int .i64 (i + 1 : Nat)) : CurAt (w.setCell ⟨p, 1, none⟩ v) T p a len cap zs (i + 1) h := by
  subst hv
  refine ⟨?_, c.bytes.kept (grown_set _ _ _ _), hi⟩
  rw [set_block _ c.block]
  rfl
theorem CurAt.drewN {w : World} {T p : Nat} {a : Option Addr} {len cap : Nat} {zs : List Int} {i : Nat} {h : Int} (c : CurAt w T p a len cap zs i h) (n : Nat) : CurAt (w.drewN n) T p a len cap zs i h :=
  ⟨c.block, c.bytes.kept (grown_drewN _ _ _), c.le⟩
/-- Whatever keeps the cursor's block and the blocks of its bytes. -/
theorem CurAt.kept {w w' : World} {T p : Nat} {a : Option Addr} {len cap : Nat} {zs : List Int} {i : Nat} {h : Int} {row : Option Nat} (c : CurAt w T p a len cap zs i h) (hg : w.grownBy w' row) (hp : some p ≠ row) (ha : ∀ x, a = some x → some x.block ≠ row ∨ len = 0) : CurAt w' T p a len cap zs i h := by
  refine ⟨(hg.block p c.lt hp).trans c.block, ⟨c.bytes.1, fun k hk => ?_⟩, c.le⟩
  obtain ⟨b, off, hab, hb, hne, hc, hr⟩ := c.bytes.2 k hk
  have hrow : some b ≠ row := by
    rcases ha _ hab with h | h
    · exact h
    · omega
  exact ⟨b, off, hab, Nat.lt_of_lt_of_le hb hg.size, hne, (World.cell?_of_block (w := w) (hg.block b hb hrow)).trans hc, hr⟩




theorem bytes_of_row {w : World} {a : Option Addr} {len cap : Nat} {zs : List Int} (h : IsRow .u8 w a len cap zs) (p : Nat) (hp : w.heap.size ≤ p) : Bytes w p a len zs := by
  rcases h with ⟨rfl, rfl, rfl, rfl⟩ | ⟨x, rfl, hl, hm, hz, hc, hw⟩
  · exact ⟨by unfold maxLen; omega, fun k hk => by omega⟩
  · refine ⟨by omega, fun k hk => ?_⟩
    obtain ⟨b, off, spot⟩ := x
    have h0 := hc 0 (by omega)
    have hs : spot = none := by simpa [Addr.add] using World.cell?_spot h0
    subst hs
    have hk' := hc k (by omega)
    have e : (⟨b, off, none⟩ : Addr).add k = ⟨b, off + k, none⟩ := by
      unfold Addr.add; split
      · subst_vars; rfl
      · rfl
    rw [e] at hk'
    have hb := cell_lt hk'
    have hmem : zs.getD k 0 ∈ zs := by rw [List.getD_eq_getElem?_getD, List.getElem?_eq_getElem (by omega)]; exact List.getElem_mem _
    exact ⟨b, off, rfl, hb, by simp only at hb; omega, hk', wf_u8 (hw _ hmem)⟩

theorem cur_new {w : World} {a : Option Addr} {len cap T : Nat} {zs : List Int} {h : Int} (hr : Bytes w w.heap.size a len zs) :
    CurAt (w.alloc (.cells #[.slice a len cap, .int .i64 0, .int .i64 h] T)) T w.heap.size a len cap zs 0 h := by
  refine ⟨?_, ⟨hr.1, fun k hk => ?_⟩, Nat.zero_le _⟩
  · show (w.heap.push _)[w.heap.size]? = _
    rw [Array.getElem?_push, if_pos rfl]; rfl
  · obtain ⟨b, off, ha, hb, hne, hc, hr2⟩ := hr.2 k hk
    exact ⟨b, off, ha, by simp; omega, hne, (World.cell?_of_block (w := w) (Below.heap_alloc _ _ _ hb)).trans hc, hr2⟩
end Go.Proofs.Ytkomnnijnggbpaa
/- What stays where new blocks are made; a number of 64 bits. -/
namespace Go.Proofs.Ytkomnnijnggbpaa
open Go.RowKit
set_option linter.unusedVariables false

/-- A number of 64 bits. -/
def I64 (x : Int) : Prop := -9223372036854775808 ≤ x ∧ x ≤ 9223372036854775807

/-- A number of 64 bits that is drawn by a code. -/
def IntOf (w : World) (e : Ending) (w' : World) : Prop := ∃ x : Int, I64 x ∧ e = .returned (.int .i64 x) ∧ Below w.heap.size w w'
/-- A short text that is drawn by a code. -/
def TextOf (w : World) (e : Ending) (w' : World) : Prop := ∃ s : ByteArray, s.size ≤ 1000 ∧ e = .returned (.string s) ∧ Below w.heap.size w w'

theorem grown_of_below {w w' : World} (h : Below w.heap.size w w') : w.grownBy w' none := ⟨h.os, h.tape, h.output, h.size, fun j hj _ => h.block j hj⟩
theorem CurAt.below {w w' : World} {T p : Nat} {a : Option Addr} {len cap : Nat} {zs : List Int} {i : Nat} {h : Int} (c : CurAt w T p a len cap zs i h) (hb : Below w.heap.size w w') : CurAt w' T p a len cap zs i h :=
  c.kept (grown_of_below hb) (by simp) (fun _ _ => Or.inl (by simp))
theorem CurAt.new {w : World} {T p : Nat} {a : Option Addr} {len cap : Nat} {zs : List Int} {i : Nat} {h : Int} (c : CurAt w T p a len cap zs i h) (o : Obj) : CurAt (w.alloc o) T p a len cap zs i h := c.kept (World.grownBy_alloc _ _ none) (by simp) (fun _ _ => Or.inl (by simp))
theorem below_bytes {w w1 : World} {a : Option Addr} {len : Nat} {zs : List Int} (hr : Bytes w w.heap.size a len zs) (hb : Below w.heap.size w w1) : Bytes w1 w1.heap.size a len zs := by
  refine ⟨hr.1, fun k hk => ?_⟩
  obtain ⟨b, off, ha, hlt, hne, hc, hr2⟩ := hr.2 k hk
  have := hb.size
  exact ⟨b, off, ha, by omega, by omega, (hb.cell (p := ⟨b, off + k, none⟩) hlt).trans hc, hr2⟩
end Go.Proofs.Ytkomnnijnggbpaa
