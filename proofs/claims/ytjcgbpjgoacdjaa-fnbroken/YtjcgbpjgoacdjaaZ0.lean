/- Plain mathematics of sums of 32 bits: one step turns linearly, nothing but nought goes to nought; some bits in a row that were turned are told. -/
import Derived.WalkKit
import Derived.WalkSpells
import Derived.WalkLawsBesides
import Derived.Deep.QuietTactic
import Derived.BigQuiet
import Derived.Lib.Hide
import Derived.Maps.AppendAt
import Derived.Test.YtjcgbpjgoacdjaaProg
import Derived.Laws.BytesArg
import Derived.RangeFuncBox
import Derived.Lib.AppendStr
import Derived.Laws.BitsAllLaws
import Derived.RangeFuncNested
import Derived.Deep.RegionHeld3
import Derived.Laws.Rows
import Derived.Laws.MakeOwn
import Derived.Laws.AppendOwn
namespace Go.Proofs.Ytjcgbpjgoacdjaa
set_option linter.unusedVariables false

def poly : Nat := 2197175160
def stp (x : Nat) : Nat := (x / 2) ^^^ (if x % 2 = 1 then poly else 0)
def stN : Nat → Nat → Nat
 | 0, x => x
 | n + 1, x => stN n (stp x)

theorem st_xor (x y : Nat) : stp (x ^^^ y) = stp x ^^^ stp y := by
 unfold stp
 have h1 : (x ^^^ y) / 2 = x / 2 ^^^ y / 2 := by
   have := Nat.xor_div_two_pow (a := x) (b := y) (n := 1); simpa using this
 have h2 : (x ^^^ y) % 2 = (x % 2) ^^^ (y % 2) := by
   have := Nat.xor_mod_two_pow (a := x) (b := y) (n := 1); simpa using this
 rw [h1, h2]
 have ax : x % 2 = 0 ∨ x % 2 = 1 := by omega
 have ay : y % 2 = 0 ∨ y % 2 = 1 := by omega
 rcases ax with ax | ax <;> rcases ay with ay | ay <;> simp [ax, ay]
 · exact Nat.xor_assoc _ _ _
 · rw [Nat.xor_assoc, Nat.xor_comm (y / 2), ← Nat.xor_assoc]
 · rw [Nat.xor_comm (y / 2) poly, ← Nat.xor_assoc, Nat.xor_assoc (x / 2), Nat.xor_self, Nat.xor_zero]

theorem stN_xor (n : Nat) : ∀ x y, stN n (x ^^^ y) = stN n x ^^^ stN n y := by
 induction n with
 | zero => intro x y; rfl
 | succ n ih => intro x y; simp only [stN]; rw [st_xor, ih]

theorem st_two (z : Nat) : stp (2 * z) = z := by
 unfold stp
 have h1 : 2 * z / 2 = z := by omega
 have h2 : 2 * z % 2 = 0 := by omega
 rw [h1, h2]; simp

theorem stN_pow (n : Nat) : ∀ z, stN n (2 ^ n * z) = z := by
 induction n with
 | zero => intro z; simp [stN]
 | succ n ih =>
   intro z
   simp only [stN]
   have : 2 ^ (n + 1) * z = 2 * (2 ^ n * z) := by rw [Nat.pow_succ]; rw [Nat.mul_comm (2 ^ n) 2, Nat.mul_assoc]
   rw [this, st_two, ih]

theorem stN_add (m n : Nat) : ∀ x, stN (m + n) x = stN n (stN m x) := by
 induction m with
 | zero => intro x; simp [stN]
 | succ m ih => intro x; rw [Nat.succ_add]; simp only [stN]; exact ih _

theorem st_lt {x : Nat} (h : x < 4294967296) : stp x < 4294967296 := by
 unfold stp
 have : (x / 2) ^^^ (if x % 2 = 1 then poly else 0) < 2 ^ 32 := by
   apply Nat.xor_lt_two_pow
   · omega
   · split <;> simp [poly]
 exact this

theorem stN_lt (n : Nat) : ∀ {x : Nat}, x < 4294967296 → stN n x < 4294967296 := by
 induction n with
 | zero => intro x h; exact h
 | succ n ih => intro x h; exact ih (st_lt h)

theorem xor_eq_zero {a b : Nat} (h : a ^^^ b = 0) : a = b := by
 have : a ^^^ b ^^^ b = 0 ^^^ b := by rw [h]
 rw [Nat.xor_assoc, Nat.xor_self, Nat.xor_zero, Nat.zero_xor] at this
 exact this

theorem st_ne {x : Nat} (h : x < 4294967296) (h0 : x ≠ 0) : stp x ≠ 0 := by
 unfold stp
 intro e
 have := xor_eq_zero e
 split at this
 · unfold poly at this; omega
 · omega

theorem stN_ne (n : Nat) : ∀ {x : Nat}, x < 4294967296 → x ≠ 0 → stN n x ≠ 0 := by
 induction n with
 | zero => intro x h h0; exact h0
 | succ n ih => intro x h h0; exact ih (st_lt h) (st_ne h h0)

theorem split_bits (n x : Nat) : x = (x % 2 ^ n) ^^^ (2 ^ n * (x / 2 ^ n)) := by
 apply Nat.eq_of_testBit_eq
 intro i
 rw [Nat.testBit_xor, Nat.testBit_mod_two_pow, Nat.testBit_two_pow_mul, Nat.testBit_div_two_pow]
 by_cases h : i < n
 · have : ¬ i ≥ n := by omega
   simp [h, this]
 · have h' : n ≤ i := by omega
   have e : i - n + n = i := by omega
   simp [h, h', e]

theorem stN_split (n x : Nat) : stN n x = stN n (x % 2 ^ n) ^^^ x / 2 ^ n := by
 have h := split_bits n x
 have e := congrArg (stN n) h
 rw [stN_xor, stN_pow] at e
 exact e

def crcB (x : Nat) (c : UInt8) : Nat := stN 8 (x ^^^ c.toNat)
theorem crcB_table (x : Nat) (c : UInt8) : crcB x c = x / 256 ^^^ stN 8 ((x % 256) ^^^ c.toNat) := by
 unfold crcB
 rw [stN_split 8]
 have hc := c.toNat_lt
 have e1 : (x ^^^ c.toNat) % 2 ^ 8 = (x % 256) ^^^ c.toNat := by
   rw [Nat.xor_mod_two_pow]
   congr 1
   exact Nat.mod_eq_of_lt (by simpa using hc)
 have e2 : (x ^^^ c.toNat) / 2 ^ 8 = x / 256 := by
   rw [Nat.xor_div_two_pow]
   have : c.toNat / 2 ^ 8 = 0 := Nat.div_eq_of_lt (by simpa using hc)
   rw [this, Nat.xor_zero]
 rw [e1, e2, Nat.xor_comm]

theorem crcB_lt {x : Nat} {c : UInt8} (h : x < 4294967296) : crcB x c < 4294967296 := by
 unfold crcB
 apply stN_lt
 have hc := c.toNat_lt
 have : x ^^^ c.toNat < 2 ^ 32 := Nat.xor_lt_two_pow h (by omega)
 exact this

def crcF (x : Nat) (l : List UInt8) : Nat := l.foldl crcB x
theorem crcF_lt (l : List UInt8) : ∀ {x : Nat}, x < 4294967296 → crcF x l < 4294967296 := by
 induction l with
 | nil => intro x h; exact h
 | cons c l ih => intro x h; exact ih (crcB_lt h)
theorem crcF_snoc (x : Nat) (l : List UInt8) (c : UInt8) : crcF x (l ++ [c]) = crcB (crcF x l) c := by simp [crcF]

def crc (l : List UInt8) : Nat := 4294967295 - crcF 4294967295 l
theorem crc_lt (l : List UInt8) : crc l < 4294967296 := by unfold crc; omega
theorem crc_inj {l m : List UInt8} (h : crc l = crc m) : crcF 4294967295 l = crcF 4294967295 m := by
 have h1 := crcF_lt l (x := 4294967295) (by omega)
 have h2 := crcF_lt m (x := 4294967295) (by omega)
 unfold crc at h
 omega

def Bent (E : Nat) : List UInt8 → List UInt8 → Prop
 | [], [] => True
 | a :: l, b :: m => b.toNat = a.toNat ^^^ (E % 256) ∧ Bent (E / 256) l m
 | _, _ => False

theorem bent_sum (l : List UInt8) : ∀ (m : List UInt8) (E d x : Nat), Bent E l m →
   ∃ d', crcF (x ^^^ d) m = crcF x l ^^^ d' ∧ d' ^^^ E / 2 ^ (8 * l.length) = stN (8 * l.length) (d ^^^ E) := by
 induction l with
 | nil =>
   intro m E d x h
   cases m with
   | nil => exact ⟨d, rfl, by simp [stN]⟩
   | cons => cases h
 | cons a l ih =>
   intro m E d x h
   cases m with
   | nil => cases h
   | cons b m =>
     obtain ⟨h1, h2⟩ := h
     have e : crcB (x ^^^ d) b = crcB x a ^^^ stN 8 (d ^^^ E % 256) := by
       unfold crcB
       rw [h1, ← stN_xor]
       congr 1
       ac_rfl
     obtain ⟨d', h3, h4⟩ := ih m (E / 256) (stN 8 (d ^^^ E % 256)) (crcB x a) h2
     refine ⟨d', ?_, ?_⟩
     · simp only [crcF, List.foldl_cons] at h3 ⊢
       rw [e]; exact h3
     · have p1 : E / 2 ^ (8 * (a :: l).length) = E / 256 / 2 ^ (8 * l.length) := by
         rw [Nat.div_div_eq_div_mul]
         congr 1
         rw [List.length_cons, Nat.mul_add, Nat.pow_add, Nat.mul_comm]
       rw [p1, h4]
       have p2 : 8 * (a :: l).length = 8 + 8 * l.length := by rw [List.length_cons]; omega
       rw [p2, stN_add]
       congr 1
       have := stN_split 8 E
       rw [stN_xor, stN_xor, this, Nat.xor_assoc]

theorem bent_told (l m : List UInt8) (f k : Nat) (h : Bent (2 ^ f * k) l m) (hf : f ≤ 8 * l.length) (h0 : k % 2 ^ (8 * l.length - f) ≠ 0) (hk : k < 4294967296) : crc m ≠ crc l := by
 intro e
 have e1 := crc_inj e
 obtain ⟨d', h1, h2⟩ := bent_sum l m _ 0 4294967295 h
 rw [Nat.xor_zero] at h1
 rw [Nat.zero_xor] at h2
 have hd : d' = 0 := by
   rw [h1] at e1
   have : crcF 4294967295 l ^^^ (crcF 4294967295 l ^^^ d') = crcF 4294967295 l ^^^ crcF 4294967295 l := by rw [e1]
   rw [← Nat.xor_assoc, Nat.xor_self, Nat.zero_xor] at this
   exact this
 rw [hd, Nat.zero_xor, stN_split] at h2
 have h3 : stN (8 * l.length) ((2 ^ f * k) % 2 ^ (8 * l.length)) = 0 := by
   have : ∀ a b : Nat, b = a ^^^ b → a = 0 := by
     intro a b h
     have h' : b ^^^ b = a ^^^ b ^^^ b := by rw [← h]
     rw [Nat.xor_assoc, Nat.xor_self, Nat.xor_zero] at h'
     exact h'.symm
   exact this _ _ h2
 have p : 2 ^ (8 * l.length) = 2 ^ f * 2 ^ (8 * l.length - f) := by rw [← Nat.pow_add]; congr 1; omega
 rw [p, Nat.mul_mod_mul_left] at h3
 have q : 8 * l.length = f + (8 * l.length - f) := by omega
 rw [q, stN_add, stN_pow] at h3
 have e2 : f + (8 * l.length - f) - f = 8 * l.length - f := by omega
 rw [e2] at h3
 exact stN_ne _ (Nat.lt_of_le_of_lt (Nat.mod_le _ _) hk) h0 h3
end Go.Proofs.Ytjcgbpjgoacdjaa
/- Plain mathematics of numbers in bytes. -/
namespace Go.Proofs.Ytjcgbpjgoacdjaa
set_option linter.unusedVariables false

def fixB (n k : Nat) : List UInt8 := (List.range k).map fun i => UInt8.ofNat (n / 2 ^ (8 * i))
theorem fix_length (n k : Nat) : (fixB n k).length = k := by simp [fixB]
theorem fix_succ (n k : Nat) : fixB n (k + 1) = fixB n k ++ [UInt8.ofNat (n / 2 ^ (8 * k))] := by simp [fixB, List.range_succ]
def fixVal : List UInt8 → Nat
 | [] => 0
 | c :: l => c.toNat + 256 * fixVal l
theorem fixVal_snoc (l : List UInt8) (c : UInt8) : fixVal (l ++ [c]) = fixVal l + 2 ^ (8 * l.length) * c.toNat := by
 induction l with
 | nil => simp [fixVal]
 | cons a l ih =>
   simp only [List.cons_append, fixVal, ih, List.length_cons]
   have : 2 ^ (8 * (l.length + 1)) = 256 * 2 ^ (8 * l.length) := by rw [Nat.mul_add, Nat.pow_add]; omega
   rw [this, Nat.mul_add, Nat.mul_assoc]; omega
theorem fixVal_lt (l : List UInt8) : fixVal l < 2 ^ (8 * l.length) := by
 induction l with
 | nil => simp [fixVal]
 | cons a l ih =>
   simp only [fixVal, List.length_cons]
   have : 2 ^ (8 * (l.length + 1)) = 256 * 2 ^ (8 * l.length) := by rw [Nat.mul_add, Nat.pow_add]; omega
   have ha := a.toNat_lt
   omega
theorem fixVal_fix (n k : Nat) : fixVal (fixB n k) = n % 2 ^ (8 * k) := by
 induction k with
 | zero => simp [fixB, fixVal, Nat.mod_one]
 | succ k ih =>
   rw [fix_succ, fixVal_snoc, ih, fix_length]
   have e : 2 ^ (8 * (k + 1)) = 2 ^ (8 * k) * 256 := by rw [Nat.mul_add, Nat.pow_add]
   rw [e, Nat.mod_mul]
   simp
theorem fix_cons (n k : Nat) : fixB n (k + 1) = UInt8.ofNat n :: fixB (n / 256) k := by
 unfold fixB
 rw [List.range_succ_eq_map]
 simp only [List.map_cons, List.map_map, Nat.mul_zero, Nat.pow_zero, Nat.div_one]
 congr 1
 apply List.map_congr_left
 intro i hi
 simp only [Function.comp]
 congr 1
 rw [Nat.div_div_eq_div_mul]
 congr 1
 rw [Nat.succ_eq_add_one, Nat.mul_add, Nat.pow_add]; omega
theorem fix_inj {n m k : Nat} (h : fixB n k = fixB m k) : n % 2 ^ (8 * k) = m % 2 ^ (8 * k) := by rw [← fixVal_fix, ← fixVal_fix, h]

def putFix (n b : Int) : List UInt8 := if 0 ≤ n ∧ 1 ≤ b ∧ b ≤ 4 then fixB n.toNat b.toNat else []
def getFix (l : List UInt8) (at_ b : Int) : Int := if 1 ≤ b ∧ b ≤ 4 ∧ 0 ≤ at_ ∧ at_ + b ≤ l.length then fixVal ((l.drop at_.toNat).take b.toNat) else -1

def More (L : List UInt8) (i : Nat) : Prop := i ≤ L.length ∧ ∀ c ∈ L.take i, 128 ≤ c.toNat
theorem More.succ {L : List UInt8} {i : Nat} {c : UInt8} (h : More L i) (hc : L[i]? = some c) (h1 : 128 ≤ c.toNat) : More L (i + 1) := by
 obtain ⟨hi, e⟩ := List.getElem?_eq_some_iff.1 hc
 refine ⟨by omega, fun d hd => ?_⟩
 rw [List.take_succ_eq_append_getElem hi, List.mem_append] at hd
 rcases hd with hd | hd
 · exact h.2 d hd
 · simp at hd; rw [hd, e]; exact h1
end Go.Proofs.Ytjcgbpjgoacdjaa
/- Logs as the document has them: fragments in pieces of sixty-four bytes; of what a text begins with one list of records is the longest. -/
namespace Go.Proofs.Ytjcgbpjgoacdjaa
open Go.RowKit
set_option linter.unusedVariables false

def fragB (k : Nat) (s : List UInt8) : List UInt8 := fixB (crc (UInt8.ofNat k :: s)) 4 ++ (fixB s.length 2 ++ UInt8.ofNat k :: s)
theorem frag_len (k : Nat) (s : List UInt8) : (fragB k s).length = s.length + 7 := by
 unfold fragB
 simp only [List.length_append, fix_length, List.length_cons]
 omega
def fragment (k : Int) (s : List UInt8) : List UInt8 := if 1 ≤ k ∧ k ≤ 4 ∧ s.length ≤ 57 then fragB k.toNat s else []
theorem fragment_yes {k : Nat} {s : List UInt8} (h1 : 1 ≤ k) (h4 : k ≤ 4) (hs : s.length ≤ 57) : fragment (k : Int) s = fragB k s := by
 unfold fragment
 rw [if_pos ⟨by omega, by omega, hs⟩, Int.toNat_natCast]
theorem fragment_no {k : Int} {s : List UInt8} (h : k < 1 ∨ 4 < k ∨ 57 < s.length) : fragment k s = [] := by
 unfold fragment
 rw [if_neg (by omega)]
theorem frag_told {k k' : Nat} {s s' x y : List UInt8} (h : fragB k s ++ x = fragB k' s' ++ y) (hk : k < 256) (hk' : k' < 256) (hs : s.length < 65536) (hs' : s'.length < 65536) : k = k' ∧ s = s' ∧ x = y := by
 unfold fragB at h
 simp only [List.append_assoc, List.cons_append] at h
 obtain ⟨_, h⟩ := List.append_inj h (by rw [fix_length, fix_length])
 obtain ⟨h1, h⟩ := List.append_inj h (by rw [fix_length, fix_length])
 have h2 := fix_inj h1
 rw [Nat.mod_eq_of_lt (by omega), Nat.mod_eq_of_lt (by omega)] at h2
 obtain ⟨h3, h⟩ := List.cons.inj h
 have h4 := congrArg UInt8.toNat h3
 rw [UInt8.toNat_ofNat', UInt8.toNat_ofNat', Nat.mod_eq_of_lt (by omega), Nat.mod_eq_of_lt (by omega)] at h4
 obtain ⟨h5, h6⟩ := List.append_inj h h2
 exact ⟨h4, h5, h6⟩
def leftAt (n : Nat) : Nat := 64 - n % 64
def padAt (n : Nat) : Nat := if leftAt n < 7 then leftAt n else 0
def roomAt (n : Nat) : Nat := leftAt (n + padAt n) - 7
theorem room_le (n : Nat) : roomAt n ≤ 57 := by unfold roomAt leftAt; omega
theorem pad_room (n : Nat) : leftAt (n + padAt n) = roomAt n + 7 := by
 unfold roomAt padAt leftAt
 split <;> omega
theorem pad_le (n : Nat) : padAt n ≤ 6 := by
 unfold padAt
 split <;> omega
theorem piece_end (n : Nat) : (n + padAt n + 7 + roomAt n) % 64 = 0 := by
 have h := pad_room n
 unfold leftAt at h
 omega
theorem room_zero {n : Nat} (h : n % 64 = 0) : padAt n = 0 ∧ roomAt n = 57 := by
 have h1 : padAt n = 0 := by
   unfold padAt leftAt
   rw [if_neg (by omega)]
 refine ⟨h1, ?_⟩
 unfold roomAt leftAt
 rw [h1]
 omega
def putRec (n : Nat) (first : Bool) (r : List UInt8) : List UInt8 :=
 if r.length ≤ roomAt n then List.replicate (padAt n) 0 ++ fragB (if first then 1 else 4) r
 else List.replicate (padAt n) 0 ++ (fragB (if first then 2 else 3) (r.take (roomAt n)) ++ putRec (n + padAt n + 7 + roomAt n) false (r.drop (roomAt n)))
termination_by 2 * r.length + (if roomAt n = 0 then 1 else 0)
decreasing_by
 rename_i h
 have h1 := (room_zero (piece_end n)).2
 rw [h1, List.length_drop]
 by_cases h0 : roomAt n = 0
 · simp [h0]
 · simp only [h0, if_false, Nat.reduceEqDiff]
   omega
theorem putRec_fits {n : Nat} {first : Bool} {r : List UInt8} (h : r.length ≤ roomAt n) : putRec n first r = List.replicate (padAt n) 0 ++ fragB (if first then 1 else 4) r := by rw [putRec, if_pos h]
theorem putRec_more {n : Nat} {first : Bool} {r : List UInt8} (h : ¬ r.length ≤ roomAt n) : putRec n first r = List.replicate (padAt n) 0 ++ (fragB (if first then 2 else 3) (r.take (roomAt n)) ++ putRec (n + padAt n + 7 + roomAt n) false (r.drop (roomAt n))) := by
 rw [putRec, if_neg h]
theorem rec_at_least (n : Nat) (first : Bool) (r : List UInt8) : r.length + 7 ≤ (putRec n first r).length := by
 induction n, first, r using putRec.induct with
 | case1 n first r h =>
   rw [putRec_fits h, List.length_append, frag_len]
   omega
 | case2 n first r h ih =>
   rw [putRec_more h, List.length_append, List.length_append, frag_len]
   rw [List.length_drop] at ih
   rw [List.length_take]
   omega
theorem rec_told (n : Nat) (first : Bool) (r : List UInt8) : ∀ (r' x y : List UInt8), putRec n first r ++ x = putRec n first r' ++ y → r = r' ∧ x = y := by
 induction n, first, r using putRec.induct with
 | case1 n first r h =>
   intro r' x y e
   have hr := room_le n
   by_cases h' : r'.length ≤ roomAt n
   · rw [putRec_fits h, putRec_fits h', List.append_assoc, List.append_assoc] at e
     have e := List.append_cancel_left e
     obtain ⟨_, e1, e2⟩ := frag_told e (by split <;> omega) (by split <;> omega) (by omega) (by omega)
     exact ⟨e1, e2⟩
   · rw [putRec_fits h, putRec_more h'] at e
     simp only [List.append_assoc] at e
     have e := List.append_cancel_left e
     obtain ⟨e1, _, _⟩ := frag_told e (by split <;> omega) (by split <;> omega) (by omega) (by rw [List.length_take]; omega)
     exfalso
     revert e1
     cases first <;> simp
 | case2 n first r h ih =>
   intro r' x y e
   have hr := room_le n
   by_cases h' : r'.length ≤ roomAt n
   · rw [putRec_more h, putRec_fits h'] at e
     simp only [List.append_assoc] at e
     have e := List.append_cancel_left e
     obtain ⟨e1, _, _⟩ := frag_told e (by split <;> omega) (by split <;> omega) (by rw [List.length_take]; omega) (by omega)
     exfalso
     revert e1
     cases first <;> simp
   · rw [putRec_more h, putRec_more h'] at e
     simp only [List.append_assoc] at e
     have e := List.append_cancel_left e
     obtain ⟨_, e1, e2⟩ := frag_told e (by split <;> omega) (by split <;> omega) (by rw [List.length_take]; omega) (by rw [List.length_take]; omega)
     obtain ⟨e3, e4⟩ := ih _ _ _ e2
     refine ⟨?_, e4⟩
     rw [← List.take_append_drop (roomAt n) r, ← List.take_append_drop (roomAt n) r', e1, e3]
def logFrom (n : Nat) : List (List UInt8) → List UInt8
 | [] => []
 | r :: rs => putRec n true r ++ logFrom (n + (putRec n true r).length) rs
theorem logFrom_app (rs ts : List (List UInt8)) : ∀ n, logFrom n (rs ++ ts) = logFrom n rs ++ logFrom (n + (logFrom n rs).length) ts := by
 induction rs with
 | nil => intro n; simp [logFrom]
 | cons r rs ih =>
   intro n
   rw [List.cons_append, logFrom, logFrom, ih, List.append_assoc, List.length_append, Nat.add_assoc]
theorem logFrom_snoc (n : Nat) (rs : List (List UInt8)) (r : List UInt8) : logFrom n (rs ++ [r]) = logFrom n rs ++ putRec (n + (logFrom n rs).length) true r := by
 rw [logFrom_app]
 simp [logFrom]
theorem logFrom_least (rs : List (List UInt8)) : ∀ n, 7 * rs.length ≤ (logFrom n rs).length := by
 induction rs with
 | nil => intro n; simp
 | cons r rs ih =>
   intro n
   rw [logFrom, List.length_append, List.length_cons]
   have h1 := ih (n + (putRec n true r).length)
   have h2 := rec_at_least n true r
   omega
theorem from_told (rs : List (List UInt8)) : ∀ (rs' : List (List UInt8)) (n : Nat) (x y : List UInt8), logFrom n rs ++ x = logFrom n rs' ++ y → rs <+: rs' ∨ rs' <+: rs := by
 induction rs with
 | nil => intro rs' n x y h; exact .inl List.nil_prefix
 | cons r rs ih =>
   intro rs' n x y h
   cases rs' with
   | nil => exact .inr List.nil_prefix
   | cons r' rs' =>
     rw [logFrom, logFrom, List.append_assoc, List.append_assoc] at h
     obtain ⟨rfl, h2⟩ := rec_told _ _ _ _ _ _ h
     rcases ih _ _ _ _ h2 with h3 | h3
     · exact .inl (List.cons_prefix_cons.2 ⟨rfl, h3⟩)
     · exact .inr (List.cons_prefix_cons.2 ⟨rfl, h3⟩)
def recsOk (rs : List (List UInt8)) : Prop := ∀ r ∈ rs, r.length ≤ 300
instance (rs : List (List UInt8)) : Decidable (recsOk rs) := by unfold recsOk; infer_instance
def logB (rs : List (List UInt8)) : List UInt8 := logFrom 0 rs
def appendB (l r : List UInt8) : List UInt8 := if r.length ≤ 300 then l ++ putRec l.length true r else l
def putLogB (rs : List (List UInt8)) : List UInt8 := if recsOk rs then logB rs else []
theorem log_snoc {rs : List (List UInt8)} {r : List UInt8} (h : r.length ≤ 300) : logB (rs ++ [r]) = appendB (logB rs) r := by
 unfold logB appendB
 rw [if_pos h, logFrom_snoc, Nat.zero_add]
def Longest (s : List UInt8) (rs : List (List UInt8)) : Prop := recsOk rs ∧ logB rs <+: s ∧ ∀ ts, recsOk ts → logB ts <+: s → ts <+: rs
theorem longest_one {s : List UInt8} {rs ts : List (List UInt8)} (h : Longest s rs) (h' : Longest s ts) : rs = ts :=
 List.prefix_iff_eq_take.1 (h'.2.2 _ h.1 h.2.1) |>.trans (by rw [List.take_of_length_le]; exact (h.2.2 _ h'.1 h'.2.1).length_le)
theorem longest_stop {s : List UInt8} {rs : List (List UInt8)} (hok : recsOk rs) {x : List UInt8} (hs : s = logB rs ++ x) (hno : ∀ r y, r.length ≤ 300 → x ≠ putRec (logB rs).length true r ++ y) : Longest s rs := by
 refine ⟨hok, ⟨x, hs.symm⟩, fun ts hts hp => ?_⟩
 obtain ⟨y, hy⟩ := hp
 unfold logB at hs hy
 rcases from_told rs ts 0 x y (by rw [← hs, hy]) with h | h
 · obtain ⟨us, rfl⟩ := h
   cases us with
   | nil => rw [List.append_nil]; exact List.prefix_rfl
   | cons u us =>
     exfalso
     rw [logFrom_app, logFrom, List.append_assoc, hs] at hy
     have h2 := List.append_cancel_left hy
     rw [List.append_assoc, Nat.zero_add] at h2
     exact hno u _ (hts u (by simp)) h2.symm
 · exact h
theorem longest_log {rs : List (List UInt8)} (h : recsOk rs) : Longest (logB rs) rs := by
 refine longest_stop h (x := []) (by simp) (fun r y _ e => ?_)
 have h1 := rec_at_least (logB rs).length true r
 have h2 := congrArg List.length e
 rw [List.length_append, List.length_nil] at h2
 omega
def LogIs (s : List UInt8) (rs : List (List UInt8)) (b : Bool) : Prop := (b = true ∧ recsOk rs ∧ logB rs = s) ∨ (b = false ∧ rs = [] ∧ ∀ ts, recsOk ts → logB ts ≠ s)
theorem logIs_one {s : List UInt8} {rs ts : List (List UInt8)} {b c : Bool} (h : LogIs s rs b) (h' : LogIs s ts c) : rs = ts ∧ b = c := by
 rcases h with ⟨rfl, h1, h2⟩ | ⟨rfl, rfl, h2⟩
 · rcases h' with ⟨rfl, g1, g2⟩ | ⟨_, _, g2⟩
   · subst g2
     exact ⟨longest_one (by rw [← h2]; exact longest_log h1) (longest_log g1), rfl⟩
   · exact absurd h2 (g2 _ h1)
 · rcases h' with ⟨rfl, g1, g2⟩ | ⟨rfl, rfl, _⟩
   · exact absurd g2 (h2 _ g1)
   · exact ⟨rfl, rfl⟩
theorem logIs_of {s : List UInt8} {rs : List (List UInt8)} (h : Longest s rs) : LogIs s (if (logB rs).length = s.length then rs else []) (decide ((logB rs).length = s.length)) := by
 obtain ⟨h1, ⟨x, h2⟩, h3⟩ := h
 by_cases e : (logB rs).length = s.length
 · rw [if_pos e]
   refine .inl ⟨by simp [e], h1, ?_⟩
   have h4 := congrArg List.length h2
   rw [List.length_append] at h4
   have h5 : x = [] := List.length_eq_zero_iff.1 (by omega)
   rw [← h2, h5, List.append_nil]
 · rw [if_neg e]
   refine .inr ⟨by simp [e], rfl, fun ts ht he => ?_⟩
   obtain ⟨us, hus⟩ := h3 ts ht (by rw [he]; exact List.prefix_rfl)
   have h4 := congrArg List.length h2
   rw [List.length_append] at h4
   unfold logB at he h4 e
   rw [← hus, logFrom_app, he, List.length_append] at h4
   rw [← hus, logFrom_app, he, List.length_append] at e
   omega
theorem ret_int {k : IntKind} {a b : Int} (h : a = b) : Ending.returned (.int k a) = .returned (.int k b) := by rw [h]
theorem ret_bool {a b : Bool} (h : a = b) : Ending.returned (.bool a) = .returned (.bool b) := by rw [h]
theorem ret_text {a b : List UInt8} (h : a = b) : Ending.returned (.string ⟨a.toArray⟩) = .returned (.string ⟨b.toArray⟩) := by rw [h]

theorem byte_at (s : ByteArray) (k : Nat) (h : k < s.size) : s.data.toList[k]? = some s[k] := by
 rw [List.getElem?_eq_getElem (by simpa using h)]; rfl
theorem take_snoc (s : ByteArray) (k : Nat) (h : k < s.size) : s.data.toList.take (k + 1) = s.data.toList.take k ++ [s[k]] := by
 rw [List.take_succ_eq_append_getElem (by simpa using h)]; rfl
theorem bytes_ext {a b : ByteArray} (h : a.data.toList = b.data.toList) : a = b := by
 cases a; cases b; simp only at h; rw [Array.toList_inj.1 h]

theorem set_block {w : World} {p k T : Nat} {cs : Array Value} {fz : Nat × Nat} (v : Value) (h : w.heap[p]? = some (.cells cs T fz)) : (w.setCell ⟨p, k, none⟩ v).heap[p]? = some (.cells (cs.setIfInBounds k v) T fz) := by
 simp [World.setCell, Array.getElem?_modify, h]
theorem grown_set (w : World) (p k : Nat) (v : Value) : w.grownBy (w.setCell ⟨p, k, none⟩ v) (some p) :=
 ⟨rfl, rfl, rfl, by simp [World.setCell], fun j hj hne => Below.heap_setCell _ _ _ _ (fun e => hne (by rw [e]))⟩
theorem grown_drewN (w : World) (n : Nat) (row : Option Nat) : w.grownBy (w.drewN n) row := ⟨rfl, rfl, rfl, Nat.le_refl _, fun _ _ _ => rfl⟩
theorem grown_refl (w : World) (row : Option Nat) : w.grownBy w row := ⟨rfl, rfl, rfl, Nat.le_refl _, fun _ _ _ => rfl⟩

theorem cell_lt {w : World} {a : Addr} {v : Value} (h : w.cell? a = some v) : a.block < w.heap.size := by
 unfold World.cell? at h
 by_cases hb : a.block < w.heap.size
 · exact hb
 · rw [Array.getElem?_eq_none (by omega)] at h; cases h

theorem below_draws {w : World} {B : Nat} (n : Nat) : Below B w (w.drewN n) := ⟨rfl, rfl, rfl, Nat.le_refl _, fun _ _ => rfl⟩

theorem draws_below {w w' : World} (h : ∃ n, w' = w.drewN n) (B : Nat) : Below B w w' := by obtain ⟨n, rfl⟩ := h; exact below_draws n

theorem below_new {w w1 w2 : World} (g0 : w.grownBy w1 none) (g1 : w1.grownBy w2 (some w.heap.size)) : Below w.heap.size w w2 :=
 ⟨g1.os.trans g0.os, g1.tape.trans g0.tape, g1.output.trans g0.output, Nat.le_trans g0.size g1.size, fun k hk => (g1.block k (by have := g0.size; omega) (by simp; omega)).trans (g0.block k hk (by simp))⟩

def IsRow (k : IntKind) (w : World) (a : Option Addr) (len cap : Nat) (zs : List Int) : Prop :=
 (a = none ∧ len = 0 ∧ cap = 0 ∧ zs = []) ∨
 ∃ x, a = some x ∧ len ≤ cap ∧ cap ≤ maxLen ∧ zs.length = cap ∧ (∀ i, i < zs.length → w.cell? (x.add i) = some (.int k (zs.getD i 0))) ∧ ∀ n ∈ zs, (Lit.int k n).wf = true

theorem wf_u8 {n : Int} (h : (Lit.int .u8 n).wf = true) : 0 ≤ n ∧ n ≤ 255 := by
 simp [Lit.wf, IntKind.min, IntKind.max, IntKind.signed, IntKind.bits] at h; omega
theorem infoB : (Try.prog.info? 5).map (fun i => (i.zero, i.size, i.bytes)) = some (some (.int .u8 0), 1, 1) := by kernel_rfl

def u8v (c : UInt8) : Value := .int .u8 c.toNat

structure BRow (w0 w : World) (v : Value) (xs : List UInt8) : Prop where
 row : w.ownsRow w0.heap.size 5 1 v xs.length (xs.map u8v)
 below : Below w0.heap.size w0 w

theorem BRow.push {w0 w w' : World} {v v' : Value} {xs : List UInt8} (t : BRow w0 w v xs) (o : Obj) (x : UInt8)
   (hown : w'.ownsRow w0.heap.size 5 1 v' (xs.length + 1) (xs.map u8v ++ [u8v x])) (hg : (w.alloc o).grownBy w' v.ownBlock) :
   ∃ g c, v' = .slice (some ⟨g, 0, none⟩) (xs.length + 1) c ∧ BRow w0 w' v' (xs ++ [x]) := by
 obtain ⟨g, c, rfl⟩ := ownsRow_succ hown
 refine ⟨g, c, rfl, by simpa using hown, ?_⟩
 exact (t.below.alloc t.below.size o).grown hg (by have := t.below.size; simp; omega) (fun k hk => (t.row.lt k hk).1)

theorem wp_pushB {w0 w : World} {v : Value} {xs : List UInt8} (y : UInt8) {Y : Int} (hY : Y = y.toNat) {ops : Array Oper} {rest : List Oper} {o : Oper} {act : Act} {Q : Exit → Act → World → Prop} (hgd : o.guard = none) (s x : Operand)
   (hop : o.op = .call { callee := .builtin .append, args := #[s, x], argTypes := #[22, 22] })
   (hs : act.eval s = v) (hx : act.eval x = .slice (some ⟨w.heap.size, 0, none⟩) 1 1) (t : BRow w0 w v xs) (hl : xs.length < 1000000000)
   (hk : ∀ g c w', BRow w0 w' (.slice (some ⟨g, 0, none⟩) (xs.length + 1) c) (xs ++ [y]) → wpList Try.prog ops Q rest (act.put o.dst (.slice (some ⟨g, 0, none⟩) (xs.length + 1) c)) w') :
   wpList Try.prog ops Q (o :: rest) act (w.alloc (.cells #[.int .u8 Y] 5)) := by
 subst hY
 obtain ⟨ti, hti, hz0, hz1, hz2⟩ := info_parts infoB
 refine wpList_append_own _ hgd s x 22 hop w0.heap.size 5 ti (.int .u8 0) 1 1 Try.underlying22 hti hz0 hz1 hz2 rfl (by decide) _ xs.length (xs.map u8v) hs (t.row.alloc _)
   ⟨w.heap.size, 0, none⟩ 1 1 [u8v y] hx rfl (cell_one_new _ _ _) (fun u hu => by simp at hu; subst hu; rfl) (by unfold maxLen; omega) (by omega) (by have := t.below.size; simp; omega) ?_
 intro v' w' hown hg _
 obtain ⟨g, c, rfl, t'⟩ := t.push _ y hown hg
 exact hk g c w' t'

theorem brow_made (w : World) : BRow w (w.alloc (.cells #[] 5)) (.slice (some ⟨w.heap.size, 0, none⟩) 0 0) [] :=
 ⟨World.ownsRow_made w #[] 0 (Nat.le_refl _) (by unfold maxLen; omega) (by simp), (Below.refl _ w).alloc (Nat.le_refl _) _⟩
theorem brow_nil (w : World) : BRow w w (.slice none 0 0) [] := ⟨World.ownsRow_nil _ _ _ _, Below.refl _ _⟩

theorem BRow.cell {w0 w : World} {g c n : Nat} {xs : List UInt8} (t : BRow w0 w (.slice (some ⟨g, 0, none⟩) n c) xs) (j : Nat) (hj : j < xs.length) : w.cell? ⟨g, j, none⟩ = some (u8v (xs.getD j 0)) := by
 have := t.row.cells (g := g) rfl j (u8v (xs.getD j 0)) (by simp [List.getElem?_eq_getElem hj])
 have e : (⟨g, 0, none⟩ : Addr).add j = ⟨g, j, none⟩ := by
   unfold Addr.add; split
   · subst_vars; rfl
   · simp
 rwa [e] at this

theorem strOf (xs : List UInt8) : strOfNums (xs.map fun c => (c.toNat : Int)) = ⟨xs.toArray⟩ := by
 unfold strOfNums
 rw [List.map_map]
 congr 2
 conv => rhs; rw [← List.map_id xs]
 apply List.map_congr_left
 intro a _
 simp [Function.comp]

theorem str_of_cells {w : World} {g c n : Nat} (xs : List UInt8) (hn : xs.length = n) (h : ∀ j, j < xs.length → w.cell? ⟨g, j, none⟩ = some (u8v (xs.getD j 0))) :
   (convert 22 9 (.slice (some ⟨g, 0, none⟩) n c)).run Try.prog w = .ok (.string ⟨xs.toArray⟩) w := by
 rw [← strOf]
 refine run_convert_bytes_arg (P := Try.prog) w 22 5 Try.underlying22 Try.underlying5 g 0 n c (xs.map fun c => (c.toNat : Int)) (by simpa using hn) (fun j hj => ?_) 9 Try.underlying9
 rw [Nat.zero_add, h j (by omega)]
 have hj' : j < xs.length := by omega
 simp [u8v, List.getElem?_eq_getElem hj']

theorem BRow.str {w0 w : World} {g c n : Nat} {xs : List UInt8} (t : BRow w0 w (.slice (some ⟨g, 0, none⟩) n c) xs) (hn : xs.length = n) :
   (convert 22 9 (.slice (some ⟨g, 0, none⟩) n c)).run Try.prog w = .ok (.string ⟨xs.toArray⟩) w :=
 str_of_cells xs hn t.cell

structure BArr (w0 w : World) (g : Nat) (xs : List UInt8) : Prop where
 block : w.heap[g]? = some (.cells (xs.map u8v).toArray 5 (0, 0))
 own : w0.heap.size ≤ g
 below : Below w0.heap.size w0 w

theorem BArr.cell {w0 w : World} {g : Nat} {xs : List UInt8} (t : BArr w0 w g xs) (j : Nat) (hj : j < xs.length) : w.cell? ⟨g, j, none⟩ = some (u8v (xs.getD j 0)) := by
 simp [World.cell?, t.block, List.getElem?_eq_getElem hj]
theorem BArr.frozen {w0 w : World} {g : Nat} {xs : List UInt8} (t : BArr w0 w g xs) (j : Nat) : w.frozen? ⟨g, j, none⟩ = false := by
 simp [World.frozen?, t.block]
theorem BArr.set {w0 w : World} {g : Nat} {xs : List UInt8} (t : BArr w0 w g xs) (k : Nat) (c : UInt8) {v : Value} (hv : v = u8v c) : BArr w0 (w.setCell ⟨g, k, none⟩ v) g (xs.set k c) := by
 subst hv
 refine ⟨?_, t.own, t.below.trans ?_⟩
 · rw [set_block _ t.block]
   simp [List.map_set]
 · exact (Below.refl _ _).setCell t.own _
theorem BArr.drewN {w0 w : World} {g : Nat} {xs : List UInt8} (t : BArr w0 w g xs) (n : Nat) : BArr w0 (w.drewN n) g xs := ⟨t.block, t.own, t.below.trans (below_draws n)⟩
theorem BArr.str {w0 w : World} {g c n : Nat} {xs : List UInt8} (t : BArr w0 w g xs) (hn : xs.length = n) :
   (convert 22 9 (.slice (some ⟨g, 0, none⟩) n c)).run Try.prog w = .ok (.string ⟨xs.toArray⟩) w := str_of_cells xs hn t.cell

theorem madeB (n : Nat) : (madeCells (Value.int .u8 0).cells (n * 1)).toList = (List.replicate n (0 : UInt8)).map u8v := by
 simp only [madeCells, Value.cells, u8v, List.map_replicate, Nat.mul_one]
 apply List.ext_getElem
 · simp
 · intro i h1 h2
   have : i % 1 = 0 := by omega
   simp [this]

theorem wp_makeB {w : World} {ops : Array Oper} {rest : List Oper} {o : Oper} {act : Act} {Q : Exit → Act → World → Prop} (hgd : o.guard = none) (l c : Operand) (hop : o.op = Op.makeSlice 22 l c)
   (L C : Int) (n : Nat) (hl : act.eval l = .int .i64 L) (hc : act.eval c = .int .i64 C) (hL : L = n) (hC : C = n) (hn : n < 1000000000)
   (hk : ∀ w', BArr w w' w.heap.size (List.replicate n 0) → wpList Try.prog ops Q rest (act.put o.dst (.slice (some ⟨w.heap.size, 0, none⟩) n n)) w') :
   wpList Try.prog ops Q (o :: rest) act w := by
 obtain ⟨ti, hti, hz0, hz1, hz2⟩ := info_parts infoB
 refine wpList_make_full _ hgd l c 22 hop w.heap.size 5 ti (.int .u8 0) 1 Try.underlying22 hti hz0 hz1 .i64 .i64 L C n hl hc hL hC (by rw [hz2]; omega) (by unfold maxLen; omega) (Nat.le_refl _) ?_
 intro w' hown hg
 refine hk w' ⟨?_, Nat.le_refl _, ⟨hg.os, hg.tape, hg.output, hg.size, fun k hk => hg.block k hk (by simp)⟩⟩
 rcases hown.2 with ⟨h0, _⟩ | ⟨g, cap, cur, h1, _, h2, _, _, h3, h4⟩
 · cases h0
 · cases h1
   rw [h2]
   have e : cur = ((List.replicate n (0 : UInt8)).map u8v).toArray := by
     apply Array.toList_inj.1
     rw [← madeB, ← h4, List.take_of_length_le (by simp; omega)]
   rw [e]
end Go.Proofs.Ytjcgbpjgoacdjaa
/- Contract of the program's PutFix. -/

namespace Go.Proofs.Ytjcgbpjgoacdjaa
open Go.RowKit
set_option linter.unusedVariables false

def TextIs (w : World) (l : List UInt8) (e : Ending) (w' : World) : Prop := e = .returned (.string ⟨l.toArray⟩) ∧ Below w.heap.size w w'

theorem TextIs.text {w w' : World} {l : List UInt8} {e : Ending} (h : TextIs w l e w') : ∃ S : ByteArray, S.data.toList = l ∧ S.size = l.length ∧ e = .returned (.string S) ∧ Below w.heap.size w w' :=
 ⟨⟨l.toArray⟩, rfl, by simp [ByteArray.size], h.1, h.2⟩
theorem putFix_no {n b : Int} (h : n < 0 ∨ b < 1 ∨ 4 < b) : putFix n b = [] := by unfold putFix; rw [if_neg (by omega)]
theorem putFix_in {n b : Nat} (h1 : 1 ≤ b) (h4 : b ≤ 4) : putFix n b = fixB n b := by unfold putFix; rw [if_pos (by omega)]; rfl

theorem byteInt (n k : Nat) : ((n : Int) / 2 ^ (8 * k) % 256) = ((UInt8.ofNat (n / 2 ^ (8 * k))).toNat : Int) := by
 have e : (n : Int) / 2 ^ (8 * k) = ((n / 2 ^ (8 * k) : Nat) : Int) := by simp
 rw [e, UInt8.toNat_ofNat']
 omega

theorem fix_set (n b k : Nat) (h : k < b) : (fixB n k ++ List.replicate (b - k) 0).set k (UInt8.ofNat (n / 2 ^ (8 * k))) = fixB n (k + 1) ++ List.replicate (b - (k + 1)) 0 := by
 rw [List.set_append_right _ _ (by rw [fix_length]; omega), fix_length, Nat.sub_self]
 have e : b - k = (b - (k + 1)) + 1 := by omega
 rw [e, List.replicate_succ, List.set_cons_zero, fix_succ]
 simp

set_option maxHeartbeats 400000 in
theorem implPutFix_in (n b : Nat) (w : World) (hn : (n : Int) ≤ 9223372036854775807) (h1 : 1 ≤ b) (h4 : b ≤ 4) :
   Calls Try.prog 55 #[.int .i64 n, .int .i64 b] w (TextIs w (fixB n b)) := by
 go_enter Try.func55, Try.ntmps55
 go_wp2_with (at_make; refine wp_makeB rfl _ _ rfl _ _ b rfl rfl rfl rfl (by omega) ?_; intro w2 t2; have T2 := Lib.hid t2; clear t2)
 go_loopw [21] (fun i wr => ∃ (k : Nat), k ≤ b ∧ i = .int .i64 k ∧ BArr w wr w.heap.size (fixB n k ++ List.replicate (b - k) 0)) (fun i _ => b - (intOf i).toNat)
 case atStart => exact ⟨0, Nat.zero_le _, rfl, T2.out⟩
 case round =>
   obtain ⟨k, hk, rfl, t⟩ := hrel
   have TT := Lib.hid t
   by_cases hlt : k < b
   · have HS := Lib.hid (fix_set n b k hlt)
     have hc := t.cell k (by simp [fix_length]; omega)
     have hf := t.frozen k
     clear t
     go_wp2
     go_roundw
     case rel => exact ⟨k + 1, by omega, by go_num, by rw [← HS.out]; exact TT.out.set k _ (by unfold u8v; rw [← byteInt])⟩
     case measure => simp [intOf]; omega
   · obtain rfl : k = b := by omega
     have hcv := t.str (c := k) (n := k) (by simp [fix_length])
     clear t
     go_wp2
     go_ret
     exact ⟨ret_text (by simp), TT.out.below⟩

theorem BRow.alloc {w0 w : World} {v : Value} {xs : List UInt8} (t : BRow w0 w v xs) (o : Obj) : BRow w0 (w.alloc o) v xs := ⟨t.row.alloc o, t.below.alloc t.below.size o⟩
theorem BRow.drewN {w0 w : World} {v : Value} {xs : List UInt8} (t : BRow w0 w v xs) (n : Nat) : BRow w0 (w.drewN n) v xs := ⟨t.row, t.below.trans (below_draws n)⟩
theorem BRow.more {w0 W w' : World} {v v' : Value} {xs : List UInt8} (t : BRow w0 W v xs) (ys : List UInt8) (hown : w'.ownsRow w0.heap.size 5 1 v' (xs.length + ys.length) (xs.map u8v ++ ys.map u8v)) (hg : W.grownBy w' v.ownBlock) : BRow w0 w' v' (xs ++ ys) := by
 refine ⟨by simpa using hown, t.below.grown hg t.below.size (fun k hk => (t.row.lt k hk).1)⟩
theorem strCells_u8 (s : ByteArray) : Lib.strCells s = s.data.toList.map u8v := by
 unfold Lib.strCells u8v
 simp
theorem op_pushS {w0 w : World} {v : Value} {xs : List UInt8} (S : ByteArray) {o : Oper} {act : Act} {K : Act → World → Prop} {Q : Exit → Act → World → Prop} (s x : Operand)
   (hop : o.op = .call { callee := .builtin .append, args := #[s, x], argTypes := #[22, 9] })
   (hs : act.eval s = v) (hx : act.eval x = .string S) (t : BRow w0 w v xs) (hl : xs.length + S.size < 1000000000)
   (hk : ∀ v' w', BRow w0 w' v' (xs ++ S.data.toList) → w.grownBy w' v.ownBlock → K (act.put o.dst v') w') : o.wp Try.prog act w K Q := by
 obtain ⟨ti, hti, hz0, hz1, hz2⟩ := info_parts infoB
 obtain ⟨v', w', hr, h2, h3, h4⟩ := Lib.run_append_own_string (P := Try.prog) w w0.heap.size 22 9 o.type 5 ti Try.underlying22 Try.underlying9 hti hz0 hz1 hz2 v xs.length (xs.map u8v) t.row S (by unfold maxLen; omega) (by omega) t.below.size
 unfold Oper.wp execOp
 simp only [hop, resolve, invoke, builtin, Sem.run_bind, Sem.run_pure, Result.andThen_ok, List.map_toArray, List.map_cons, List.map_nil, hs, hx, hr]
 refine hk _ _ (t.more S.data.toList ?_ h3) h3
 rw [strCells_u8] at h2
 simpa using h2

theorem fresh_cell (w : World) (cs : Array Value) (U j : Nat) : (w.alloc (.cells cs U)).cell? ⟨w.heap.size, j, none⟩ = cs[j]? := by
 have : (w.alloc (.cells cs U)).heap[w.heap.size]? = some (.cells cs U (0, 0)) := by
   show (w.heap.push _)[w.heap.size]? = _
   rw [Array.getElem?_push, if_pos rfl]
 unfold World.cell?
 rw [this]
 rfl
theorem infoStr : (Try.prog.info? 9).map (fun i => (i.zero, i.size, i.bytes)) = some (some (.string ⟨#[]⟩), 1, 16) := by kernel_rfl

theorem row_below {W W' : World} {B b e size n : Nat} {v : Value} {xs : List Value} (h : W.ownsRow b e size v n xs) (hb : Below B W W') (hlt : ∀ k, v.ownBlock = some k → k < B) : W'.ownsRow b e size v n xs := by
 refine ⟨h.1, ?_⟩
 rcases h.2 with h2 | ⟨g, cap, cur, h1, h2, h3, r⟩
 · exact .inl h2
 · subst h1
   exact .inr ⟨g, cap, cur, rfl, h2, (hb.block g (hlt g rfl)).trans h3, r⟩

structure RowAt (w0 w : World) (v : Value) (xs : List ByteArray) : Prop where
 row : w.ownsRow w0.heap.size 9 1 v xs.length (xs.map Value.string)
 below : Below w0.heap.size w0 w

theorem RowAt.push {w0 w w' : World} {v v' : Value} {xs : List ByteArray} (t : RowAt w0 w v xs) (o : Obj) (x : ByteArray)
   (hown : w'.ownsRow w0.heap.size 9 1 v' (xs.length + 1) (xs.map Value.string ++ [.string x])) (hg : (w.alloc o).grownBy w' v.ownBlock) :
   ∃ g c, v' = .slice (some ⟨g, 0, none⟩) (xs.length + 1) c ∧ RowAt w0 w' v' (xs ++ [x]) := by
 obtain ⟨g, c, rfl⟩ := ownsRow_succ hown
 refine ⟨g, c, rfl, by simpa using hown, ?_⟩
 exact (t.below.alloc t.below.size o).grown hg (by have := t.below.size; simp; omega) (fun k hk => (t.row.lt k hk).1)

def lcg (h : Int) : Int := wrap64 (wrap64 (h * 6364136223846793005) + 1442695040888963407)
def mix (h : Int) : Int := bits .and .i64 (bits .xor .i64 (h / 8589934592) (h / 35184372088832)) 255
def gByte (len : Nat) (zs : List Int) (i : Nat) (h : Int) : Int := if i < len then bits .and .i64 (mix (lcg h) + zs.getD i 0) 255 else mix (lcg h)
def gNext (len : Nat) (i : Nat) : Nat := if i < len then i + 1 else i

theorem and255 (x : Int) : bits .and .i64 x 255 = x % 256 := by
 show IntKind.i64.wrap ((BitVec.ofInt 64 x &&& BitVec.ofInt 64 255).toNat : Int) = _
 rw [BitVec.toNat_and]
 have e : (BitVec.ofInt 64 255).toNat = 2 ^ 8 - 1 := by decide
 rw [e, Nat.and_two_pow_sub_one_eq_mod, IntKind.wrap_i64]
 have : ((BitVec.ofInt 64 x).toNat : Int) = x % 18446744073709551616 := by
   rw [BitVec.toNat_ofInt]; simp; omega
 omega

theorem mix_bd (h : Int) : 0 ≤ mix h ∧ mix h ≤ 255 := by unfold mix; rw [and255]; omega
theorem gByte_bd (len : Nat) (zs : List Int) (i : Nat) (h : Int) : 0 ≤ gByte len zs i h ∧ gByte len zs i h ≤ 255 := by
 unfold gByte
 split
 · rw [and255]; omega
 · exact mix_bd _
theorem gNext_le {len i : Nat} (h : i ≤ len) : gNext len i ≤ len := by unfold gNext; split <;> omega
theorem lcg_bd (h : Int) : -9223372036854775808 ≤ lcg h ∧ lcg h ≤ 9223372036854775807 := by unfold lcg wrap64; omega

def Bytes (w : World) (p : Nat) (a : Option Addr) (len : Nat) (zs : List Int) : Prop :=
 len ≤ maxLen ∧ ∀ k, k < len → ∃ b off, a = some ⟨b, off, none⟩ ∧ b < w.heap.size ∧ b ≠ p ∧ w.cell? ⟨b, off + k, none⟩ = some (.int .u8 (zs.getD k 0)) ∧ 0 ≤ zs.getD k 0 ∧ zs.getD k 0 ≤ 255

structure CurAt (w : World) (T p : Nat) (a : Option Addr) (len cap : Nat) (zs : List Int) (i : Nat) (h : Int) : Prop where
 block : w.heap[p]? = some (.cells #[.slice a len cap, .int .i64 i, .int .i64 h] T (0, 0))
 bytes : Bytes w p a len zs
 le : i ≤ len

theorem Bytes.kept {w w' : World} {p len : Nat} {a : Option Addr} {zs : List Int} (h : Bytes w p a len zs) (hg : w.grownBy w' (some p)) : Bytes w' p a len zs := by
 refine ⟨h.1, fun k hk => ?_⟩
 obtain ⟨b, off, ha, hb, hne, hc, hr⟩ := h.2 k hk
 exact ⟨b, off, ha, Nat.lt_of_lt_of_le hb hg.size, hne, (World.cell?_of_block (w := w) (hg.block b hb (by simpa using hne))).trans hc, hr⟩

theorem CurAt.lt {w : World} {T p : Nat} {a : Option Addr} {len cap : Nat} {zs : List Int} {i : Nat} {h : Int} (c : CurAt w T p a len cap zs i h) : p < w.heap.size := (Array.getElem?_eq_some_iff.1 c.block).1

theorem CurAt.cells {w : World} {T p : Nat} {a : Option Addr} {len cap : Nat} {zs : List Int} {i : Nat} {h : Int} (c : CurAt w T p a len cap zs i h) :
   w.cell? ⟨p, 0, none⟩ = some (.slice a len cap) ∧ w.cell? ⟨p, 1, none⟩ = some (.int .i64 i) ∧ w.cell? ⟨p, 2, none⟩ = some (.int .i64 h) ∧ w.frozen? ⟨p, 1, none⟩ = false ∧ w.frozen? ⟨p, 2, none⟩ = false := by
 have hb := c.block
 refine ⟨?_, ?_, ?_, ?_, ?_⟩ <;> simp [World.cell?, World.frozen?, hb]



theorem CurAt.seth {w : World} {T p : Nat} {a : Option Addr} {len cap : Nat} {zs : List Int} {i : Nat} {h : Int} (c : CurAt w T p a len cap zs i h) (h' : Int) : CurAt (w.setCell ⟨p, 2, none⟩ (.int .i64 h')) T p a len cap zs i h' := by
 refine ⟨?_, c.bytes.kept (grown_set _ _ _ _), c.le⟩
 rw [set_block _ c.block]
 rfl
theorem CurAt.seti {w : World} {T p : Nat} {a : Option Addr} {len cap : Nat} {zs : List Int} {i : Nat} {h : Int} (c : CurAt w T p a len cap zs i h) (hi : i < len) (v : Value) (hv : v = .int .i64 (i + 1 : Nat)) : CurAt (w.setCell ⟨p, 1, none⟩ v) T p a len cap zs (i + 1) h := by
 subst hv
 refine ⟨?_, c.bytes.kept (grown_set _ _ _ _), hi⟩
 rw [set_block _ c.block]
 rfl
theorem CurAt.drewN {w : World} {T p : Nat} {a : Option Addr} {len cap : Nat} {zs : List Int} {i : Nat} {h : Int} (c : CurAt w T p a len cap zs i h) (n : Nat) : CurAt (w.drewN n) T p a len cap zs i h :=
 ⟨c.block, c.bytes.kept (grown_drewN _ _ _), c.le⟩
theorem CurAt.kept {w w' : World} {T p : Nat} {a : Option Addr} {len cap : Nat} {zs : List Int} {i : Nat} {h : Int} {row : Option Nat} (c : CurAt w T p a len cap zs i h) (hg : w.grownBy w' row) (hp : some p ≠ row) (ha : ∀ x, a = some x → some x.block ≠ row ∨ len = 0) : CurAt w' T p a len cap zs i h := by
 refine ⟨(hg.block p c.lt hp).trans c.block, ⟨c.bytes.1, fun k hk => ?_⟩, c.le⟩
 obtain ⟨b, off, hab, hb, hne, hc, hr⟩ := c.bytes.2 k hk
 have hrow : some b ≠ row := by
   rcases ha _ hab with h | h
   · exact h
   · omega
 exact ⟨b, off, hab, Nat.lt_of_lt_of_le hb hg.size, hne, (World.cell?_of_block (w := w) (hg.block b hb hrow)).trans hc, hr⟩




theorem bytes_of_row {w : World} {a : Option Addr} {len cap : Nat} {zs : List Int} (h : IsRow .u8 w a len cap zs) (p : Nat) (hp : w.heap.size ≤ p) : Bytes w p a len zs := by
 rcases h with ⟨rfl, rfl, rfl, rfl⟩ | ⟨x, rfl, hl, hm, hz, hc, hw⟩
 · exact ⟨by unfold maxLen; omega, fun k hk => by omega⟩
 · refine ⟨by omega, fun k hk => ?_⟩
   obtain ⟨b, off, spot⟩ := x
   have h0 := hc 0 (by omega)
   have hs : spot = none := by simpa [Addr.add] using World.cell?_spot h0
   subst hs
   have hk' := hc k (by omega)
   have e : (⟨b, off, none⟩ : Addr).add k = ⟨b, off + k, none⟩ := by
     unfold Addr.add; split
     · subst_vars; rfl
     · rfl
   rw [e] at hk'
   have hb := cell_lt hk'
   have hmem : zs.getD k 0 ∈ zs := by rw [List.getD_eq_getElem?_getD, List.getElem?_eq_getElem (by omega)]; exact List.getElem_mem _
   exact ⟨b, off, rfl, hb, by simp only at hb; omega, hk', wf_u8 (hw _ hmem)⟩

theorem cur_new {w : World} {a : Option Addr} {len cap T : Nat} {zs : List Int} {h : Int} (hr : Bytes w w.heap.size a len zs) :
   CurAt (w.alloc (.cells #[.slice a len cap, .int .i64 0, .int .i64 h] T)) T w.heap.size a len cap zs 0 h := by
 refine ⟨?_, ⟨hr.1, fun k hk => ?_⟩, Nat.zero_le _⟩
 · show (w.heap.push _)[w.heap.size]? = _
   rw [Array.getElem?_push, if_pos rfl]; rfl
 · obtain ⟨b, off, ha, hb, hne, hc, hr2⟩ := hr.2 k hk
   exact ⟨b, off, ha, by simp; omega, hne, (World.cell?_of_block (w := w) (Below.heap_alloc _ _ _ hb)).trans hc, hr2⟩
theorem grown_of_below {w w' : World} (h : Below w.heap.size w w') : w.grownBy w' none := ⟨h.os, h.tape, h.output, h.size, fun j hj _ => h.block j hj⟩
theorem CurAt.below {w w' : World} {T p : Nat} {a : Option Addr} {len cap : Nat} {zs : List Int} {i : Nat} {h : Int} (c : CurAt w T p a len cap zs i h) (hb : Below w.heap.size w w') : CurAt w' T p a len cap zs i h :=
 c.kept (grown_of_below hb) (by simp) (fun _ _ => Or.inl (by simp))
theorem CurAt.new {w : World} {T p : Nat} {a : Option Addr} {len cap : Nat} {zs : List Int} {i : Nat} {h : Int} (c : CurAt w T p a len cap zs i h) (o : Obj) : CurAt (w.alloc o) T p a len cap zs i h := c.kept (World.grownBy_alloc _ _ none) (by simp) (fun _ _ => Or.inl (by simp))
theorem below_bytes {w w1 : World} {a : Option Addr} {len : Nat} {zs : List Int} (hr : Bytes w w.heap.size a len zs) (hb : Below w.heap.size w w1) : Bytes w1 w1.heap.size a len zs := by
 refine ⟨hr.1, fun k hk => ?_⟩
 obtain ⟨b, off, ha, hlt, hne, hc, hr2⟩ := hr.2 k hk
 have := hb.size
 exact ⟨b, off, ha, by omega, by omega, (hb.cell (p := ⟨b, off + k, none⟩) hlt).trans hc, hr2⟩
def StrAt (w : World) (a : Option Addr) (n c : Nat) (xs : List ByteArray) : Prop := xs.length = n ∧ n ≤ c ∧ ∀ (k : Nat) (x : ByteArray), xs[k]? = some x → ∃ g, a = some ⟨g, 0, none⟩ ∧ w.cell? ⟨g, k, none⟩ = some (.string x)
theorem StrAt.below {w w' : World} {a : Option Addr} {n c : Nat} {xs : List ByteArray} (h : StrAt w a n c xs) (hb : Below w.heap.size w w') : StrAt w' a n c xs :=
 ⟨h.1, h.2.1, fun k x hk => by obtain ⟨g, e, hc⟩ := h.2.2 k x hk; exact ⟨g, e, (hb.cell (p := ⟨g, k, none⟩) (cell_lt hc)).trans hc⟩⟩
theorem str_row {B : Nat} {w : World} {a : Option Addr} {n c : Nat} {xs : List ByteArray} (h : w.ownsRow B 9 1 (.slice a n c) xs.length (xs.map Value.string)) : StrAt w a n c xs := by
 rcases h.2 with ⟨h0, hn⟩ | ⟨g, cap, cur, h1, _, hc, hn, _, hs, ht⟩
 · cases h0
   refine ⟨hn, Nat.le_refl _, fun k x hk => ?_⟩
   have := (List.getElem?_eq_some_iff.1 hk).1
   omega
 · cases h1
   refine ⟨rfl, hn, fun k x hk => ⟨g, rfl, ?_⟩⟩
   have hk' := (List.getElem?_eq_some_iff.1 hk).1
   have h2 : w.cell? ⟨g, k, none⟩ = cur[k]? := by simp [World.cell?, hc]
   have h3 : (xs.map Value.string)[k]? = some (.string x) := by rw [List.getElem?_map, hk]; rfl
   rw [← ht, List.getElem?_take, if_pos (by omega)] at h3
   rw [h2, ← Array.getElem?_toList]
   exact h3
theorem str_form {B : Nat} {w : World} {v : Value} {xs : List ByteArray} (h : w.ownsRow B 9 1 v xs.length (xs.map Value.string)) : ∃ ad cap, v = .slice ad xs.length cap := by
 rcases h.2 with ⟨h0, hn⟩ | ⟨g, cap, cur, h1, _⟩
 · exact ⟨none, 0, by rw [h0, hn]⟩
 · exact ⟨_, _, h1⟩
def FitS (xs : List ByteArray) : Prop := ∀ x ∈ xs, x.size ≤ maxLen
def lists (xs : List ByteArray) : List (List UInt8) := xs.map (fun x => x.data.toList)
theorem lists_len (xs : List ByteArray) : (lists xs).length = xs.length := by unfold lists; simp
theorem lists_at {xs : List ByteArray} {k : Nat} {x : ByteArray} (h : xs[k]? = some x) : (lists xs)[k]? = some x.data.toList := by unfold lists; rw [List.getElem?_map, h]; rfl
theorem take_next {α : Type} {l : List α} {k : Nat} {x : α} (h : l[k]? = some x) : l.take (k + 1) = l.take k ++ [x] := by
 obtain ⟨hi, rfl⟩ := List.getElem?_eq_some_iff.1 h
 rw [List.take_succ_eq_append_getElem hi]
def RdT (T : Nat) (w : World) (p : Nat) (s : ByteArray) (a : Int) : Prop := w.heap[p]? = some (.cells #[.string s, .int .i64 a] T (0, 0))
abbrev RdAt (w : World) (p : Nat) (s : ByteArray) (a : Int) : Prop := RdT 57 w p s a
theorem RdT.cells {T : Nat} {w : World} {p : Nat} {s : ByteArray} {a : Int} (h : RdT T w p s a) :
   w.cell? ⟨p, 0, none⟩ = some (.string s) ∧ w.cell? ⟨p, 1, none⟩ = some (.int .i64 a) ∧ w.frozen? ⟨p, 1, none⟩ = false := by
 unfold RdT at h
 refine ⟨?_, ?_, ?_⟩ <;> simp [World.cell?, World.frozen?, h]
theorem RdT.drewN {T : Nat} {w : World} {p : Nat} {s : ByteArray} {a : Int} (h : RdT T w p s a) (n : Nat) : RdT T (w.drewN n) p s a := h
theorem RdT.set {T : Nat} {w : World} {p : Nat} {s : ByteArray} {a : Int} (h : RdT T w p s a) (b : Int) : RdT T (w.setCell ⟨p, 1, none⟩ (.int .i64 b)) p s b := by
 unfold RdT at h ⊢
 rw [set_block _ h]
 rfl
theorem RdT.lt {T : Nat} {w : World} {p : Nat} {s : ByteArray} {a : Int} (h : RdT T w p s a) : p < w.heap.size := (Array.getElem?_eq_some_iff.1 h).1
theorem rd_new (w : World) (s : ByteArray) (a : Int) : RdAt (w.alloc (.cells #[.string s, .int .i64 a] 57)) w.heap.size s a := by
 show (w.heap.push _)[w.heap.size]? = _
 rw [Array.getElem?_push, if_pos rfl]

def BoolIs (w : World) (b : Bool) (e : Ending) (w' : World) : Prop := e = .returned (.bool b) ∧ ∃ n, w' = w.drewN n

set_option maxHeartbeats 400000 in
theorem has_yes {T : Nat} (p : Nat) (s : ByteArray) (a n : Nat) (w : World) (h : RdT T w p s a) (hs : s.size ≤ maxLen) (hn : a + n ≤ s.size) :
   Calls Try.prog 77 #[.pointer (some ⟨p, 0, none⟩), .int .i64 n] w (BoolIs w true) := by
 unfold maxLen at hs
 obtain ⟨c0, c1, f1⟩ := h.cells
 clear h
 have d1 : decide ((0 : Int) ≤ (n : Int)) = true := by simp
 have d2 : decide ((0 : Int) ≤ (a : Int)) = true := by simp
 have d3 : decide (a ≤ s.size) = true := by simp; omega
 go_enter Try.func77, Try.ntmps77
 go_wp2
 go_quiet (fail)
 go_wp2
 go_ret
 exact ⟨ret_bool (by simp; omega), _, rfl⟩

set_option maxHeartbeats 400000 in
theorem has_no {T : Nat} (p : Nat) (s : ByteArray) (a n : Int) (w : World) (h : RdT T w p s a) (hs : s.size ≤ maxLen) (hn : n < 0 ∨ a < 0 ∨ s.size < a ∨ s.size - a < n) :
   Calls Try.prog 77 #[.pointer (some ⟨p, 0, none⟩), .int .i64 n] w (BoolIs w false) := by
 unfold maxLen at hs
 obtain ⟨c0, c1, f1⟩ := h.cells
 clear h
 have HN := Lib.hid hn
 clear hn
 by_cases d1 : 0 ≤ n
 · have d1' : decide (0 ≤ n) = true := by simpa using d1
   by_cases d2 : 0 ≤ a
   · have d2' : decide (0 ≤ a) = true := by simpa using d2
     by_cases d3 : a ≤ s.size
     · have d3' : decide (a ≤ s.size) = true := by simpa using d3
       go_enter Try.func77, Try.ntmps77
       go_wp2
       go_quiet (fail)
       go_wp2
       go_ret
       exact ⟨ret_bool (by have := HN.out; simp; omega), _, rfl⟩
     · have d3' : decide (a ≤ s.size) = false := by simpa using d3
       go_enter Try.func77, Try.ntmps77
       go_wp2
       go_quiet (fail)
       go_wp2
       go_ret
       exact ⟨rfl, _, rfl⟩
   · have d2' : decide (0 ≤ a) = false := by simpa using d2
     go_enter Try.func77, Try.ntmps77
     go_wp2
     go_quiet (fail)
     go_wp2
     go_ret
     exact ⟨rfl, _, rfl⟩
 · have d1' : decide (0 ≤ n) = false := by simpa using d1
   go_enter Try.func77, Try.ntmps77
   go_wp2
   go_quiet (fail)
   go_wp2
   go_ret
   exact ⟨rfl, _, rfl⟩

def Taken (T : Nat) (w : World) (p : Nat) (s : ByteArray) (a n : Nat) (e : Ending) (w' : World) : Prop :=
 e = .returned (.tuple #[.string (s.extract a (a + n)), .bool true]) ∧ RdT T w' p s (a + n : Nat) ∧ w.grownBy w' (some p)

set_option maxHeartbeats 400000 in
theorem take_yes {T : Nat} (p : Nat) (s : ByteArray) (a n : Nat) (w : World) (h : RdT T w p s a) (hs : s.size ≤ maxLen) (hn : a + n ≤ s.size) :
   Calls Try.prog 67 #[.pointer (some ⟨p, 0, none⟩), .int .i64 n] w (Taken T w p s a n) := by
 have HH := Lib.hid h
 have HS := Lib.hid hs
 unfold maxLen at hs
 obtain ⟨c0, c1, f1⟩ := h.cells
 clear h
 go_enter Try.func67, Try.ntmps67
 go_wp2_with fail
 refine (has_yes p s a n _ HH.out HS.out hn).mono ?_
 rintro e w1 ⟨rfl, m, rfl⟩
 have i1 : (a : Int) + (n : Int) ≤ (s.size : Int) := by omega
 go_wp2
 go_quiet (fail)
 go_wp2
 go_ret2
 refine ⟨rfl, ?_, (grown_drewN _ _ _).trans (grown_set _ _ _ _)⟩
 have e : ((a + n : Nat) : Int) = (a : Int) + (n : Int) := by omega
 rw [e]
 exact (HH.out.drewN _).set _

set_option maxHeartbeats 400000 in
theorem take_no {T : Nat} (p : Nat) (s : ByteArray) (a n : Int) (w : World) (h : RdT T w p s a) (hs : s.size ≤ maxLen) (hn : n < 0 ∨ a < 0 ∨ s.size < a ∨ s.size - a < n) :
   Calls Try.prog 67 #[.pointer (some ⟨p, 0, none⟩), .int .i64 n] w fun e w' => e = .returned (.tuple #[.string ⟨#[]⟩, .bool false]) ∧ ∃ n, w' = w.drewN n := by
 have HH := Lib.hid h
 have HN := Lib.hid hn
 clear h hn
 go_enter Try.func67, Try.ntmps67
 go_wp2_with fail
 refine (has_no p s a n _ HH.out hs HN.out).mono ?_
 rintro e w1 ⟨rfl, m, rfl⟩
 go_wp2
 go_ret2
 exact ⟨rfl, _, rfl⟩
theorem ofInt_i64 (a : Nat) (ha : a < 9223372036854775808) : (BitVec.ofInt 64 (a : Int)).toNat = a := by
 rw [BitVec.ofInt_natCast, BitVec.toNat_ofNat]; exact Nat.mod_eq_of_lt (by omega)
theorem i64_or_nat (a b : Nat) (ha : a < 9223372036854775808) (hb : b < 9223372036854775808) : bits .or .i64 (a : Int) (b : Int) = ((a ||| b : Nat) : Int) := by
 have hx : a ||| b < 2 ^ 63 := Nat.or_lt_two_pow (by omega) (by omega)
 show IntKind.i64.wrap ((BitVec.ofInt 64 (a : Int) ||| BitVec.ofInt 64 (b : Int)).toNat : Int) = _
 rw [BitVec.toNat_or, ofInt_i64 a ha, ofInt_i64 b hb, IntKind.wrap_i64]
 omega
theorem fixVal_take (s : ByteArray) (k : Nat) (h : k < s.size) : fixVal (s.data.toList.take (k + 1)) = fixVal (s.data.toList.take k) + 2 ^ (8 * k) * s[k].toNat := by
 rw [take_snoc s k h, fixVal_snoc, List.length_take]
 have e2 : min k s.data.toList.length = k := by simp; omega
 rw [e2]
theorem fixVal_take_lt (l : List UInt8) (k : Nat) : fixVal (l.take k) < 2 ^ (8 * k) := by
 refine Nat.lt_of_lt_of_le (fixVal_lt _) ?_
 exact Nat.pow_le_pow_right (by omega) (by have := List.length_take_le k l; omega)
theorem part_list (s : ByteArray) (a b : Nat) : (s.extract a (a + b)).data.toList = (s.data.toList.drop a).take b := by
 simp only [ByteArray.data_extract, Array.toList_extract, List.extract_eq_take_drop]
 congr 1
 omega

theorem or_byte (v k c : Nat) (hk : k < 4) (hv : v < 2 ^ (8 * k)) (hc : c < 256) : bits .or .i64 (v : Int) (wrap64 ((c : Int) * 2 ^ (8 * k))) = ((v + 2 ^ (8 * k) * c : Nat) : Int) := by
 have hp : 2 ^ (8 * k) ≤ 2 ^ 24 := Nat.pow_le_pow_right (by omega) (by omega)
 have hm : 2 ^ (8 * k) * c ≤ 2 ^ 24 * 256 := Nat.mul_le_mul hp (by omega)
 have e : (c : Int) * 2 ^ (8 * k) = ((2 ^ (8 * k) * c : Nat) : Int) := by rw [Int.natCast_mul, Int.mul_comm]; simp
 have e2 : wrap64 ((2 ^ (8 * k) * c : Nat) : Int) = ((2 ^ (8 * k) * c : Nat) : Int) := by unfold wrap64; omega
 rw [e, e2, i64_or_nat _ _ (by omega) (by omega), Nat.or_comm, ← Nat.two_pow_add_eq_or_of_lt hv, Nat.add_comm]

set_option maxHeartbeats 400000 in
theorem takeFix_yes {T : Nat} (p : Nat) (s : ByteArray) (a b : Nat) (w : World) (h : RdT T w p s a) (hs : s.size ≤ maxLen) (h1 : 1 ≤ b) (h4 : b ≤ 4) (hn : a + b ≤ s.size) :
   Calls Try.prog 59 #[.pointer (some ⟨p, 0, none⟩), .int .i64 b] w fun e w' => e = .returned (.tuple #[.int .i64 (fixVal ((s.data.toList.drop a).take b)), .bool true]) ∧ RdT T w' p s (a + b : Nat) ∧ w.grownBy w' (some p) := by
 have HH := Lib.hid h
 clear h
 go_enter Try.func59, Try.ntmps59
 go_wp2_with fail
 refine (take_yes p s a b _ HH.out hs hn).mono ?_
 rintro e w1 ⟨rfl, hr, hg⟩
 have HX := Lib.hid (And.intro hr hg)
 clear hr hg
 unfold maxLen at hs
 have hz : (s.extract a (a + b)).size = b := by rw [ByteArray.size_extract]; omega
 have hq := part_list s a b
 generalize s.extract a (a + b) = q at hz hq ⊢
 have HQ := Lib.hid hq
 have hz1 : q.size ≤ 4 := by omega
 have HZ := Lib.hid hz
 clear hq hz
 go_wp2_with fail
 go_loop [8, 26] (fun n i => ∃ k : Nat, k ≤ q.size ∧ i = .int .i64 k ∧ n = .int .i64 (fixVal (q.data.toList.take k))) (fun _ i => q.size - (intOf i).toNat)
 case atStart => exact ⟨0, Nat.zero_le _, rfl, rfl⟩
 case round =>
   obtain ⟨k, hk, rfl, rfl⟩ := hrel
   by_cases hlt : k < q.size
   · have HV := Lib.hid (fixVal_take q k hlt)
     have hv := fixVal_take_lt q.data.toList k
     have hc := q[k].toNat_lt
     have HO := Lib.hid (or_byte _ k q[k].toNat (by omega) hv (by omega))
     have i1 : (k : Int) < (q.size : Int) := by omega
     clear hv
     go_wp2
     go_round
     case rel => exact ⟨k + 1, by omega, by go_num, congrArg (Value.int IntKind.i64) (by rw [HO.out, HV.out])⟩
     case measure => simp [intOf]; omega
   · obtain rfl : k = q.size := by omega
     have e0 : q.data.toList.take q.size = q.data.toList := List.take_of_length_le (by simp)
     rw [e0]
     clear e0
     go_wp2
     go_ret2
     exact ⟨congrArg (fun l => Ending.returned (.tuple #[.int .i64 (fixVal l : Nat), .bool true])) HQ.out, HX.out.1, HX.out.2⟩

set_option maxHeartbeats 400000 in
theorem takeFix_no {T : Nat} (p : Nat) (s : ByteArray) (a b : Int) (w : World) (h : RdT T w p s a) (hs : s.size ≤ maxLen) (hn : b < 1 ∨ 4 < b ∨ a < 0 ∨ s.size < a ∨ s.size - a < b) :
   Calls Try.prog 59 #[.pointer (some ⟨p, 0, none⟩), .int .i64 b] w fun e w' => e = .returned (.tuple #[.int .i64 0, .bool false]) ∧ ∃ n, w' = w.drewN n := by
 have HH := Lib.hid h
 have HN := Lib.hid hn
 clear h hn
 by_cases h1 : b < 1
 · go_enter Try.func59, Try.ntmps59
   go_wp2
   go_ret2
   exact ⟨rfl, 0, rfl⟩
 · by_cases h4 : 4 < b
   · go_enter Try.func59, Try.ntmps59
     go_wp2
     go_ret2
     exact ⟨rfl, 0, rfl⟩
   · go_enter Try.func59, Try.ntmps59
     go_wp2_with fail
     refine (take_no p s a b _ HH.out hs (by have := HN.out; omega)).mono ?_
     rintro e w1 ⟨rfl, m, rfl⟩
     go_wp2
     go_ret2
     exact ⟨rfl, _, rfl⟩
theorem getFix_no {l : List UInt8} {a b : Int} (h : b < 1 ∨ 4 < b ∨ a < 0 ∨ l.length < a ∨ l.length - a < b) : getFix l a b = -1 := by unfold getFix; rw [if_neg (by omega)]
theorem getFix_yes {l : List UInt8} {a b : Nat} (h1 : 1 ≤ b) (h4 : b ≤ 4) (h : a + b ≤ l.length) : getFix l a b = fixVal ((l.drop a).take b) := by
 unfold getFix; rw [if_pos (by omega)]; simp

def IntIs (w : World) (n : Int) (e : Ending) (w' : World) : Prop := e = .returned (.int .i64 n) ∧ Below w.heap.size w w'

theorem below_rd {w w1 : World} {o : Obj} (g : (w.alloc o).grownBy w1 (some w.heap.size)) : Below w.heap.size w w1 := below_new (World.grownBy_alloc w o none) g

set_option maxHeartbeats 400000 in
theorem implGetFix (s : ByteArray) (a b : Int) (w : World) (hs : s.size ≤ maxLen) :
   Calls Try.prog 36 #[.string s, .int .i64 a, .int .i64 b] w (IntIs w (getFix s.data.toList a b)) := by
 have hl : s.data.toList.length = s.size := by simp
 by_cases hn : b < 1 ∨ 4 < b ∨ a < 0 ∨ s.size < a ∨ s.size - a < b
 · have HR := Lib.hid (getFix_no (l := s.data.toList) (by rw [hl]; exact hn))
   have HN := Lib.hid hn
   clear hn hl
   go_enter Try.func36, Try.ntmps36
   go_wp2_with fail
   refine (takeFix_no _ s a b _ (rd_new w s a) hs HN.out).mono ?_
   rintro e w1 ⟨rfl, m, rfl⟩
   go_wp2
   go_ret
   exact ⟨ret_int HR.out.symm, ((Below.refl _ _).alloc (Nat.le_refl _) _).trans (below_draws _)⟩
 · obtain ⟨a, rfl⟩ := Int.eq_ofNat_of_zero_le (by omega : 0 ≤ a)
   obtain ⟨b, rfl⟩ := Int.eq_ofNat_of_zero_le (by omega : 0 ≤ b)
   have h1 : 1 ≤ b := by omega
   have h4 : b ≤ 4 := by omega
   have h5 : a + b ≤ s.size := by omega
   have HR := Lib.hid (getFix_yes (l := s.data.toList) h1 h4 (by rw [hl]; exact h5))
   clear hn hl
   go_enter Try.func36, Try.ntmps36
   go_wp2_with fail
   refine (takeFix_yes _ s a b _ (rd_new w s a) hs h1 h4 h5).mono ?_
   rintro e w1 ⟨rfl, hr, hg⟩
   have HG := Lib.hid hg
   clear hr hg
   go_wp2
   go_ret
   exact ⟨ret_int HR.out.symm, below_rd HG.out⟩
theorem len_of_drop {s x : List UInt8} {q : Nat} (h : s.drop q = x) (hx : x ≠ []) : q + x.length = s.length := by
 have h1 := congrArg List.length h
 rw [List.length_drop] at h1
 have h2 := List.length_pos_iff.2 hx
 omega
theorem frag_ne (k : Nat) (t x : List UInt8) : fragB k t ++ x ≠ [] := by
 intro h
 have h1 := congrArg List.length h
 rw [List.length_append, frag_len, List.length_nil] at h1
 omega
theorem frag_reads {s t z : List UInt8} {q k : Nat} (h : s.drop q = fragB k t ++ z) (hk : k < 256) (ht : t.length ≤ 57) :
   q + 7 + t.length ≤ s.length ∧ getFix s ((q + 4 : Nat) : Int) 2 = (t.length : Int) ∧ getFix s ((q + 6 : Nat) : Int) 1 = (k : Int) ∧ (s.drop (q + 7)).take t.length = t ∧ (s.drop q).take (t.length + 7) = fragB k t ∧ s.drop (q + 7 + t.length) = z := by
 have hl := len_of_drop h (frag_ne k t z)
 rw [List.length_append, frag_len] at hl
 have e1 : s.drop q = fixB (crc (UInt8.ofNat k :: t)) 4 ++ (fixB t.length 2 ++ (UInt8.ofNat k :: (t ++ z))) := by
   rw [h]
   unfold fragB
   simp
 have e2 : s.drop (q + 4) = fixB t.length 2 ++ (UInt8.ofNat k :: (t ++ z)) := by
   rw [← List.drop_drop, e1, List.drop_left' (fix_length _ _)]
 have e3 : s.drop (q + 6) = UInt8.ofNat k :: (t ++ z) := by
   rw [show q + 6 = q + 4 + 2 by omega, ← List.drop_drop, e2, List.drop_left' (fix_length _ _)]
 have e4 : s.drop (q + 7) = t ++ z := by
   rw [show q + 7 = q + 6 + 1 by omega, ← List.drop_drop, e3]
   rfl
 refine ⟨by omega, ?_, ?_, ?_, ?_, ?_⟩
 · refine (getFix_yes (l := s) (a := q + 4) (b := 2) (by omega) (by omega) (by omega)).trans ?_
   rw [e2, List.take_left' (fix_length _ _), fixVal_fix, Nat.mod_eq_of_lt (by omega)]
 · refine (getFix_yes (l := s) (a := q + 6) (b := 1) (by omega) (by omega) (by omega)).trans ?_
   rw [e3]
   show ((fixVal [UInt8.ofNat k] : Nat) : Int) = _
   have : fixVal [UInt8.ofNat k] = k := by
     show (UInt8.ofNat k).toNat + 256 * 0 = k
     rw [UInt8.toNat_ofNat', Nat.mod_eq_of_lt (by omega)]
     omega
   rw [this]
 · rw [e4, List.take_left]
 · rw [h, List.take_left' (frag_len _ _)]
 · rw [show q + 7 + t.length = q + 7 + t.length by rfl, ← List.drop_drop, e4, List.drop_left]
def Reading1 (s : List UInt8) (at_ p : Nat) (T : List UInt8) : Prop :=
 ∀ r y, r.length ≤ 300 → s.drop at_ = putRec at_ true r ++ y → ∃ fst r2, r = T ++ r2 ∧ s.drop p = putRec p fst r2 ++ y ∧ at_ + (putRec at_ true r).length = p + (putRec p fst r2).length
theorem reading_start (s : List UInt8) (at_ : Nat) : Reading1 s at_ at_ [] := fun r y _ h => ⟨true, r, rfl, h, rfl⟩
theorem reading_frag {s T : List UInt8} {at_ p : Nat} (h : Reading1 s at_ p T) {r y : List UInt8} (hr : r.length ≤ 300) (hs : s.drop at_ = putRec at_ true r ++ y) :
   ∃ k t z, 1 ≤ k ∧ k ≤ 4 ∧ t.length ≤ 57 ∧ T.length + t.length ≤ 300 ∧ s.drop (p + padAt p) = fragB k t ++ z ∧
     (((k = 1 ∨ k = 4) ∧ r = T ++ t ∧ at_ + (putRec at_ true r).length = p + padAt p + 7 + t.length) ∨
      ((k = 2 ∨ k = 3) ∧ ∃ r2, r = (T ++ t) ++ r2 ∧ t.length = roomAt p ∧ z = putRec (p + padAt p + 7 + roomAt p) false r2 ++ y ∧ at_ + (putRec at_ true r).length = p + padAt p + 7 + roomAt p + (putRec (p + padAt p + 7 + roomAt p) false r2).length)) := by
 obtain ⟨fst, r2, h1, h2, h3⟩ := h r y hr hs
 have hrm := room_le p
 have hrl : r.length = T.length + r2.length := by rw [h1, List.length_append]
 by_cases hf : r2.length ≤ roomAt p
 · rw [putRec_fits hf] at h2 h3
   refine ⟨if fst then 1 else 4, r2, y, by split <;> omega, by split <;> omega, by omega, by omega, ?_, .inl ⟨by cases fst <;> simp, h1, ?_⟩⟩
   · rw [← List.drop_drop, h2, List.append_assoc, List.drop_left' (by rw [List.length_replicate])]
   · rw [h3, List.length_append, List.length_replicate, frag_len]; omega
 · rw [putRec_more hf] at h2 h3
   have htl : (r2.take (roomAt p)).length = roomAt p := by rw [List.length_take]; omega
   refine ⟨if fst then 2 else 3, r2.take (roomAt p), putRec (p + padAt p + 7 + roomAt p) false (r2.drop (roomAt p)) ++ y, by split <;> omega, by split <;> omega, by omega, by omega, ?_, .inr ⟨by cases fst <;> simp, r2.drop (roomAt p), ?_, htl, rfl, ?_⟩⟩
   · rw [← List.drop_drop, h2]
     simp only [List.append_assoc]
     rw [List.drop_left' (by rw [List.length_replicate])]
   · rw [List.append_assoc, List.take_append_drop]; exact h1
   · rw [h3, List.length_append, List.length_append, List.length_replicate, frag_len, htl]; omega
theorem reading_step {s T : List UInt8} {at_ p : Nat} (h : Reading1 s at_ p T) {k : Nat} {t : List UInt8} (hk : k ≠ 1 ∧ k ≠ 4) (hf : ∀ k' t' z, 1 ≤ k' → k' ≤ 4 → t'.length ≤ 57 → s.drop (p + padAt p) = fragB k' t' ++ z → k' = k ∧ t' = t) : Reading1 s at_ (p + padAt p + 7 + t.length) (T ++ t) := by
 intro r y hr hs
 obtain ⟨k', t', z, g1, g2, g3, _, g4, g5⟩ := reading_frag h hr hs
 obtain ⟨rfl, rfl⟩ := hf k' t' z g1 g2 g3 g4
 rcases g5 with ⟨h1, _⟩ | ⟨_, r2, h1, h2, h3, h4⟩
 · omega
 · refine ⟨false, r2, h1, ?_, ?_⟩
   · have h5 := (frag_reads g4 (by omega) g3).2.2.2.2.2
     rw [h5, h3, h2]
   · rw [h4, h2]
def RoundEnd (l : Nat) (r : Loop) (G S : World → Prop) : Exit → Act → World → Prop
 | .normal, _, W => W.heap[l]? = some (.loop { r with state := .busy }) ∧ G (W.putObj l (.loop { r with state := .ready, pending := none }))
 | .ret, _, W => W.heap[l]? = some (.loop { r with state := .busy }) ∧ S (W.putObj l (.loop { r with state := .done, pending := some .ret }))
 | _, _, _ => False
theorem yield_at {F : Fence} {n l : Nat} {P : Program} {r : Loop} {args : Array Value} {W : World} {G S : World → Prop} (hl : W.heap[l]? = some (.loop r)) (hs : r.state = .ready) (hp : args.size = r.params.size) (hF : F.fn r.fn)
   (h : r.assign.wpIn (F.inRound l) n P (Exit.then (fun a1 W1 => W1.heap[l]? = some (.loop r) ∧ r.body.wpIn (F.inRound l) n P (RoundEnd l r G S) a1 (W1.putObj l (.loop { r with state := .busy }))) (fun _ _ _ => False))
     { tmps := (r.params.zip args).foldl (fun tmps (t, a) => tmps.setIfInBounds t a) r.tmps, defers := [] } W) :
   YieldAt F n P l args W fun e W' => (e = .returned (.bool true) ∧ G W') ∨ (e = .returned (.bool false) ∧ S W') := by
 refine ⟨_, _, _, _, run_yield hl hp, roundIn_of_wpIn hF (wpIn_mono h ?_)⟩
 intro e a1 W1 h1
 cases e with
 | normal =>
   obtain ⟨h1, h2⟩ := h1
   refine ⟨_, run_beginRound h1 hs, wpIn_mono h2 ?_⟩
   intro e2 a2 W2 h3
   cases e2 with
   | normal => exact ⟨_, _, run_endRound (P := P) none h3.1, .inl ⟨rfl, h3.2⟩⟩
   | ret => exact ⟨_, _, run_endRound (P := P) (some .ret) h3.1, .inr ⟨rfl, h3.2⟩⟩
   | exit _ => exact h3.elim
   | goto _ => exact h3.elim
   | panic _ => exact h3.elim
   | outgrown => exact h3.elim
 | exit _ => exact h1.elim
 | ret => exact h1.elim
 | goto _ => exact h1.elim
 | panic _ => exact h1.elim
 | outgrown => exact h1.elim
theorem yield_of {F : Fence} {n l : Nat} {P : Program} {r : Loop} {ps : Array Tmp} {assign body : Code} {tmps : Array Value} {args : Array Value} {W : World} {G S : World → Prop} (hps : r.params = ps) (hra : r.assign = assign) (hrb : r.body = body) (hrt : r.tmps = tmps) (hl : W.heap[l]? = some (.loop r)) (hs : r.state = .ready) (hp : args.size = ps.size) (hF : F.fn r.fn)
   (h : assign.wpIn (F.inRound l) n P (Exit.then (fun a1 W1 => W1.heap[l]? = some (.loop r) ∧ body.wpIn (F.inRound l) n P (RoundEnd l r G S) a1 (W1.putObj l (.loop { r with state := .busy }))) (fun _ _ _ => False))
     { tmps := (ps.zip args).foldl (fun tmps (t, a) => tmps.setIfInBounds t a) tmps, defers := [] } W) :
   YieldAt F n P l args W fun e W' => (e = .returned (.bool true) ∧ G W') ∨ (e = .returned (.bool false) ∧ S W') := by
 subst hps hra hrb hrt
 exact yield_at hl hs hp hF h
theorem range_at {F : Fence} {n : Nat} {P : Program} {g : Operand} {ps : Array Tmp} {assign body : Code} {Q : Exit → Act → World → Prop} {a : Act} {w : World} (hro : F.round = none) (h1 : 1 ≤ n) {gf : Nat} {lb : Array Value} (hg : a.eval g = .func (.func gf) #[] lb) (hFg : F.fn gf)
   (eg : ∀ args w, (callFunc gf args).run P w = .ok (.enter gf args) w)
   (h : ∀ (r : Loop), F.fn r.fn → r.state = .ready → r.pending = none → r.tmps = a.tmps → r.params = ps → r.assign = assign → r.body = body →
     CallsIn F (n - 1) P gf (#[.func (.yield (w.heap.size + 1)) #[] #[]] ++ lb) ((w.alloc (.deferred (some []))).alloc (.loop r)) fun e W => (∃ v, e = .returned v) ∧
       ((W.heap[w.heap.size + 1]? = some (.loop r) ∧ Q .normal { a with defers := { target := .collected w.heap.size, args := #[] } :: a.defers } (W.putObj (w.heap.size + 1) (.loop { r with state := .exhausted }))) ∨
        (W.heap[w.heap.size + 1]? = some (.loop { r with state := .done, pending := some .ret }) ∧ Q .ret { a with defers := { target := .collected w.heap.size, args := #[] } :: a.defers } (W.putObj (w.heap.size + 1) (.loop { r with state := .exhausted, pending := some .ret }))))) :
   (Code.rangeFunc g ps assign body).wpIn F n P Q a w := by
 refine wpIn_rangeFunc (fun fn hfn => ?_)
 have hc := h { state := .ready, pending := none, fn, tmps := a.tmps, params := ps, assign, body, defers := w.heap.size } hfn rfl rfl rfl rfl rfl rfl
 rw [hro]
 refine ⟨_, _, _, { target := .fn (.func gf) lb, args := #[.func (.yield (w.heap.size + 1)) #[] #[]] }, ((w.alloc (.deferred (some []))).alloc (.loop { state := .ready, pending := none, fn, tmps := a.tmps, params := ps, assign, body, defers := w.heap.size })), gf, _, _, run_enterLoop_outer _ _ _ _ _, ?_, ?_, ?_, fun _ => h1, hc.mono ?_⟩
 · simp only [resolve, hg]
   simp [go_sem]
 · intro f hf
   simp [Target.leads] at hf
   subst hf
   exact hFg
 · simp [invoke, go_sem, eg]
 · rintro e W ⟨⟨v, rfl⟩, (⟨hl, hq⟩ | ⟨hl, hq⟩)⟩
   · exact ⟨_, _, run_endLoop (P := P) hl (by simp), hq⟩
   · exact ⟨_, _, run_endLoop (P := P) hl (by simp), wpIn_ret hq⟩
theorem take_at {P : Program} {ops : Array Oper} {Q : Exit → Act → World → Prop} {md : Region.Mode} {i : Nat} {oi : Oper} {d : Option Nat} {v : Value} {fuel : Nat} {listed : Array Bool} {a : Act} {w : World} (hi : ops[i]? = some oi) (hd : oi.dst = d)
   (hs : Region.noSelect ops = true) (hf : Region.free md ops listed i = true) (hr : (Region.ready md ops listed).contains i = true)
   (hQ : ∀ c a w, Q (.panic c) (a.put oi.dst v) w → Q (.panic c) a w) (hw : Region.wanted oi (yielded ops a.tmps) = true) (hy : ∀ w, (execOp a.eval oi).run P w = .ok (.value v) w)
   (h : wpAnyH P md ops Q (fun _ => True) fuel (listed.setIfInBounds i true) (a.put d v) w) : wpAnyH P md ops Q (fun _ => True) (fuel + 1) listed a w := by
 subst hd
 exact wpAnyH_take hi hs hf hr hQ (Or.inl ⟨hw, fun w _ => hy w⟩) trivial h
theorem takeS_at {P : Program} {ops : Array Oper} {Q : Exit → Act → World → Prop} {S : World → Prop} {md : Region.Mode} {i : Nat} {oi : Oper} {d : Option Nat} {v : Value} {fuel : Nat} {listed : Array Bool} {a : Act} {w : World} (hi : ops[i]? = some oi) (hd : oi.dst = d)
   (hs : Region.noSelect ops = true) (hf : Region.free md ops listed i = true) (hr : (Region.ready md ops listed).contains i = true)
   (hQ : ∀ c a w, Q (.panic c) (a.put oi.dst v) w → Q (.panic c) a w) (hw : Region.wanted oi (yielded ops a.tmps) = true) (hy : ∀ w, S w → (execOp a.eval oi).run P w = .ok (.value v) w) (hS : S w)
   (h : wpAnyH P md ops Q S fuel (listed.setIfInBounds i true) (a.put d v) w) : wpAnyH P md ops Q S (fuel + 1) listed a w := by
 subst hd
 exact wpAnyH_take hi hs hf hr hQ (Or.inl ⟨hw, hy⟩) hS h
theorem tk {P : Program} {ops : Array Oper} {Q : Exit → Act → World → Prop} {S : World → Prop} {md : Region.Mode} {oi : Oper} {fuel : Nat} {listed : Array Bool} {a : Act} {w : World} (i : Nat) (d : Option Nat) (v : Value)
   (hy : ∀ w, S w → (execOp a.eval oi).run P w = .ok (.value v) w) (hS : S w) (h : wpAnyH P md ops Q S fuel (listed.setIfInBounds i true) (a.put d v) w) (hi : ops[i]? = some oi := by rfl) (hd : oi.dst = d := by rfl)
   (hs : Region.noSelect ops = true := by kernel_rfl) (hf : Region.free md ops listed i = true := by kernel_rfl) (hr : (Region.ready md ops listed).contains i = true := by kernel_rfl)
   (hQ : ∀ c a w, Q (.panic c) (a.put oi.dst v) w → Q (.panic c) a w := by exact fun _ _ _ h => h) (hw : Region.wanted oi (yielded ops a.tmps) = true := by rfl) : wpAnyH P md ops Q S (fuel + 1) listed a w :=
 takeS_at hi hd hs hf hr hQ hw hy hS h
theorem sA {α : Type _} (l : List α) (i : Nat) (a : α) : l.toArray.setIfInBounds i a = (l.set i a).toArray := List.setIfInBounds_toArray l i a
theorem sB {α : Type _} (x y : α) (l : List α) : (x :: l).set 0 y = y :: l := rfl
theorem sC {α : Type _} (x y : α) (l : List α) (i : Nat) : (x :: l).set (i + 1) y = x :: l.set i y := rfl
theorem specIn_yes (x a b : Int) (w : World) (h1 : a ≤ x) (h2 : x ≤ b) :
   Calls Try.prog 51 #[.int .i64 x, .int .i64 a, .int .i64 b] w fun e w' => e = .returned (.bool true) ∧ w = w' := by
 go_enter Try.func51, Try.ntmps51
 go_wp2
 go_ret
 exact ⟨by simp, rfl⟩
theorem specIn_no (x a b : Int) (w : World) (h : x < a ∨ b < x) :
   Calls Try.prog 51 #[.int .i64 x, .int .i64 a, .int .i64 b] w fun e w' => e = .returned (.bool false) ∧ w = w' := by
 by_cases h1 : a ≤ x
 · have h2 : ¬ x ≤ b := by omega
   clear h
   go_enter Try.func51, Try.ntmps51
   go_wp2
   go_ret
   exact ⟨by simp, rfl⟩
 · clear h
   go_enter Try.func51, Try.ntmps51
   go_wp2
   go_ret
   exact ⟨by simp, rfl⟩
theorem alloc_at (w : World) (o : Obj) : (w.alloc o).heap[w.heap.size]? = some o := by
 show (w.heap.push o)[w.heap.size]? = some o
 simp
theorem one_below (w : World) (o : Obj) : Below w.heap.size w (w.alloc o) := (Below.refl _ w).alloc (Nat.le_refl _) o
def zerosObj (n : Nat) : Obj := .cells (Array.replicate n (.int .u8 0)) 5
theorem zeros_cell (n : Nat) (w : World) (j : Nat) (hj : j < n) : (w.alloc (zerosObj n)).cell? ⟨w.heap.size, j, none⟩ = some (.int .u8 0) := by
 unfold zerosObj
 rw [fresh_cell]
 simp [hj]
theorem madeCells_zero (n : Nat) : madeCells #[Value.int .u8 0] n = Array.replicate n (.int .u8 0) := by
 apply Array.ext
 · simp [madeCells]
 · intro j h1 h2
   simp [madeCells, Nat.mod_one]
theorem zeros_made (n : Nat) (w : World) (hn : n ≤ 10000) : (Instr.makeSlice 22 (.int .i64 n) (.int .i64 n)).run Try.prog w = .ok (.slice (some ⟨w.heap.size, 0, none⟩) n n) (w.alloc (zerosObj n)) := by
 obtain ⟨ti, hti, hz0, hz1, hz2⟩ := info_parts infoB
 have h := run_makeSlice (P := Try.prog) w 22 5 ti (.int .u8 0) Try.underlying22 hti hz0 .i64 .i64 n n (by omega) (by omega) (by rw [hz1]; simp; omega) (by rw [hz2]; omega) (by omega)
 rw [hz1, Int.toNat_natCast, Nat.mul_one] at h
 have e : (Value.int IntKind.u8 0).cells = #[Value.int .u8 0] := rfl
 rw [e, madeCells_zero] at h
 exact h
theorem zeros_text (n : Nat) (w : World) : (convert 22 9 (.slice (some ⟨w.heap.size, 0, none⟩) n n)).run Try.prog (w.alloc (zerosObj n)) = .ok (.string ⟨(List.replicate n 0).toArray⟩) (w.alloc (zerosObj n)) :=
 str_of_cells (List.replicate n 0) (by simp) (fun j hj => by
   rw [List.length_replicate] at hj
   rw [zeros_cell n w j hj]
   unfold u8v
   simp [List.getD_eq_getElem?_getD, hj])
def OwnS (B : Nat) (w : World) (v : Value) (xs : List ByteArray) : Prop := w.ownsRow B 9 1 v xs.length (xs.map Value.string)
section
variable {B : Nat} {w w' : World} {v : Value} {xs : List ByteArray}
theorem OwnS.form (h : OwnS B w v xs) : ∃ ad cap, v = .slice ad xs.length cap := str_form h
theorem OwnS.row {a : Option Addr} {n c : Nat} (h : OwnS B w (.slice a n c) xs) : StrAt w a n c xs := by
 obtain ⟨ad, cap, e⟩ := h.form
 cases e
 exact str_row h
theorem OwnS.below (h : OwnS B w v xs) (hb : Below w.heap.size w w') : OwnS B w' v xs := by
 refine World.ownsRow.kept h (grown_of_below hb) ?_
 cases hv : v.ownBlock <;> simp
theorem OwnS.new (h : OwnS B w v xs) (o : Obj) : OwnS B (w.alloc o) v xs := World.ownsRow.alloc h o
theorem OwnS.lt (h : OwnS B w v xs) {k : Nat} (hk : v.ownBlock = some k) : B ≤ k ∧ k < w.heap.size := World.ownsRow.lt h k hk
theorem owns_made (w : World) : OwnS w.heap.size (w.alloc (.cells #[] 9)) (.slice (some ⟨w.heap.size, 0, none⟩) 0 0) [] := World.ownsRow_made w #[] 0 (Nat.le_refl _) (by unfold maxLen; omega) (by simp)
theorem owns_base {B' : Nat} (h : OwnS B w v xs) (hb : B' ≤ B) : OwnS B' w v xs := by
 refine ⟨h.1, ?_⟩
 rcases h.2 with h2 | ⟨g, cap, cur, h1, h2, r⟩
 · exact .inl h2
 · exact .inr ⟨g, cap, cur, h1, Nat.le_trans hb h2, r⟩
theorem OwnS.grown {p : Nat} (h : OwnS B w v xs) (hg : w.grownBy w' (some p)) (hp : p < B) : OwnS B w' v xs := by
 refine World.ownsRow.kept h hg ?_
 cases hv : v.ownBlock with
 | none => exact .inl rfl
 | some k =>
   refine .inr (fun e => ?_)
   have := (h.lt hv).1
   cases e
   omega
end
theorem op_pushW {B : Nat} {w : World} {v : Value} {xs : List ByteArray} (ys : List ByteArray) {ad : Addr} {c : Nat} {o : Oper} {act : Act} {K : Act → World → Prop} {Q : Exit → Act → World → Prop} (s x : Operand)
   (hop : o.op = .call { callee := .builtin .append, args := #[s, x], argTypes := #[24, 24] })
   (hs : act.eval s = v) {m : Nat} (hx : act.eval x = .slice (some ad) m c) (hm : ys.length = m) (hb : ∀ j u, (ys.map Value.string)[j]? = some u → w.cell? (ad.add j) = some u) (h : OwnS B w v xs) (hB : B ≤ w.heap.size) (hl : xs.length + ys.length < 4194304)
   (hk : ∀ v' w', OwnS B w' v' (xs ++ ys) → w.grownBy w' v.ownBlock → K (act.put o.dst v') w') : o.wp Try.prog act w K Q := by
 subst hm
 obtain ⟨ti, hti, hz0, hz1, hz2⟩ := info_parts infoStr
 refine wp_append_own _ s x 24 hop B 9 ti (.string ⟨#[]⟩) 1 16 Try.underlying24 hti hz0 hz1 hz2 rfl (by decide) v xs.length (xs.map Value.string) hs h
   ad ys.length c (ys.map Value.string) hx (by simp) hb (by simp [Value.oneCell']) (by unfold maxLen; omega) (by omega) hB ?_
 intro v' w' hown hg _
 refine hk v' w' ?_ hg
 unfold OwnS
 rw [List.length_append, List.map_append]
 exact hown
theorem new_text (w : World) (x : ByteArray) : ∀ j u, ([x].map Value.string)[j]? = some u → (w.alloc (.cells #[.string x] 9)).cell? ((⟨w.heap.size, 0, none⟩ : Addr).add j) = some u := by
 intro j u hj
 have e : (⟨w.heap.size, 0, none⟩ : Addr).add j = ⟨w.heap.size, j, none⟩ := by
   unfold Addr.add; split
   · subst_vars; rfl
   · simp
 rw [e]
 have hb : (w.alloc (.cells #[.string x] 9)).heap[w.heap.size]? = some (.cells #[.string x] 9 (0, 0)) := by
   show (w.heap.push _)[w.heap.size]? = _
   simp
 simp only [World.cell?, hb]
 simpa using hj
structure Keyed (w W : World) (T p : Nat) (a : Option Addr) (len cap : Nat) (zs : List Int) (i : Nat) (h : Int) (v : Value) (xs : List ByteArray) : Prop where
 own : OwnS w.heap.size W v xs
 cur : CurAt W T p a len cap zs i h
 grow : w.grownBy W (some p)
section
variable {w W W' : World} {T p : Nat} {a : Option Addr} {len cap : Nat} {zs : List Int} {i i' : Nat} {h h' : Int} {v v' : Value} {xs xs' : List ByteArray}
theorem Keyed.draw (d : Keyed w W T p a len cap zs i h v xs) (hp : p < w.heap.size) (hg : W.grownBy W' (some p)) (cu : CurAt W' T p a len cap zs i' h') : Keyed w W' T p a len cap zs i' h' v xs := ⟨d.own.grown hg hp, cu, d.grow.trans hg⟩
theorem Keyed.new (d : Keyed w W T p a len cap zs i h v xs) (o : Obj) : Keyed w (W.alloc o) T p a len cap zs i h v xs := ⟨d.own.new o, d.cur.new o, d.grow.trans (World.grownBy_alloc _ _ _)⟩
theorem Keyed.below (d : Keyed w W T p a len cap zs i h v xs) (hb : Below W.heap.size W W') : Keyed w W' T p a len cap zs i h v xs :=
 ⟨d.own.below hb, d.cur.below hb, ⟨hb.os.trans d.grow.os, hb.tape.trans d.grow.tape, hb.output.trans d.grow.output, Nat.le_trans d.grow.size hb.size, fun k hk hne => (hb.block k (by have := d.grow.size; omega)).trans (d.grow.block k hk hne)⟩⟩
theorem Keyed.push (d : Keyed w W T p a len cap zs i h v xs) (hp : p < w.heap.size) (hr : ∀ x, a = some x → x.block < w.heap.size ∨ len = 0) (o : OwnS w.heap.size W' v' xs') (gr : W.grownBy W' v.ownBlock) : Keyed w W' T p a len cap zs i h v' xs' := by
 have hb : ∀ k, v.ownBlock = some k → w.heap.size ≤ k := fun k e => (d.own.lt e).1
 refine ⟨o, d.cur.kept gr (fun e => ?_) (fun x hx => ?_), ⟨gr.os.trans d.grow.os, gr.tape.trans d.grow.tape, gr.output.trans d.grow.output, Nat.le_trans d.grow.size gr.size, fun k hk hne => (gr.block k (Nat.lt_of_lt_of_le hk d.grow.size) (fun e => ?_)).trans (d.grow.block k hk hne)⟩⟩
 · have := hb p e.symm
   omega
 · rcases hr x hx with h1 | h1
   · refine .inl (fun e => ?_)
     have := hb _ e.symm
     omega
   · exact .inr h1
 · have := hb k e.symm
   omega
end
theorem as_text {A : ByteArray} {l : List UInt8} (h : A.data.toList = l) : (⟨l.toArray⟩ : ByteArray) = A := bytes_ext (by rw [h])
theorem text_of (l : List UInt8) : ∃ A : ByteArray, A.data.toList = l ∧ A.size = l.length := ⟨⟨l.toArray⟩, rfl, by simp [ByteArray.size]⟩
end Go.Proofs.Ytjcgbpjgoacdjaa
